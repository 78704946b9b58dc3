/- The walk of SeenFewer. -/
import Derived.Test.YtbbndcfnpfedpaaTg
set_option linter.unusedVariables false
set_option linter.unusedSimpArgs false
namespace Go.Proofs.Ytbbndcfnpfedpaa
open Go.RowKit Go.Shelf Go.Maps

attribute [local go_sem] Oper.semAt_some

set_option maxRecDepth 100000 in
set_option maxHeartbeats 32000000 in
theorem seenFewer_any (l : Lan) (u : Int) (v : Int) (w : World) (hL : WdsAt w l.wa l.ws) (_ : (l.ws.length : Int) ≤ 9223372036854775807) (h0 : 0 ≤ u) (h1 : u < 256) (h2 : 0 ≤ v) (h3 : v < 256) :
    Calls Try.prog 12 #[l.val, .int .u8 u, .int .u8 v] w fun e w' => e = .returned (.bool true) ∧ Below w.heap.size w w' := by
  have RD := Lib.hid (fun W (hb : Below w.heap.size w W) => ready_any l W (hL.lo hb))
  have WK := Lib.hid (fun W => wakes_any W)
  have HL := Lib.hid hL
  have X := Lib.hid (BX.mk' l w)
  by_cases hF : faultW l = 0
  · have hF2 := hF
    have hR : decide (faultW l = 0) = true := by simp [hF]
    rw [hR] at RD
    obtain ⟨m, hm⟩ : ∃ m : Nat, u = (m : Int) := ⟨u.toNat, by omega⟩
    obtain ⟨k, hk⟩ : ∃ k : Nat, v = (k : Int) := ⟨v.toNat, by omega⟩
    subst hm
    subst hk
    have hor : bits .or .u8 (m : Int) (k : Int) = ((m ||| k : Nat) : Int) := or8 (by omega) (by omega)
    have hor2 : m ||| k < 256 := Nat.or_lt_two_pow (n := 8) (by omega) (by omega)
    obtain ⟨M, hM⟩ : ∃ M : Int, M = ((m ||| k : Nat) : Int) := ⟨_, rfl⟩
    rw [← hM] at hor
    have CH := Lib.hid (fun W => chosen_any (m : Int) W (by omega) (by omega))
    have CM := Lib.hid (fun W => chosen_any M W (by omega) (by omega))
    obtain ⟨t1, ht1⟩ : ∃ t1, Hid (t1 = chosenL (m : Int)) := ⟨_, Lib.hid rfl⟩
    obtain ⟨t2, ht2⟩ : ∃ t2, Hid (t2 = chosenL M) := ⟨_, Lib.hid rfl⟩
    have HSB := Lib.hid (show SubF l.ws l.ws (offS t1) (offS t2) from sub_off fun t h => by
      rw [offS_mem] at *
      rw [ht2.out, hM]; rw [ht1.out] at h
      exact chosen_or h)
    rw [← ht1.out] at CH
    rw [← ht2.out] at CM
    have HT1 := Lib.hid (show t1.length ≤ 1000 by have := chosenL_len (m : Int); rw [ht1.out]; omega)
    have HT2 := Lib.hid (show t2.length ≤ 1000 by have := chosenL_len M; rw [ht2.out]; omega)
    have C1 := Lib.hid (show chkE l t1 = 0 from chkE_ok hF2 (by rw [ht1.out]; exact chosenL_rise _))
    have C2 := Lib.hid (show chkE l t2 = 0 from chkE_ok hF2 (by rw [ht2.out]; exact chosenL_rise _))
    have C3 := Lib.hid (show chkE l [0, 1, 2, 3] = 0 from chkE_ok hF2 (by decide))
    have EA := Lib.hid (all_off hF2)
    have ES := Lib.hid (fun h => explB_sub (l := l) (l' := l) rfl C1.out C2.out HSB.out h)
    unfold RetJ at CH CM
    have hw1000 : l.ws.length ≤ 1000 := by have := fault_len hF2; omega
    have LN := Lib.hid (fun W (hb : Below w.heap.size w W) => lawLane_any l W (hL.lo hb) hw1000)
    have LI1 := Lib.hid (fun a c W (hX : IntsAt W a t1) (h0 : a = none → t1 = [] ∧ c = 0) => lawlist_any t1 a c W hX h0 HT1.out)
    have LI2 := Lib.hid (fun a c W (hX : IntsAt W a t2) (h0 : a = none → t2 = [] ∧ c = 0) => lawlist_any t2 a c W hX h0 HT2.out)
    have EX1 := Lib.hid (fun (a a2 : Option Addr) (c c2 : Nat) W (hW : WdsAt W a l.ws) (hg : ∀ g o, a = some ⟨g, o, none⟩ → g < W.heap.size) (hX : IntsAt W a2 t1) => explains_any { l with wa := a, wc := c } t1 a2 c2 W hW hX hw1000 HT1.out hg)
    have EX2 := Lib.hid (fun (a a2 : Option Addr) (c c2 : Nat) W (hW : WdsAt W a l.ws) (hg : ∀ g o, a = some ⟨g, o, none⟩ → g < W.heap.size) (hX : IntsAt W a2 t2) => explains_any { l with wa := a, wc := c } t2 a2 c2 W hW hX hw1000 HT2.out hg)
    have EX3 := Lib.hid (fun (a : Option Addr) (c g : Nat) W (hW : WdsAt W a l.ws) (hg : ∀ g o, a = some ⟨g, o, none⟩ → g < W.heap.size) (hX : IntsAt W (some ⟨g, 0, none⟩) [0, 1, 2, 3]) => (show Calls Try.prog 21 #[({ l with wa := a, wc := c } : Lan).val, .slice (some ⟨g, 0, none⟩) 4 4] W (fun e w' => e = .returned (.tuple #[.bool (explB { l with wa := a, wc := c } [0, 1, 2, 3]), .int .i64 (chkE { l with wa := a, wc := c } [0, 1, 2, 3])]) ∧ Below W.heap.size W w') from explains_any { l with wa := a, wc := c } [0, 1, 2, 3] (some ⟨g, 0, none⟩) 4 W hW hX hw1000 (by decide) hg))
    simp only [(same_expl l _ _ _).1, (same_expl l _ _ _).2] at EX1 EX2 EX3
    rw [C1.out] at EX1
    rw [C2.out] at EX2
    rw [C3.out, EA.out] at EX3
    have RG1 := Lib.hid (fun (a a2 : Option Addr) (c c2 : Nat) W (hW : WdsAt W a l.ws) (hg : ∀ g o, a = some ⟨g, o, none⟩ → g < W.heap.size) (hX : IntsAt W a2 t1) => rangesP_any { l with wa := a, wc := c } t1 a2 c2 W hW hX hw1000 HT1.out hg)
    have RG2 := Lib.hid (fun (a a2 : Option Addr) (c c2 : Nat) W (hW : WdsAt W a l.ws) (hg : ∀ g o, a = some ⟨g, o, none⟩ → g < W.heap.size) (hX : IntsAt W a2 t2) => rangesP_any { l with wa := a, wc := c } t2 a2 c2 W hW hX hw1000 HT2.out hg)
    unfold RngR at RG1 RG2
    simp only [(same_rngs l _ _ _).1, (same_rngs l _ _ _).2.1, (same_rngs l _ _ _).2.2] at RG1 RG2
    have MN1 := Lib.hid (fun (a a2 : Option Addr) (c c2 : Nat) W (hW : WdsAt W a l.ws) (hg : ∀ g o, a = some ⟨g, o, none⟩ → g < W.heap.size) (hX : IntsAt W a2 t1) => many_any { l with wa := a, wc := c } t1 a2 c2 W hW hX hw1000 HT1.out hg)
    have MN2 := Lib.hid (fun (a a2 : Option Addr) (c c2 : Nat) W (hW : WdsAt W a l.ws) (hg : ∀ g o, a = some ⟨g, o, none⟩ → g < W.heap.size) (hX : IntsAt W a2 t2) => many_any { l with wa := a, wc := c } t2 a2 c2 W hW hX hw1000 HT2.out hg)
    simp only [same_many l _ _ _, (same_rngs l _ _ _).2.2] at MN1 MN2
    have G1 := gofE_of C1.out
    have G2 := gofE_of C2.out
    have HNR := Lib.hid (fun (h1 : gofE l t1 = 0) (h2 : gofE l t2 = 0) => narrow (l := l) (l' := l) (ts := t1) (ts' := t2) rfl h1 h2 HSB.out)
    have HLQ := Lib.hid (fun (h1 : gofE l t1 = 0) (h2 : gofE l t2 = 0) => (show (rngsL l t1).length = (rngsL l t2).length ∧ (rngsL l t1).length ≤ 10 by rw [rngsL_len h1, rngsL_len h2]; have := (fault0 hF2).2.2.2.1; exact ⟨rfl, by omega⟩))
    rw [G1] at RG1 MN1 HNR HLQ
    rw [G2] at RG2 MN2 HNR HLQ
    unfold NewLan at LN
    have I4N := Lib.hid (fun W => ints_newS W [0, 1, 2, 3] 3)
    unfold Lan.val at *
    clear hL h0 h1 h2 h3 hF hF2 hR hM hor2 hw1000 G1 G2
    generalize explB l t1 = b1 at *
    generalize explB l t2 = b2 at *
    go_enter Try.func12, Try.ntmps12
    go_wp2_with fail
    generalize w.alloc _ = W0 at X ⊢
    have k0 := X.out.b.cell 0 (show _ = some (Value.int .i64 l.fs) from rfl)
    have k1 := X.out.b.cell 1 (show _ = some (Value.slice l.wa l.ws.length l.wc) from rfl)
    go_wp2_with fail
    refine (RD.out _ X.out.bl).mono ?_
    rintro e w2 ⟨rfl, hb⟩
    replace X := Lib.hid (X.out.lo hb)
    clear hb k0 k1 RD
    go_wp2_with fail
    refine (CH.out _).mono ?_
    rintro e w3 ⟨a1, c1, rfl, hI, hg, hnl, hb⟩
    replace X := Lib.hid (X.out.lo hb)
    have I1 := Lib.hid hI
    have N1 := Lib.hid hnl
    clear hb hI hg hnl CH
    go_wp2_with fail
    refine (CM.out _).mono ?_
    rintro e w4 ⟨a2, c2, rfl, hI, hg, hnl, hb⟩
    replace X := Lib.hid (X.out.lo hb)
    replace I1 := Lib.hid (I1.out.lo hb)
    have I2 := Lib.hid hI
    have N2 := Lib.hid hnl
    clear hb hI hg hnl CM hor
    have k0 := X.out.b.cell 0 (show _ = some (Value.int .i64 l.fs) from rfl)
    have k1 := X.out.b.cell 1 (show _ = some (Value.slice l.wa l.ws.length l.wc) from rfl)
    go_wp2_with fail
    refine (LN.out _ X.out.bl).mono ?_
    rintro e w5 ⟨a3, c3, rfl, hW3, hg3, hb⟩
    replace X := Lib.hid (X.out.lo hb)
    replace I1 := Lib.hid (I1.out.lo hb)
    replace I2 := Lib.hid (I2.out.lo hb)
    have W3 := Lib.hid hW3
    have G3 := Lib.hid hg3
    clear hW3 hg3 hb k0 k1
    go_wp2_with fail
    refine (LI1.out _ _ _ I1.out N1.out).mono ?_
    rintro e w6 ⟨v4, rfl, ho, hb⟩
    obtain ⟨a4, c4, rfl⟩ := own_len ho
    have I4 := Lib.hid (own_intsAt ho).1
    replace X := Lib.hid (X.out.lo hb)
    replace I1 := Lib.hid (I1.out.lo hb)
    replace I2 := Lib.hid (I2.out.lo hb)
    have W4 := Lib.hid (W3.out.lo hb)
    have G4 := Lib.hid (show ∀ g o, a3 = some ⟨g, o, none⟩ → g < w6.heap.size from fun g o e => Nat.lt_of_lt_of_le (G3.out g o e) hb.size)
    clear ho hb W3 G3
    go_wp2_with fail
    refine (EX1.out a3 a4 c3 c4 _ W4.out G4.out I4.out).mono ?_
    rintro e w7 ⟨rfl, hb⟩
    replace X := Lib.hid (X.out.lo hb)
    replace I1 := Lib.hid (I1.out.lo hb)
    replace I2 := Lib.hid (I2.out.lo hb)
    clear hb
    clear W4 G4 I4
    have k0 := X.out.b.cell 0 (show _ = some (Value.int .i64 l.fs) from rfl)
    have k1 := X.out.b.cell 1 (show _ = some (Value.slice l.wa l.ws.length l.wc) from rfl)
    go_wp2_with fail
    refine (LN.out _ X.out.bl).mono ?_
    rintro e w8 ⟨a3, c3, rfl, hW3, hg3, hb⟩
    replace X := Lib.hid (X.out.lo hb)
    replace I1 := Lib.hid (I1.out.lo hb)
    replace I2 := Lib.hid (I2.out.lo hb)
    have W3 := Lib.hid hW3
    have G3 := Lib.hid hg3
    clear hW3 hg3 hb k0 k1
    go_wp2_with fail
    refine (LI2.out _ _ _ I2.out N2.out).mono ?_
    rintro e w9 ⟨v4, rfl, ho, hb⟩
    obtain ⟨a4, c4, rfl⟩ := own_len ho
    have I4 := Lib.hid (own_intsAt ho).1
    replace X := Lib.hid (X.out.lo hb)
    replace I1 := Lib.hid (I1.out.lo hb)
    replace I2 := Lib.hid (I2.out.lo hb)
    have W4 := Lib.hid (W3.out.lo hb)
    have G4 := Lib.hid (show ∀ g o, a3 = some ⟨g, o, none⟩ → g < w9.heap.size from fun g o e => Nat.lt_of_lt_of_le (G3.out g o e) hb.size)
    clear ho hb W3 G3
    go_wp2_with fail
    refine (EX2.out a3 a4 c3 c4 _ W4.out G4.out I4.out).mono ?_
    rintro e w10 ⟨rfl, hb⟩
    replace X := Lib.hid (X.out.lo hb)
    replace I1 := Lib.hid (I1.out.lo hb)
    replace I2 := Lib.hid (I2.out.lo hb)
    clear hb
    clear W4 G4 I4
    have k0 := X.out.b.cell 0 (show _ = some (Value.int .i64 l.fs) from rfl)
    have k1 := X.out.b.cell 1 (show _ = some (Value.slice l.wa l.ws.length l.wc) from rfl)
    go_wp2_with fail
    refine (LN.out _ X.out.bl).mono ?_
    rintro e w11 ⟨a3, c3, rfl, hW3, hg3, hb⟩
    replace X := Lib.hid (X.out.lo hb)
    replace I1 := Lib.hid (I1.out.lo hb)
    replace I2 := Lib.hid (I2.out.lo hb)
    have W3 := Lib.hid hW3
    have G3 := Lib.hid hg3
    clear hW3 hg3 hb k0 k1
    have BA := below_al w11 (.cells #[.int .i64 0, .int .i64 1, .int .i64 2, .int .i64 3] 3)
    have IA := Lib.hid (I4N.out w11)
    have W4 := Lib.hid (W3.out.lo BA)
    have G4 := Lib.hid (show ∀ g o, a3 = some ⟨g, o, none⟩ → g < (w11.alloc (.cells #[.int .i64 0, .int .i64 1, .int .i64 2, .int .i64 3] 3)).heap.size from fun g o e => Nat.lt_of_lt_of_le (G3.out g o e) BA.size)
    replace X := Lib.hid (X.out.lo BA)
    replace I1 := Lib.hid (I1.out.lo BA)
    replace I2 := Lib.hid (I2.out.lo BA)
    clear BA W3 G3
    go_wp2_with fail
    refine (EX3.out a3 c3 w11.heap.size _ W4.out G4.out IA.out).mono ?_
    rintro e w12 ⟨rfl, hb⟩
    replace X := Lib.hid (X.out.lo hb)
    replace I1 := Lib.hid (I1.out.lo hb)
    replace I2 := Lib.hid (I2.out.lo hb)
    clear hb W4 G4 IA
    cases b1
    · go_wp2_with fail
      go_wp2_with fail
      refine (WK.out _).mono ?_
      rintro e w13 ⟨rfl, hb⟩
      replace X := Lib.hid (X.out.lo hb)
      replace I1 := Lib.hid (I1.out.lo hb)
      replace I2 := Lib.hid (I2.out.lo hb)
      clear hb
      go_wp2_with fail
      go_returns
      exact ⟨rfl, X.out.bl⟩
    · have hb2 : b2 = true := ES.out (by first | rfl | trivial)
      subst hb2
      simp only [if_true] at RG1 RG2 MN1 MN2 HNR HLQ
      have HNR2 := HNR.out (by first | rfl | trivial) (by first | rfl | trivial)
      have HLQ2 := HLQ.out (by first | rfl | trivial) (by first | rfl | trivial)
      obtain ⟨q1, q2, q3, q4⟩ := HNR2
      obtain ⟨q5, q6⟩ := HLQ2
      have Q1 := Lib.hid q1
      have Q5 := Lib.hid q5
      have Q6 := Lib.hid q6
      generalize rngsL l t1 = R1 at *
      generalize rngsL l t2 = R2 at *
      generalize cntL (gofL l t1) = n1 at *
      generalize cntL (gofL l t2) = n2 at *
      generalize manyN l t1 = m1 at *
      generalize manyN l t2 = m2 at *
      have z1 : ¬ n1.1 < n2.1 := by omega
      have z2 : ¬ n2.2 < n1.2 := by omega
      have z3 : ¬ (m2 : Int) < (m1 : Int) := by omega
      have Z1 := Lib.hid z1
      have Z2 := Lib.hid z2
      have Z3 := Lib.hid z3
      clear q1 q2 q3 q4 q5 q6 z1 z2 z3 HNR HLQ
      have k0 := X.out.b.cell 0 (show _ = some (Value.int .i64 l.fs) from rfl)
      have k1 := X.out.b.cell 1 (show _ = some (Value.slice l.wa l.ws.length l.wc) from rfl)
      go_wp2_with fail
      refine (LN.out _ X.out.bl).mono ?_
      rintro e w14 ⟨a3, c3, rfl, hW3, hg3, hb⟩
      replace X := Lib.hid (X.out.lo hb)
      replace I1 := Lib.hid (I1.out.lo hb)
      replace I2 := Lib.hid (I2.out.lo hb)
      have W3 := Lib.hid hW3
      have G3 := Lib.hid hg3
      clear hW3 hg3 hb k0 k1
      go_wp2_with fail
      refine (LI1.out _ _ _ I1.out N1.out).mono ?_
      rintro e w15 ⟨v4, rfl, ho, hb⟩
      obtain ⟨a4, c4, rfl⟩ := own_len ho
      have I4 := Lib.hid (own_intsAt ho).1
      replace X := Lib.hid (X.out.lo hb)
      replace I1 := Lib.hid (I1.out.lo hb)
      replace I2 := Lib.hid (I2.out.lo hb)
      have W4 := Lib.hid (W3.out.lo hb)
      have G4 := Lib.hid (show ∀ g o, a3 = some ⟨g, o, none⟩ → g < w15.heap.size from fun g o e => Nat.lt_of_lt_of_le (G3.out g o e) hb.size)
      clear ho hb W3 G3
      go_wp2_with fail
      refine (RG1.out a3 a4 c3 c4 _ W4.out G4.out I4.out).mono ?_
      rintro e w16 ⟨a5, c5, rfl, hP, hB, hb⟩
      replace X := Lib.hid (X.out.lo hb)
      replace I1 := Lib.hid (I1.out.lo hb)
      replace I2 := Lib.hid (I2.out.lo hb)
      have P1 := Lib.hid hP
      clear hb hP hB
      clear W4 G4 I4
      have K1 := Lib.hid (Blk.new w16 #[.int .i64 n1.1, .int .i64 n1.2] 41)
      have BA := below_al w16 (.cells #[.int .i64 n1.1, .int .i64 n1.2] 41)
      replace X := Lib.hid (X.out.lo BA)
      replace I1 := Lib.hid (I1.out.lo BA)
      replace I2 := Lib.hid (I2.out.lo BA)
      replace P1 := Lib.hid (P1.out.lo BA)
      clear BA
      have k0 := X.out.b.cell 0 (show _ = some (Value.int .i64 l.fs) from rfl)
      have k1 := X.out.b.cell 1 (show _ = some (Value.slice l.wa l.ws.length l.wc) from rfl)
      go_wp2_with fail
      refine (LN.out _ X.out.bl).mono ?_
      rintro e w17 ⟨a3, c3, rfl, hW3, hg3, hb⟩
      replace X := Lib.hid (X.out.lo hb)
      replace I1 := Lib.hid (I1.out.lo hb)
      replace I2 := Lib.hid (I2.out.lo hb)
      replace P1 := Lib.hid (P1.out.lo hb)
      replace K1 := Lib.hid (Blk.alt (p := fun _ => False) K1.out (Alt.of_below hb (fun k hk e => by omega)) id)
      have W3 := Lib.hid hW3
      have G3 := Lib.hid hg3
      clear hW3 hg3 hb k0 k1
      go_wp2_with fail
      refine (LI2.out _ _ _ I2.out N2.out).mono ?_
      rintro e w18 ⟨v4, rfl, ho, hb⟩
      obtain ⟨a4, c4, rfl⟩ := own_len ho
      have I4 := Lib.hid (own_intsAt ho).1
      replace X := Lib.hid (X.out.lo hb)
      replace I1 := Lib.hid (I1.out.lo hb)
      replace I2 := Lib.hid (I2.out.lo hb)
      replace P1 := Lib.hid (P1.out.lo hb)
      replace K1 := Lib.hid (Blk.alt (p := fun _ => False) K1.out (Alt.of_below hb (fun k hk e => by omega)) id)
      have W4 := Lib.hid (W3.out.lo hb)
      have G4 := Lib.hid (show ∀ g o, a3 = some ⟨g, o, none⟩ → g < w18.heap.size from fun g o e => Nat.lt_of_lt_of_le (G3.out g o e) hb.size)
      clear ho hb W3 G3
      go_wp2_with fail
      refine (RG2.out a3 a4 c3 c4 _ W4.out G4.out I4.out).mono ?_
      rintro e w19 ⟨a6, c6, rfl, hP, hB, hb⟩
      replace X := Lib.hid (X.out.lo hb)
      replace I1 := Lib.hid (I1.out.lo hb)
      replace I2 := Lib.hid (I2.out.lo hb)
      replace P1 := Lib.hid (P1.out.lo hb)
      replace K1 := Lib.hid (Blk.alt (p := fun _ => False) K1.out (Alt.of_below hb (fun k hk e => by omega)) id)
      have P2 := Lib.hid hP
      clear hb hP hB
      clear W4 G4 I4
      have K2 := Lib.hid (Blk.new w19 #[.int .i64 n2.1, .int .i64 n2.2] 41)
      have BA := below_al w19 (.cells #[.int .i64 n2.1, .int .i64 n2.2] 41)
      replace X := Lib.hid (X.out.lo BA)
      replace I1 := Lib.hid (I1.out.lo BA)
      replace I2 := Lib.hid (I2.out.lo BA)
      replace P1 := Lib.hid (P1.out.lo BA)
      replace K1 := Lib.hid (Blk.alt (p := fun _ => False) K1.out (Alt.of_below BA (fun k hk e => by omega)) id)
      replace P2 := Lib.hid (P2.out.lo BA)
      clear BA
      have k0 := X.out.b.cell 0 (show _ = some (Value.int .i64 l.fs) from rfl)
      have k1 := X.out.b.cell 1 (show _ = some (Value.slice l.wa l.ws.length l.wc) from rfl)
      go_wp2_with fail
      refine (LN.out _ X.out.bl).mono ?_
      rintro e w20 ⟨a3, c3, rfl, hW3, hg3, hb⟩
      replace X := Lib.hid (X.out.lo hb)
      replace I1 := Lib.hid (I1.out.lo hb)
      replace I2 := Lib.hid (I2.out.lo hb)
      replace P1 := Lib.hid (P1.out.lo hb)
      replace K1 := Lib.hid (Blk.alt (p := fun _ => False) K1.out (Alt.of_below hb (fun k hk e => by omega)) id)
      replace P2 := Lib.hid (P2.out.lo hb)
      replace K2 := Lib.hid (Blk.alt (p := fun _ => False) K2.out (Alt.of_below hb (fun k hk e => by omega)) id)
      have W3 := Lib.hid hW3
      have G3 := Lib.hid hg3
      clear hW3 hg3 hb k0 k1
      go_wp2_with fail
      refine (LI1.out _ _ _ I1.out N1.out).mono ?_
      rintro e w21 ⟨v4, rfl, ho, hb⟩
      obtain ⟨a4, c4, rfl⟩ := own_len ho
      have I4 := Lib.hid (own_intsAt ho).1
      replace X := Lib.hid (X.out.lo hb)
      replace I1 := Lib.hid (I1.out.lo hb)
      replace I2 := Lib.hid (I2.out.lo hb)
      replace P1 := Lib.hid (P1.out.lo hb)
      replace K1 := Lib.hid (Blk.alt (p := fun _ => False) K1.out (Alt.of_below hb (fun k hk e => by omega)) id)
      replace P2 := Lib.hid (P2.out.lo hb)
      replace K2 := Lib.hid (Blk.alt (p := fun _ => False) K2.out (Alt.of_below hb (fun k hk e => by omega)) id)
      have W4 := Lib.hid (W3.out.lo hb)
      have G4 := Lib.hid (show ∀ g o, a3 = some ⟨g, o, none⟩ → g < w21.heap.size from fun g o e => Nat.lt_of_lt_of_le (G3.out g o e) hb.size)
      clear ho hb W3 G3
      go_wp2_with fail
      refine (MN1.out a3 a4 c3 c4 _ W4.out G4.out I4.out).mono ?_
      rintro e w22 ⟨rfl, hb⟩
      replace X := Lib.hid (X.out.lo hb)
      replace I1 := Lib.hid (I1.out.lo hb)
      replace I2 := Lib.hid (I2.out.lo hb)
      replace P1 := Lib.hid (P1.out.lo hb)
      replace K1 := Lib.hid (Blk.alt (p := fun _ => False) K1.out (Alt.of_below hb (fun k hk e => by omega)) id)
      replace P2 := Lib.hid (P2.out.lo hb)
      replace K2 := Lib.hid (Blk.alt (p := fun _ => False) K2.out (Alt.of_below hb (fun k hk e => by omega)) id)
      clear hb
      clear W4 G4 I4
      have k0 := X.out.b.cell 0 (show _ = some (Value.int .i64 l.fs) from rfl)
      have k1 := X.out.b.cell 1 (show _ = some (Value.slice l.wa l.ws.length l.wc) from rfl)
      go_wp2_with fail
      refine (LN.out _ X.out.bl).mono ?_
      rintro e w23 ⟨a3, c3, rfl, hW3, hg3, hb⟩
      replace X := Lib.hid (X.out.lo hb)
      replace I1 := Lib.hid (I1.out.lo hb)
      replace I2 := Lib.hid (I2.out.lo hb)
      replace P1 := Lib.hid (P1.out.lo hb)
      replace K1 := Lib.hid (Blk.alt (p := fun _ => False) K1.out (Alt.of_below hb (fun k hk e => by omega)) id)
      replace P2 := Lib.hid (P2.out.lo hb)
      replace K2 := Lib.hid (Blk.alt (p := fun _ => False) K2.out (Alt.of_below hb (fun k hk e => by omega)) id)
      have W3 := Lib.hid hW3
      have G3 := Lib.hid hg3
      clear hW3 hg3 hb k0 k1
      go_wp2_with fail
      refine (LI2.out _ _ _ I2.out N2.out).mono ?_
      rintro e w24 ⟨v4, rfl, ho, hb⟩
      obtain ⟨a4, c4, rfl⟩ := own_len ho
      have I4 := Lib.hid (own_intsAt ho).1
      replace X := Lib.hid (X.out.lo hb)
      replace I1 := Lib.hid (I1.out.lo hb)
      replace I2 := Lib.hid (I2.out.lo hb)
      replace P1 := Lib.hid (P1.out.lo hb)
      replace K1 := Lib.hid (Blk.alt (p := fun _ => False) K1.out (Alt.of_below hb (fun k hk e => by omega)) id)
      replace P2 := Lib.hid (P2.out.lo hb)
      replace K2 := Lib.hid (Blk.alt (p := fun _ => False) K2.out (Alt.of_below hb (fun k hk e => by omega)) id)
      have W4 := Lib.hid (W3.out.lo hb)
      have G4 := Lib.hid (show ∀ g o, a3 = some ⟨g, o, none⟩ → g < w24.heap.size from fun g o e => Nat.lt_of_lt_of_le (G3.out g o e) hb.size)
      clear ho hb W3 G3
      go_wp2_with fail
      refine (MN2.out a3 a4 c3 c4 _ W4.out G4.out I4.out).mono ?_
      rintro e w25 ⟨rfl, hb⟩
      replace X := Lib.hid (X.out.lo hb)
      replace I1 := Lib.hid (I1.out.lo hb)
      replace I2 := Lib.hid (I2.out.lo hb)
      replace P1 := Lib.hid (P1.out.lo hb)
      replace K1 := Lib.hid (Blk.alt (p := fun _ => False) K1.out (Alt.of_below hb (fun k hk e => by omega)) id)
      replace P2 := Lib.hid (P2.out.lo hb)
      replace K2 := Lib.hid (Blk.alt (p := fun _ => False) K2.out (Alt.of_below hb (fun k hk e => by omega)) id)
      clear hb
      clear W4 G4 I4
      have q1 := K1.out.cell 0 (show _ = some (Value.int .i64 n1.1) from rfl)
      have q2 := K1.out.cell 1 (show _ = some (Value.int .i64 n1.2) from rfl)
      have q3 := K2.out.cell 0 (show _ = some (Value.int .i64 n2.1) from rfl)
      have q4 := K2.out.cell 1 (show _ = some (Value.int .i64 n2.2) from rfl)
      have z1 : decide (n1.1 < n2.1) = false := decide_eq_false (by have := Z1.out; omega)
      have z2 : decide (n2.2 < n1.2) = false := decide_eq_false (by have := Z2.out; omega)
      have z3 : decide (m2 < m1) = false := decide_eq_false (by have := Z3.out; omega)
      have HLE := Q5.out
      rw [HLE]
      go_wp2_with fail
      clear q1 q2 q3 q4 z1 z2 z3 HLE
      go_loopg [25] R2.length (fun g s25 wx => ∃ i : Nat, i ≤ R2.length ∧ g = R2.length - i ∧ s25 = .int .i64 (i : Int) ∧ Hid (BX l w wx) ∧ Hid (P2At wx a5 R1) ∧ Hid (P2At wx a6 R2))
      case atStart => exact ⟨0, by omega, by omega, rfl, X, P1, P2⟩
      case round =>
        obtain ⟨i, hi, rfl, rfl, hX, hP1, hP2⟩ := hrel
        clear X P1 P2 I1 I2 K1 K2
        have hl10 : R2.length ≤ 10 := by have := Q5.out; have := Q6.out; omega
        by_cases hlt : i < R2.length
        · have hz0 : (0 : Int) ≤ (i : Int) := by omega
          have hz1 : (i : Int) < (R2.length : Int) := by omega
          obtain ⟨y, hy⟩ : ∃ y, R2[i]? = some y := ⟨R2[i]'hlt, List.getElem?_eq_getElem _⟩
          obtain ⟨x, hx⟩ : ∃ x, R1[i]? = some x := ⟨R1[i]'(by rw [Q5.out]; exact hlt), List.getElem?_eq_getElem _⟩
          obtain ⟨ga, oa, rfl, p1, p2⟩ := hP1.out i x hx
          obtain ⟨gb, ob, rfl, p3, p4⟩ := hP2.out i y hy
          obtain ⟨n1', n2'⟩ := Q1.out i x y hx hy
          have z1 : ¬ x.1 < y.1 := by omega
          have z2 : ¬ y.2 < x.2 := by omega
          have e2 : IntKind.i64.wrap ((i : Int) + 1) = (i : Int) + 1 := IntWalk.i64_in _ (by omega)
          obtain ⟨x1, x2⟩ := x
          obtain ⟨y1, y2⟩ := y
          simp only at p1 p2 p3 p4 z1 z2
          have d1 : decide (x1 < y1) = false := decide_eq_false z1
          have d2 : decide (y2 < x2) = false := decide_eq_false z2
          have m1 := fun u : Late wr => u.cell p1 (cell_lt p1)
          have m2 := fun u : Late wr => u.cell p2 (cell_lt p2)
          have m3 := fun u : Late wr => u.cell p3 (cell_lt p3)
          have m4 := fun u : Late wr => u.cell p4 (cell_lt p4)
          clear hx hy n1' n2' p1 p2 p3 p4
          go_wp2_with fail
          refine wp_region_late wr (Below.refl _ _) (by kernel_rfl) (by kernel_rfl) ?_
          repeat (go_big_quiet_step (fail))
          refine wpQuiet_nil ?_
          intro _ hw'
          obtain ⟨uq, hw''⟩ := hw'
          subst hw''
          have XN := Lib.hid (hX.out.lo uq.b)
          have PN1 := Lib.hid (hP1.out.lo uq.b)
          have PN2 := Lib.hid (hP2.out.lo uq.b)
          clear m1 m2 m3 m4
          go_wp2_with fail
          go_roundg (R2.length - (i + 1))
          case measure => omega
          case rel => exact ⟨i + 1, by omega, rfl, by simp, XN, PN1, PN2⟩
        · have hz1 : ¬ (i : Int) < (R2.length : Int) := by omega
          go_wp2_with fail
          refine (WK.out _).mono ?_
          rintro e w99 ⟨rfl, hb⟩
          have X9 := Lib.hid (hX.out.lo hb)
          clear hb
          go_wp2_with fail
          go_returns
          exact ⟨rfl, X9.out.bl⟩
  · have hR : decide (faultW l = 0) = false := by simp [hF]
    rw [hR] at RD
    unfold Lan.val at *
    clear hL h0 h1 hF hR
    go_enter Try.func12, Try.ntmps12
    go_wp2_with fail
    generalize w.alloc _ = W0 at X ⊢
    have k0 := X.out.b.cell 0 (show _ = some (Value.int .i64 l.fs) from rfl)
    have k1 := X.out.b.cell 1 (show _ = some (Value.slice l.wa l.ws.length l.wc) from rfl)
    go_wp2_with fail
    refine (RD.out _ X.out.bl).mono ?_
    rintro e w1 ⟨rfl, hb⟩
    replace X := Lib.hid (X.out.lo hb)
    clear hb k0 k1 RD
    go_wp2_with fail
    refine (WK.out _).mono ?_
    rintro e w2 ⟨rfl, hb⟩
    replace X := Lib.hid (X.out.lo hb)
    clear hb
    go_wp2_with fail
    go_returns
    exact ⟨rfl, X.out.bl⟩

end Go.Proofs.Ytbbndcfnpfedpaa
