/- The walk of SeenRanges. -/
import Derived.Test.YtbbndcfnpfedpaaVk
set_option linter.unusedVariables false
set_option linter.unusedSimpArgs false
namespace Go.Proofs.Ytbbndcfnpfedpaa
open Go.RowKit Go.Shelf Go.Maps

attribute [local go_sem] Oper.semAt_some

theorem refRanges2 (l : Lan) (ts : List Int) (ta : Option Addr) (tc : Nat) (w : World) (hL : WdsAt w l.wa l.ws) (hX : IntsAt w ta ts) (hm : ts.length ≤ 1000) (h : gofE l ts = 0) :
    Calls Try.prog 28 #[l.val, .slice ta ts.length tc] w fun e w' => ∃ a c, e = .returned (.tuple #[.slice a (rngsL l ts).length c, .agg #[.int .i64 (cntL (gofL l ts)).1, .int .i64 (cntL (gofL l ts)).2]]) ∧ P2At w' a (rngsL l ts) ∧ Below w.heap.size w w' := by
  have hF := (chkE_zero (gofE_zero h).1).1
  have := refRanges_any l ts ta tc w hL hX hm hF
  rwa [ref_rngs h (fault_ba hF), ref_cnt h (fault_ba hF)] at this

set_option maxRecDepth 100000 in
set_option maxHeartbeats 8000000 in
theorem seenRanges_any (l : Lan) (ts : List Int) (ta : Option Addr) (tc : Nat) (w : World) (hL : WdsAt w l.wa l.ws) (_ : (l.ws.length : Int) ≤ 9223372036854775807) (hX : IntsAt w ta ts) (hnl : ta = none → ts = [] ∧ tc = 0) :
    Calls Try.prog 4 #[l.val, .slice ta ts.length tc] w fun e w' => e = .returned (.bool true) ∧ Below w.heap.size w w' := by
  have TH := Lib.hid (fun W => thin_any l ta ts.length tc W)
  have WK := Lib.hid (fun W => wakes_any W)
  have X := Lib.hid (BX.mk' l w)
  have I1 := Lib.hid (hX.lo (below_al w (.cells #[.int .i64 l.fs, .slice l.wa l.ws.length l.wc] 24)))
  have N1 := Lib.hid hnl
  by_cases hT : (decide (l.ws.length ≤ 35) && decide (ts.length ≤ 8)) = true
  · have hT2 : l.ws.length ≤ 35 ∧ ts.length ≤ 8 := by simpa using hT
    rw [hT] at TH
    have hw1000 : l.ws.length ≤ 1000 := by omega
    have ht1000 : ts.length ≤ 1000 := by omega
    have LN := Lib.hid (fun W (hb : Below w.heap.size w W) => lawLane_any l W (hL.lo hb) hw1000)
    have LI1 := Lib.hid (fun a c W (hX : IntsAt W a ts) (h0 : a = none → ts = [] ∧ c = 0) => lawlist_any ts a c W hX h0 ht1000)
    have RG1 := Lib.hid (fun (a a2 : Option Addr) (c c2 : Nat) W (hW : WdsAt W a l.ws) (hg : ∀ g o, a = some ⟨g, o, none⟩ → g < W.heap.size) (hX : IntsAt W a2 ts) => rangesP_any { l with wa := a, wc := c } ts a2 c2 W hW hX hw1000 ht1000 hg)
    unfold RngR at RG1
    simp only [(same_rngs l _ _ _).1, (same_rngs l _ _ _).2.1, (same_rngs l _ _ _).2.2] at RG1
    have XP := Lib.hid (fun W (hb : Below w.heap.size w W) => explained_any l ts ta tc W (hL.lo hb) hw1000 (hX.lo hb) ht1000)
    have RF := Lib.hid (fun (h : gofE l ts = 0) W (hb : Below w.heap.size w W) => refRanges2 l ts ta tc W (hL.lo hb) (hX.lo hb) ht1000 h)
    have HNO := Lib.hid (show gofE l ts ≠ 0 → rngsL l ts = [] ∧ cntL (gofL l ts) = (0, 0) from fun h => ⟨rngsL_no h, by rw [gofL_no h]; rfl⟩)
    have HLN := Lib.hid (show (rngsL l ts).length ≤ 10 by unfold rngsL; rw [List.length_map, rngL_len]; have := gofL_len l ts; omega)
    unfold NewLan at LN
    unfold Lan.val at *
    clear hL hX hnl hT hT2 hw1000 ht1000
    generalize rngsL l ts = R at *
    generalize cntL (gofL l ts) = cn at *
    generalize gofE l ts = E at *
    go_enter Try.func4, Try.ntmps4
    go_wp2_with fail
    generalize w.alloc _ = W0 at X I1 ⊢
    have k0 := X.out.b.cell 0 (show _ = some (Value.int .i64 l.fs) from rfl)
    have k1 := X.out.b.cell 1 (show _ = some (Value.slice l.wa l.ws.length l.wc) from rfl)
    go_wp2_with fail
    refine (TH.out _).mono ?_
    rintro e w2 ⟨rfl, hb⟩
    replace X := Lib.hid (X.out.lo hb)
    replace I1 := Lib.hid (I1.out.lo hb)
    clear hb k0 k1 TH
    have k0 := X.out.b.cell 0 (show _ = some (Value.int .i64 l.fs) from rfl)
    have k1 := X.out.b.cell 1 (show _ = some (Value.slice l.wa l.ws.length l.wc) from rfl)
    go_wp2_with fail
    refine (LN.out _ X.out.bl).mono ?_
    rintro e w3 ⟨a3, c3, rfl, hW3, hg3, hb⟩
    replace X := Lib.hid (X.out.lo hb)
    replace I1 := Lib.hid (I1.out.lo hb)
    have W3 := Lib.hid hW3
    have G3 := Lib.hid hg3
    clear hW3 hg3 hb k0 k1
    go_wp2_with fail
    refine (LI1.out _ _ _ I1.out N1.out).mono ?_
    rintro e w4 ⟨v4, rfl, ho, hb⟩
    obtain ⟨a4, c4, rfl⟩ := own_len ho
    have I4 := Lib.hid (own_intsAt ho).1
    replace X := Lib.hid (X.out.lo hb)
    replace I1 := Lib.hid (I1.out.lo hb)
    have W4 := Lib.hid (W3.out.lo hb)
    have G4 := Lib.hid (show ∀ g o, a3 = some ⟨g, o, none⟩ → g < w4.heap.size from fun g o e => Nat.lt_of_lt_of_le (G3.out g o e) hb.size)
    clear ho hb W3 G3
    go_wp2_with fail
    refine (RG1.out a3 a4 c3 c4 _ W4.out G4.out I4.out).mono ?_
    rintro e w5 ⟨a5, c5, rfl, hP, hB, hb⟩
    replace X := Lib.hid (X.out.lo hb)
    replace I1 := Lib.hid (I1.out.lo hb)
    have P1 := Lib.hid hP
    clear hb hP hB
    clear W4 G4 I4
    have K1 := Lib.hid (Blk.new w5 #[.int .i64 cn.1, .int .i64 cn.2] 41)
    have BA := below_al w5 (.cells #[.int .i64 cn.1, .int .i64 cn.2] 41)
    replace X := Lib.hid (X.out.lo BA)
    replace I1 := Lib.hid (I1.out.lo BA)
    replace P1 := Lib.hid (P1.out.lo BA)
    clear BA
    have k0 := X.out.b.cell 0 (show _ = some (Value.int .i64 l.fs) from rfl)
    have k1 := X.out.b.cell 1 (show _ = some (Value.slice l.wa l.ws.length l.wc) from rfl)
    go_wp2_with fail
    refine (XP.out _ X.out.bl).mono ?_
    rintro e w6 ⟨rfl, hb⟩
    replace X := Lib.hid (X.out.lo hb)
    replace I1 := Lib.hid (I1.out.lo hb)
    replace P1 := Lib.hid (P1.out.lo hb)
    replace K1 := Lib.hid (Blk.alt (p := fun _ => False) K1.out (Alt.of_below hb (fun k hk e => by omega)) id)
    clear hb k0 k1
    by_cases hE : E = 0
    · subst hE
      have RF2 := Lib.hid (RF.out (by first | rfl | trivial))
      clear RF HNO
      have k0 := X.out.b.cell 0 (show _ = some (Value.int .i64 l.fs) from rfl)
      have k1 := X.out.b.cell 1 (show _ = some (Value.slice l.wa l.ws.length l.wc) from rfl)
      go_wp2_with fail
      refine (RF2.out _ X.out.bl).mono ?_
      rintro e w7 ⟨a6, c6, rfl, hP, hb⟩
      replace X := Lib.hid (X.out.lo hb)
      replace I1 := Lib.hid (I1.out.lo hb)
      replace P1 := Lib.hid (P1.out.lo hb)
      replace K1 := Lib.hid (Blk.alt (p := fun _ => False) K1.out (Alt.of_below hb (fun k hk e => by omega)) id)
      have P2 := Lib.hid hP
      clear hb hP k0 k1
      have K2 := Lib.hid (Blk.new w7 #[.int .i64 cn.1, .int .i64 cn.2] 45)
      have BA := below_al w7 (.cells #[.int .i64 cn.1, .int .i64 cn.2] 45)
      replace X := Lib.hid (X.out.lo BA)
      replace I1 := Lib.hid (I1.out.lo BA)
      replace P1 := Lib.hid (P1.out.lo BA)
      replace K1 := Lib.hid (Blk.alt (p := fun _ => False) K1.out (Alt.of_below BA (fun k hk e => by omega)) id)
      replace P2 := Lib.hid (P2.out.lo BA)
      clear BA
      have q1 := K1.out.cell 0 (show _ = some (Value.int .i64 cn.1) from rfl)
      have q2 := K1.out.cell 1 (show _ = some (Value.int .i64 cn.2) from rfl)
      have q3 := K2.out.cell 0 (show _ = some (Value.int .i64 cn.1) from rfl)
      have q4 := K2.out.cell 1 (show _ = some (Value.int .i64 cn.2) from rfl)
      have z1 : (cn.1 != cn.1) = false := by simp
      have z2 : (cn.2 != cn.2) = false := by simp
      have z3 : ((R.length : Int) != (R.length : Int)) = false := by simp
      go_wp2_with fail
      clear q1 q2 q3 q4 z1 z2 z3
      go_loopg [11] R.length (fun g s11 wx => ∃ i : Nat, i ≤ R.length ∧ g = R.length - i ∧ s11 = .int .i64 (i : Int) ∧ Hid (BX l w wx) ∧ Hid (P2At wx a5 R) ∧ Hid (P2At wx a6 R))
      case atStart => exact ⟨0, by omega, by omega, rfl, X, P1, P2⟩
      case round =>
        obtain ⟨i, hi, rfl, rfl, hX, hP1, hP2⟩ := hrel
        clear X P1 P2 I1 K1 K2
        have hl10 := HLN.out
        by_cases hlt : i < R.length
        · have hz0 : (0 : Int) ≤ (i : Int) := by omega
          have hz1 : (i : Int) < (R.length : Int) := by omega
          obtain ⟨y, hy⟩ : ∃ y, R[i]? = some y := ⟨R[i]'hlt, List.getElem?_eq_getElem _⟩
          obtain ⟨ga, oa, rfl, p1, p2⟩ := hP1.out i y hy
          obtain ⟨gb, ob, rfl, p3, p4⟩ := hP2.out i y hy
          have e2 : IntKind.i64.wrap ((i : Int) + 1) = (i : Int) + 1 := IntWalk.i64_in _ (by omega)
          obtain ⟨y1, y2⟩ := y
          simp only at p1 p2 p3 p4
          have d1 : (y1 != y1) = false := by simp
          have d2 : (y2 != y2) = false := by simp
          have m1 := fun u : Late wr => u.cell p1 (cell_lt p1)
          have m2 := fun u : Late wr => u.cell p2 (cell_lt p2)
          have m3 := fun u : Late wr => u.cell p3 (cell_lt p3)
          have m4 := fun u : Late wr => u.cell p4 (cell_lt p4)
          clear hy p1 p2 p3 p4
          go_wp2_with fail
          refine wp_region_late wr (Below.refl _ _) (by kernel_rfl) (by kernel_rfl) ?_
          repeat (go_big_quiet_step (fail))
          refine wpQuiet_nil ?_
          intro _ hw'
          obtain ⟨uq, hw''⟩ := hw'
          subst hw''
          have XN := Lib.hid (hX.out.lo uq.b)
          have PN1 := Lib.hid (hP1.out.lo uq.b)
          have PN2 := Lib.hid (hP2.out.lo uq.b)
          clear m1 m2 m3 m4
          go_wp2_with fail
          go_roundg (R.length - (i + 1))
          case measure => omega
          case rel => exact ⟨i + 1, by omega, rfl, by simp, XN, PN1, PN2⟩
        · have hz1 : ¬ (i : Int) < (R.length : Int) := by omega
          go_wp2_with fail
          refine (WK.out _).mono ?_
          rintro e w99 ⟨rfl, hb⟩
          have X9 := Lib.hid (hX.out.lo hb)
          clear hb
          go_wp2_with fail
          go_returns
          exact ⟨rfl, X9.out.bl⟩
    · have hE2 : (E == 0) = false := by simpa using hE
      obtain ⟨hR, hcn⟩ := HNO.out hE
      subst hR
      subst hcn
      have hEE : (E == E) = true := by simp
      have q1 := K1.out.cell 0 (show _ = some (Value.int .i64 0) from rfl)
      have q2 := K1.out.cell 1 (show _ = some (Value.int .i64 0) from rfl)
      clear hE HNO RF
      go_wp2_with fail
      refine (WK.out _).mono ?_
      rintro e w98 ⟨rfl, hb⟩
      have X9 := Lib.hid (X.out.lo hb)
      clear hb
      go_wp2_with fail
      go_returns
      exact ⟨rfl, X9.out.bl⟩
  · have hT2 : (decide (l.ws.length ≤ 35) && decide (ts.length ≤ 8)) = false := by simpa using hT
    rw [hT2] at TH
    unfold Lan.val at *
    clear hL hX hnl hT hT2
    go_enter Try.func4, Try.ntmps4
    go_wp2_with fail
    generalize w.alloc _ = W0 at X I1 ⊢
    have k0 := X.out.b.cell 0 (show _ = some (Value.int .i64 l.fs) from rfl)
    have k1 := X.out.b.cell 1 (show _ = some (Value.slice l.wa l.ws.length l.wc) from rfl)
    go_wp2_with fail
    refine (TH.out _).mono ?_
    rintro e w1 ⟨rfl, hb⟩
    replace X := Lib.hid (X.out.lo hb)
    clear hb k0 k1 TH I1
    go_wp2_with fail
    refine (WK.out _).mono ?_
    rintro e w2 ⟨rfl, hb⟩
    replace X := Lib.hid (X.out.lo hb)
    clear hb
    go_wp2_with fail
    go_returns
    exact ⟨rfl, X.out.bl⟩
end Go.Proofs.Ytbbndcfnpfedpaa
