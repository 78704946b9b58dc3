/- The walk of SeenAll. -/
import Derived.Test.YtbbndcfnpfedpaaUb
set_option linter.unusedVariables false
set_option linter.unusedSimpArgs false
namespace Go.Proofs.Ytbbndcfnpfedpaa
open Go.RowKit Go.Shelf Go.Maps

attribute [local go_sem] Oper.semAt_some

set_option maxRecDepth 100000 in
set_option maxHeartbeats 32000000 in
theorem seenAll_any (l : Lan) (u : Int) (w : World) (hL : WdsAt w l.wa l.ws) (_ : (l.ws.length : Int) ≤ 9223372036854775807) (h0 : 0 ≤ u) (h1 : u < 256) :
    Calls Try.prog 10 #[l.val, .int .u8 u] w fun e w' => e = .returned (.bool true) ∧ Below w.heap.size w w' := by
  have RD := Lib.hid (fun W (hb : Below w.heap.size w W) => ready_any l W (hL.lo hb))
  have WK := Lib.hid (fun W => wakes_any W)
  have HL := Lib.hid hL
  have X := Lib.hid (BX.mk' l w)
  by_cases hF : faultW l = 0
  · have hF2 := hF
    have hR : decide (faultW l = 0) = true := by simp [hF]
    rw [hR] at RD
    have CH := Lib.hid (fun W => chosen_any u W h0 h1)
    obtain ⟨t1, ht1⟩ : ∃ t1, Hid (t1 = chosenL u) := ⟨_, Lib.hid rfl⟩
    rw [← ht1.out] at CH
    have HT1 := Lib.hid (show t1.length ≤ 1000 by have := chosenL_len u; rw [ht1.out]; omega)
    have HR1 := Lib.hid (show riseIn 0 3 t1 = true by rw [ht1.out]; exact chosenL_rise u)
    have C1 := Lib.hid (show chkE l t1 = 0 from chkE_ok hF2 HR1.out)
    unfold RetJ at CH
    have hw1000 : l.ws.length ≤ 1000 := by have := fault_len hF2; omega
    have hfs := (fault0 hF2).2.2
    obtain ⟨F, hFN⟩ : ∃ F : Nat, l.fs = (F : Int) := ⟨l.fs.toNat, by omega⟩
    have hF15 : 1 ≤ F ∧ F ≤ 5 := by omega
    have HF5 := Lib.hid hF15
    have LN := Lib.hid (fun W (hb : Below w.heap.size w W) => lawLane_any l W (hL.lo hb) hw1000)
    have LE := Lib.hid (fun W => lawLane_any ⟨(F : Int), none, 0, []⟩ W (fun i x h => by simp at h) (by simp))
    have LI1 := Lib.hid (fun a c W (hX : IntsAt W a t1) (h0 : a = none → t1 = [] ∧ c = 0) => lawlist_any t1 a c W hX h0 HT1.out)
    obtain ⟨va, vb, vc⟩ := v_all hF15.1 hF15.2
    obtain ⟨pw, hpwd⟩ : ∃ pw : Nat → Nat, Hid (pw = fun i => 66 ^ i) := ⟨_, Lib.hid rfl⟩
    have hpF : 66 ^ F = pw F := by rw [hpwd.out]
    have PWS := Lib.hid (fun i => (show pw i * 66 = pw (i + 1) by rw [hpwd.out]; exact (Nat.pow_succ 66 i).symm))
    have PWL := Lib.hid (fun i (hi : i < F) => (show pw i ≤ 66 ^ 4 by rw [hpwd.out]; exact Nat.pow_le_pow_right (by omega) (by omega)))
    have PW0 := Lib.hid (show pw 0 = 1 by rw [hpwd.out])
    rw [hpF] at vb
    clear hpF
    have RGE := Lib.hid (fun (a : Option Addr) (c : Nat) W (hW : WdsAt W a []) (hg : ∀ g o, a = some ⟨g, o, none⟩ → g < W.heap.size) => rangesP_any { (⟨(F : Int), none, 0, []⟩ : Lan) with wa := a, wc := c } [] none 0 W hW (fun i v h => by simp at h) (by simp) (by simp) hg)
    unfold RngR at RGE
    simp only [(same_rngs ⟨(F : Int), none, 0, []⟩ _ _ _).1, (same_rngs ⟨(F : Int), none, 0, []⟩ _ _ _).2.1, (same_rngs ⟨(F : Int), none, 0, []⟩ _ _ _).2.2, va, vc] at RGE
    have MNE := Lib.hid (fun (a : Option Addr) (c : Nat) W (hW : WdsAt W a []) (hg : ∀ g o, a = some ⟨g, o, none⟩ → g < W.heap.size) => many_any { (⟨(F : Int), none, 0, []⟩ : Lan) with wa := a, wc := c } [] none 0 W hW (fun i v h => by simp at h) (by simp) (by simp) hg)
    simp only [same_many ⟨(F : Int), none, 0, []⟩ _ _ _, (same_rngs ⟨(F : Int), none, 0, []⟩ _ _ _).2.2, va, vb] at MNE
    have MN1 := Lib.hid (fun (a a2 : Option Addr) (c c2 : Nat) W (hW : WdsAt W a l.ws) (hg : ∀ g o, a = some ⟨g, o, none⟩ → g < W.heap.size) (hX : IntsAt W a2 t1) => many_any { l with wa := a, wc := c } t1 a2 c2 W hW hX hw1000 HT1.out hg)
    simp only [same_many l _ _ _, (same_rngs l _ _ _).2.2] at MN1
    have ON := Lib.hid (fun (k : Int) W (hb : Below w.heap.size w W) => only_ref l k W (hL.lo hb) hw1000)
    have hol : ∀ k, (onlyW l.ws k).length ≤ 1000 := fun k => Nat.le_trans (onlyW_len _ _) hw1000
    have LO := Lib.hid (fun (k : Int) (a : Option Addr) (c : Nat) W (hW : WdsAt W a (onlyW l.ws k)) => lawLane_any ⟨1, a, c, onlyW l.ws k⟩ W hW (hol k))
    have MO := Lib.hid (fun (k : Int) (a a2 : Option Addr) (c c2 : Nat) W (hW : WdsAt W a (onlyW l.ws k)) (hg : ∀ g o, a = some ⟨g, o, none⟩ → g < W.heap.size) (hX : IntsAt W a2 t1) => many_any ⟨1, a, c, onlyW l.ws k⟩ t1 a2 c2 W hW hX (hol k) HT1.out hg)
    have OM := Lib.hid (fun (k : Nat) (hk : k < F) (a : Option Addr) (c : Nat) => only_many hF2 (k := (k : Int)) (by omega) (by omega) a c HR1.out)
    obtain ⟨g, hgd⟩ : ∃ g : Nat → List (Int × Int), Hid (g = fun (f : Nat) => gamesL l.ws (offS t1) (f : Int)) := ⟨_, Lib.hid rfl⟩
    have HFR := Lib.hid (show frmL l (offS t1) = (List.range F).map g by rw [hgd.out]; unfold frmL; rw [hFN]; rfl)
    have MP := Lib.hid (many_prod C1.out)
    rw [HFR.out] at MP
    have GL := Lib.hid (fun k => (show (gamesL l.ws (offS t1) ((k : Nat) : Int)).length = (g k).length ∧ (g k).length ≤ 66 by rw [hgd.out]; exact ⟨rfl, games_len _ _ _⟩))
    obtain ⟨pr, hprd⟩ : ∃ pr : Nat → Nat, Hid (pr = fun n => prodN ((List.range n).map g)) := ⟨_, Lib.hid rfl⟩
    have PL := Lib.hid (fun n => (show pr n ≤ 66 ^ n by rw [hprd.out, hgd.out]; exact frm_le l _ n))
    have PS := Lib.hid (fun n => (show pr (n + 1) = pr n * (g n).length by rw [hprd.out]; show prodN ((List.range (n + 1)).map g) = _; rw [List.range_succ, List.map_append]; exact prodN_snoc _ _))
    have PR0 := Lib.hid (show pr 0 = 1 by rw [hprd.out]; rfl)
    have PRF : prodN ((List.range F).map g) = pr F := by rw [hprd.out]
    rw [PRF] at MP
    clear PRF
    have HE9 := Lib.hid (show gofE l t1 = 0 ∨ gofE l t1 = 9 from by
      unfold gofE; rw [if_pos C1.out]; split
      · exact .inl rfl
      · exact .inr rfl)
    unfold NewLan at LN LE LO
    unfold NewOnly at ON
    unfold Lan.val at *
    clear hL h0 h1 hF hF2 hR hw1000 hfs hF15 va vb vc hol
    rw [hFN] at LN RD MN1 ON ⊢
    have hb0 : ∀ (W : World), BX l w W → Blk W w.heap.size #[.int .i64 (F : Int), .slice l.wa l.ws.length l.wc] 24 := fun W h => by have := h.b; rwa [hFN] at this
    have HB0 := Lib.hid hb0
    rw [hFN] at X
    clear hb0
    generalize manyN l t1 = mw at *
    generalize gofE l t1 = ew at *
    go_enter Try.func10, Try.ntmps10
    go_wp2_with fail
    generalize w.alloc _ = W0 at X ⊢
    have hbx := HB0.out _ X.out
    have k0 := hbx.cell 0 (show _ = some (Value.int .i64 (F : Int)) from rfl)
    have k1 := hbx.cell 1 (show _ = some (Value.slice l.wa l.ws.length l.wc) from rfl)
    clear hbx
    go_wp2_with fail
    refine (RD.out _ X.out.bl).mono ?_
    rintro e w2 ⟨rfl, hb⟩
    replace X := Lib.hid (X.out.lo hb)
    clear hb k0 k1 RD
    have hbx := HB0.out _ X.out
    have k0 := hbx.cell 0 (show _ = some (Value.int .i64 (F : Int)) from rfl)
    have k1 := hbx.cell 1 (show _ = some (Value.slice l.wa l.ws.length l.wc) from rfl)
    clear hbx
    go_wp2_with fail
    refine (LE.out _).mono ?_
    rintro e w3 ⟨a3, c3, rfl, hW3, hg3, hb⟩
    replace X := Lib.hid (X.out.lo hb)
    have R3 := Lib.hid (RGE.out a3 c3 _ hW3 hg3)
    clear hb k0 k1 hW3 hg3
    go_wp2_with fail
    refine (R3.out).mono ?_
    rintro e w4 ⟨a5, c5, rfl, hP, hB, hb⟩
    replace X := Lib.hid (X.out.lo hb)
    clear hb hP hB R3 RGE
    have K1 := Lib.hid (Blk.new w4 #[.int .i64 0, .int .i64 (10 * (F : Int))] 41)
    have BA := below_al w4 (.cells #[.int .i64 0, .int .i64 (10 * (F : Int))] 41)
    replace X := Lib.hid (X.out.lo BA)
    clear BA
    have hbx := HB0.out _ X.out
    have k0 := hbx.cell 0 (show _ = some (Value.int .i64 (F : Int)) from rfl)
    have k1 := hbx.cell 1 (show _ = some (Value.slice l.wa l.ws.length l.wc) from rfl)
    clear hbx
    go_wp2_with fail
    refine (LE.out _).mono ?_
    rintro e w5 ⟨a3, c3, rfl, hW3, hg3, hb⟩
    replace X := Lib.hid (X.out.lo hb)
    replace K1 := Lib.hid (Blk.alt (p := fun _ => False) K1.out (Alt.of_below hb (fun k hk e => by omega)) id)
    have R3 := Lib.hid (MNE.out a3 c3 _ hW3 hg3)
    clear hb k0 k1 hW3 hg3 LE
    go_wp2_with fail
    refine (R3.out).mono ?_
    rintro e w6 ⟨rfl, hb⟩
    replace X := Lib.hid (X.out.lo hb)
    replace K1 := Lib.hid (Blk.alt (p := fun _ => False) K1.out (Alt.of_below hb (fun k hk e => by omega)) id)
    clear hb R3 MNE
    go_wp2_with fail
    go_loopg [10, 11] F (fun g s10 s11 wx => ∃ i : Nat, i ≤ F ∧ g = F - i ∧ s11 = .int .i64 (i : Int) ∧ s10 = .int .i64 ((pw i : Nat) : Int) ∧ Hid (BX l w wx) ∧ Hid (Blk wx w4.heap.size #[.int .i64 0, .int .i64 (10 * (F : Int))] 41))
    case atStart => exact ⟨0, by omega, by omega, rfl, by rw [PW0.out]; rfl, X, K1⟩
    case round =>
      obtain ⟨i, hi, rfl, rfl, rfl, hX, hK⟩ := hrel
      clear X K1
      have hbx := HB0.out _ hX.out
      have k0 := hbx.cell 0 (show _ = some (Value.int .i64 (F : Int)) from rfl)
      have k1 := hbx.cell 1 (show _ = some (Value.slice l.wa l.ws.length l.wc) from rfl)
      clear hbx
      by_cases hlt : i < F
      · have hz1 : (i : Int) < (F : Int) := by omega
        have e2 : IntKind.i64.wrap ((i : Int) + 1) = (i : Int) + 1 := IntWalk.i64_in _ (by have := HF5.out; omega)
        have hpw := PWS.out i
        have hple := PWL.out i hlt
        have e3 : IntKind.i64.wrap (((pw i : Nat) : Int) * 66) = ((pw (i + 1) : Nat) : Int) := by
          rw [← hpw, show ((pw i * 66 : Nat) : Int) = ((pw i : Nat) : Int) * 66 by simp]
          exact IntWalk.i64_in _ (by omega)
        have HI := Lib.hid hlt
        clear hlt hi hpw hple
        obtain ⟨P, hP⟩ : ∃ P : Int, ((pw i : Nat) : Int) = P := ⟨_, rfl⟩
        obtain ⟨P1, hP1⟩ : ∃ P : Int, ((pw (i + 1) : Nat) : Int) = P := ⟨_, rfl⟩
        have HP1 := Lib.hid hP1
        rw [hP, hP1] at e3
        rw [hP]
        clear hP hP1
        go_wp2_with fail
        go_roundg (F - (i + 1))
        case measure => have := HI.out; omega
        case rel => exact ⟨i + 1, by have := HI.out; omega, rfl, by simp, by rw [HP1.out], hX, hK⟩
      · have hz1 : ¬ (i : Int) < (F : Int) := by omega
        have hiF : F = i := by omega
        subst hiF
        clear hlt hi hz1
        have X := hX
        have K1 := hK
        clear hX hK
        have q1 := K1.out.cell 0 (show _ = some (Value.int .i64 0) from rfl)
        have q2 := K1.out.cell 1 (show _ = some (Value.int .i64 (10 * (F : Int))) from rfl)
        have e10 : IntKind.i64.wrap (10 * (F : Int)) = 10 * (F : Int) := IntWalk.i64_in _ (by have := HF5.out; omega)
        obtain ⟨P, hP⟩ : ∃ P : Int, ((pw F : Nat) : Int) = P := ⟨_, rfl⟩
        rw [hP]
        clear hP
        go_wp2_with fail
        refine (CH.out _).mono ?_
        rintro e w7 ⟨a1, c1, rfl, hI, hg, hnl, hb⟩
        replace X := Lib.hid (X.out.lo hb)
        have I1 := Lib.hid hI
        have N1 := Lib.hid hnl
        clear hb hI hg hnl CH q1 q2 e10 K1 k0 k1
        have hbx := HB0.out _ X.out
        have k0 := hbx.cell 0 (show _ = some (Value.int .i64 (F : Int)) from rfl)
        have k1 := hbx.cell 1 (show _ = some (Value.slice l.wa l.ws.length l.wc) from rfl)
        clear hbx
        go_wp2_with fail
        refine (LN.out _ X.out.bl).mono ?_
        rintro e w8 ⟨a3, c3, rfl, hW3, hg3, hb⟩
        replace X := Lib.hid (X.out.lo hb)
        replace I1 := Lib.hid (I1.out.lo hb)
        have W3 := Lib.hid hW3
        have G3 := Lib.hid hg3
        clear hb hW3 hg3 k0 k1
        go_wp2_with fail
        refine (LI1.out _ _ _ I1.out N1.out).mono ?_
        rintro e w9 ⟨v4, rfl, ho, hb⟩
        obtain ⟨a4, c4, rfl⟩ := own_len ho
        have I4 := Lib.hid (own_intsAt ho).1
        replace X := Lib.hid (X.out.lo hb)
        replace I1 := Lib.hid (I1.out.lo hb)
        have W4 := Lib.hid (W3.out.lo hb)
        have G4 := Lib.hid (show ∀ g o, a3 = some ⟨g, o, none⟩ → g < w9.heap.size from fun g o e => Nat.lt_of_lt_of_le (G3.out g o e) hb.size)
        clear ho hb W3 G3
        go_wp2_with fail
        refine (MN1.out a3 a4 c3 c4 _ W4.out G4.out I4.out).mono ?_
        rintro e w10 ⟨rfl, hb⟩
        replace X := Lib.hid (X.out.lo hb)
        replace I1 := Lib.hid (I1.out.lo hb)
        clear hb MN1 LN
        clear W4 G4 I4
        go_wp2_with fail
        go_loopg [15, 16] F (fun g' s15 s16 wx => ∃ i : Nat, i ≤ F ∧ g' = F - i ∧ s16 = .int .i64 (i : Int) ∧ s15 = .int .i64 ((pr i : Nat) : Int) ∧ Hid (BX l w wx) ∧ Hid (IntsAt wx a1 t1))
        case atStart => exact ⟨0, by omega, by omega, rfl, by rw [PR0.out]; rfl, X, I1⟩
        case round =>
          obtain ⟨i, hi, rfl, rfl, rfl, hX, hI1⟩ := hrel
          clear X I1
          have X := hX
          have I1 := hI1
          clear hX hI1
          by_cases hlt : i < F
          · have hz1 : (i : Int) < (F : Int) := by omega
            have e2 : IntKind.i64.wrap ((i : Int) + 1) = (i : Int) + 1 := IntWalk.i64_in _ (by have := HF5.out; omega)
            have E2 := Lib.hid e2
            have HI := Lib.hid hlt
            clear hlt hi e2
            have hbx := HB0.out _ X.out
            have k0 := hbx.cell 0 (show _ = some (Value.int .i64 (F : Int)) from rfl)
            have k1 := hbx.cell 1 (show _ = some (Value.slice l.wa l.ws.length l.wc) from rfl)
            clear hbx
            go_wp2_with fail
            refine (ON.out (i : Int) _ X.out.bl).mono ?_
            rintro e w11 ⟨ao, co, rfl, hW3, hg3, hb⟩
            replace X := Lib.hid (X.out.lo hb)
            replace I1 := Lib.hid (I1.out.lo hb)
            have WO := Lib.hid hW3
            clear hb hW3 hg3 k0 k1
            go_wp2_with fail
            refine (LO.out (i : Int) ao co _ WO.out).mono ?_
            rintro e w12 ⟨a3, c3, rfl, hW3, hg3, hb⟩
            replace X := Lib.hid (X.out.lo hb)
            replace I1 := Lib.hid (I1.out.lo hb)
            have W3 := Lib.hid hW3
            have G3 := Lib.hid hg3
            clear hb hW3 hg3 WO
            go_wp2_with fail
            refine (LI1.out _ _ _ I1.out N1.out).mono ?_
            rintro e w13 ⟨v4, rfl, ho, hb⟩
            obtain ⟨a4, c4, rfl⟩ := own_len ho
            have I4 := Lib.hid (own_intsAt ho).1
            replace X := Lib.hid (X.out.lo hb)
            replace I1 := Lib.hid (I1.out.lo hb)
            have W4 := Lib.hid (W3.out.lo hb)
            have G4 := Lib.hid (show ∀ g o, a3 = some ⟨g, o, none⟩ → g < w13.heap.size from fun g o e => Nat.lt_of_lt_of_le (G3.out g o e) hb.size)
            clear ho hb W3 G3
            obtain ⟨om1, om2⟩ := OM.out i HI.out a3 c3
            have M4 := Lib.hid (MO.out (i : Int) a3 a4 c3 c4 _ W4.out G4.out I4.out)
            rw [om2, (GL.out i).1] at M4
            go_wp2_with fail
            refine (M4.out).mono ?_
            rintro e w14 ⟨rfl, hb⟩
            replace X := Lib.hid (X.out.lo hb)
            replace I1 := Lib.hid (I1.out.lo hb)
            clear hb M4
            clear W4 G4 I4
            have hps := PS.out i
            have hpl := PL.out i
            have hpl4 : (66 : Nat) ^ i ≤ 66 ^ 4 := Nat.pow_le_pow_right (by omega) (by have := HI.out; have := HF5.out; omega)
            have hg66 := (GL.out i).2
            have hmul : pr i * (g i).length ≤ 66 ^ 4 * 66 := Nat.mul_le_mul (Nat.le_trans hpl hpl4) hg66
            have e3 : IntKind.i64.wrap (((pr i : Nat) : Int) * ((g i).length : Int)) = ((pr (i + 1) : Nat) : Int) := by
              rw [hps, show ((pr i * (g i).length : Nat) : Int) = ((pr i : Nat) : Int) * ((g i).length : Int) by simp]
              exact IntWalk.i64_in _ (by have h2 : ((pr i * (g i).length : Nat) : Int) = ((pr i : Nat) : Int) * ((g i).length : Int) := (by simp); omega)
            clear hps hpl hpl4 hg66 hmul
            have e2 := E2.out
            obtain ⟨pn, hpn⟩ : ∃ pn : Int, ((pr (i + 1) : Nat) : Int) = pn := ⟨_, rfl⟩
            have HPN := Lib.hid hpn
            rw [hpn] at e3
            clear hpn om2
            rcases om1 with om1 | om1
            · rw [om1]
              clear om1
              go_wp2_with fail
              go_roundg (F - (i + 1))
              case measure => have := HI.out; omega
              case rel => exact ⟨i + 1, by have := HI.out; omega, rfl, by simp, by rw [HPN.out], X, I1⟩
            · rw [om1]
              clear om1
              go_wp2_with fail
              go_roundg (F - (i + 1))
              case measure => have := HI.out; omega
              case rel => exact ⟨i + 1, by have := HI.out; omega, rfl, by simp, by rw [HPN.out], X, I1⟩
          · have hz1 : ¬ (i : Int) < (F : Int) := by omega
            have hiF : F = i := by omega
            subst hiF
            obtain ⟨mp1, mp2⟩ := MP.out
            have hbx := HB0.out _ X.out
            have k0 := hbx.cell 0 (show _ = some (Value.int .i64 (F : Int)) from rfl)
            have k1 := hbx.cell 1 (show _ = some (Value.slice l.wa l.ws.length l.wc) from rfl)
            clear hbx
            generalize pr F = prF at *
            rcases HE9.out with he | he
            · have hm := mp1 he
              subst hm
              subst he
              clear mp2 mp1 hlt hi
              go_wp2_with fail
              refine (WK.out _).mono ?_
              rintro e w15 ⟨rfl, hb⟩
              replace X := Lib.hid (X.out.lo hb)
              replace I1 := Lib.hid (I1.out.lo hb)
              clear hb k0 k1
              go_wp2_with fail
              go_returns
              exact ⟨rfl, X.out.bl⟩
            · have hm := mp2 (by rw [he]; omega)
              subst hm
              subst he
              clear mp2 mp1 hlt hi
              go_wp2_with fail
              refine (WK.out _).mono ?_
              rintro e w16 ⟨rfl, hb⟩
              replace X := Lib.hid (X.out.lo hb)
              replace I1 := Lib.hid (I1.out.lo hb)
              clear hb k0 k1
              go_wp2_with fail
              go_returns
              exact ⟨rfl, X.out.bl⟩
  · have hR : decide (faultW l = 0) = false := by simp [hF]
    rw [hR] at RD
    unfold Lan.val at *
    clear hL h0 h1 hF hR
    go_enter Try.func10, Try.ntmps10
    go_wp2_with fail
    generalize w.alloc _ = W0 at X ⊢
    have k0 := X.out.b.cell 0 (show _ = some (Value.int .i64 l.fs) from rfl)
    have k1 := X.out.b.cell 1 (show _ = some (Value.slice l.wa l.ws.length l.wc) from rfl)
    go_wp2_with fail
    refine (RD.out _ X.out.bl).mono ?_
    rintro e w1 ⟨rfl, hb⟩
    replace X := Lib.hid (X.out.lo hb)
    clear hb k0 k1 RD
    go_wp2_with fail
    refine (WK.out _).mono ?_
    rintro e w2 ⟨rfl, hb⟩
    replace X := Lib.hid (X.out.lo hb)
    clear hb
    go_wp2_with fail
    go_returns
    exact ⟨rfl, X.out.bl⟩

end Go.Proofs.Ytbbndcfnpfedpaa
