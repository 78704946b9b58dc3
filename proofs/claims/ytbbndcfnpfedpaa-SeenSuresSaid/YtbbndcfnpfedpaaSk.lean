/- The contracts of check and Explains. -/
import Derived.Test.YtbbndcfnpfedpaaSj
set_option linter.unusedVariables false
set_option linter.unusedSimpArgs false
namespace Go.Proofs.Ytbbndcfnpfedpaa
open Go.RowKit Go.Shelf

attribute [local go_sem] Oper.semAt_some

theorem Blk.put6 {W : World} {b : Nat} {y0 y1 y2 y3 y4 y5 : Value} {t : TypeId} (h : Blk W b #[y0, y1, y2, y3, y4, y5] t) (x0 x1 x2 x3 x4 x5 : Value) :
    Blk ((((((W.setCell ⟨b, 0, none⟩ x0).setCell ⟨b, 1, none⟩ x1).setCell ⟨b, 2, none⟩ x2).setCell ⟨b, 3, none⟩ x3).setCell ⟨b, 4, none⟩ x4).setCell ⟨b, 5, none⟩ x5) b #[x0, x1, x2, x3, x4, x5] t ∧
    Alt (fun k => k = b) W ((((((W.setCell ⟨b, 0, none⟩ x0).setCell ⟨b, 1, none⟩ x1).setCell ⟨b, 2, none⟩ x2).setCell ⟨b, 3, none⟩ x3).setCell ⟨b, 4, none⟩ x4).setCell ⟨b, 5, none⟩ x5) :=
  ⟨((((((h.setAt 0 x0).setAt 1 x1).setAt 2 x2).setAt 3 x3).setAt 4 x4).setAt 5 x5), ((((((Alt.refl (fun k => k = b) W).setCell (q := ⟨b, 0, none⟩) rfl x0).setCell (q := ⟨b, 1, none⟩) rfl x1).setCell (q := ⟨b, 2, none⟩) rfl x2).setCell (q := ⟨b, 3, none⟩) rfl x3).setCell (q := ⟨b, 4, none⟩) rfl x4).setCell (q := ⟨b, 5, none⟩) rfl x5⟩

theorem Alt.lowN {p : Nat → Prop} {a b : World} {B : Nat} (h : Below B a b) (hp : ∀ k, k < a.heap.size → ¬ p k) (hB : a.heap.size ≤ B) : Alt p a b := Alt.of_below h (fun k hk e => absurd hk (by omega))

/-- The error of a list of tellers, for a lane. -/
def chkE (l : Lan) (ts : List Int) : Int := if faultW l = 0 then (if riseIn 0 3 ts = true then 0 else 2) else faultW l
def offS (ts : List Int) : Int → Bool := withS (fun _ => false) ts
def wtZero : Array Value := #[.int .i64 0, .slice none 0 0, .bool false, .bool false, .bool false, .bool false]
def chkV (l : Lan) (ts : List Int) : Value := .agg (if chkE l ts = 0 then wtCells l (offS ts) else wtZero)

theorem riseIn_all {lo hi : Int} {ts : List Int} (h : riseIn lo hi ts = true) : ∀ x ∈ ts, lo ≤ x ∧ x ≤ hi := by
  unfold riseIn at h
  simp only [Bool.and_eq_true, List.all_eq_true] at h
  exact fun x hx => inB_iff.1 (h.2 x hx)

set_option maxRecDepth 100000 in
set_option maxHeartbeats 8000000 in
theorem check_any (l : Lan) (ts : List Int) (a : Option Addr) (c : Nat) (w : World) (hL : WdsAt w l.wa l.ws) (hX : IntsAt w a ts) (hn : l.ws.length ≤ 1000) (hm : ts.length ≤ 1000) :
    Calls Try.prog 52 #[l.val, .slice a ts.length c] w fun e w' => e = .returned (.tuple #[chkV l ts, .int .i64 (chkE l ts)]) ∧ Below w.heap.size w w' := by
  have CL := Lib.hid (fun W (hb : Below w.heap.size w W) => checkLane_any l W (hL.lo hb) hn)
  have RI := Lib.hid (fun W (hb : Below w.heap.size w W) => rises_any ts 0 3 a c W (hX.lo hb) hm)
  have WI := Lib.hid (fun W (hb : Below w.heap.size w W) (h : ∀ x ∈ ts, 0 ≤ x ∧ x ≤ 3) => with_any (fun _ => false) ts a c W (hX.lo hb) h hm)
  have HE : Hid (chkE l ts = if faultW l = 0 then (if riseIn 0 3 ts = true then 0 else 2) else faultW l) := Lib.hid rfl
  have HV : Hid (chkV l ts = .agg (if chkE l ts = 0 then wtCells l (offS ts) else wtZero)) := Lib.hid rfl
  have K0 := Lib.hid (show Blk ((w.alloc (.cells #[.int .i64 l.fs, .slice l.wa l.ws.length l.wc] 32)).alloc (.cells #[.int .i64 0, .slice none 0 0, .bool false, .bool false, .bool false, .bool false] 90)) w.heap.size #[.int .i64 l.fs, .slice l.wa l.ws.length l.wc] 32 from Blk.alt (p := fun _ => False) (Blk.new w _ _) ((Alt.refl _ _).alloc _) id)
  have T0 := Lib.hid (show Blk ((w.alloc (.cells #[.int .i64 l.fs, .slice l.wa l.ws.length l.wc] 32)).alloc (.cells #[.int .i64 0, .slice none 0 0, .bool false, .bool false, .bool false, .bool false] 90)) (w.heap.size + 1) #[.int .i64 0, .slice none 0 0, .bool false, .bool false, .bool false, .bool false] 90 from by
    have := Blk.new (w.alloc (.cells #[.int .i64 l.fs, .slice l.wa l.ws.length l.wc] 32)) #[.int .i64 0, .slice none 0 0, .bool false, .bool false, .bool false, .bool false] 90
    rwa [World.size_alloc] at this)
  have B0 := Lib.hid (below_al2 (below_al w (.cells #[.int .i64 l.fs, .slice l.wa l.ws.length l.wc] 32)) (.cells #[.int .i64 0, .slice none 0 0, .bool false, .bool false, .bool false, .bool false] 90))
  have HFA := Lib.hid (@riseIn_all 0 3 ts)
  have HOS : Hid (offS ts = withS (fun _ => false) ts) := Lib.hid rfl
  unfold wtCells at HV
  unfold wtZero at HV
  generalize faultW l = F at *
  generalize riseIn 0 3 ts = RB at *
  generalize chkE l ts = E at *
  generalize chkV l ts = V at *
  unfold Lan.val at *
  obtain ⟨fs, wa, wc, ws⟩ := l
  simp only at *
  clear hL hX hn hm
  go_enter Try.func52, Try.ntmps52
  go_wp2_with fail
  generalize (w.alloc _).alloc _ = W0 at K0 T0 B0 ⊢
  have k0 := K0.out.cell 0 (show _ = some (Value.int .i64 fs) from rfl)
  have k1 := K0.out.cell 1 (show _ = some (Value.slice wa ws.length wc) from rfl)
  go_wp2_with fail
  refine (CL.out _ B0.out).mono ?_
  rintro e w1 ⟨rfl, hb1⟩
  have B1 := Lib.hid (below_go B0.out hb1)
  have K1 := Lib.hid (Blk.alt (p := fun _ => False) K0.out (Alt.of_below hb1 (fun k hk e => by omega)) id)
  have T1 := Lib.hid (Blk.alt (p := fun _ => False) T0.out (Alt.of_below hb1 (fun k hk e => by omega)) id)
  clear hb1 k0 k1 K0 T0 B0 CL
  by_cases hF : F = 0
  · subst hF
    have HE2 : Hid (E = if RB = true then 0 else 2) := Lib.hid (by rw [HE.out, if_pos rfl])
    clear HE
    go_wp2_with fail
    refine (RI.out _ B1.out).mono ?_
    rintro e w2 ⟨rfl, hb2⟩
    have B2 := Lib.hid (below_go B1.out hb2)
    have K2 := Lib.hid (Blk.alt (p := fun _ => False) K1.out (Alt.of_below hb2 (fun k hk e => by omega)) id)
    have T2 := Lib.hid (Blk.alt (p := fun _ => False) T1.out (Alt.of_below hb2 (fun k hk e => by omega)) id)
    clear hb2 K1 T1 B1 RI
    cases RB
    · have HE3 := Lib.hid (show E = 2 from HE2.out)
      have HV3 : Hid (V = .agg #[.int .i64 0, .slice none 0 0, .bool false, .bool false, .bool false, .bool false]) := Lib.hid (by rw [HV.out, HE3.out, if_neg (by omega)])
      clear HE2 HV WI HFA HOS
      have f0 := T2.out.fr 0
      have f1 := T2.out.fr 1
      have f2 := T2.out.fr 2
      have f3 := T2.out.fr 3
      have f4 := T2.out.fr 4
      have f5 := T2.out.fr 5
      have t0 := T2.out.cell 0 (show _ = some (Value.int .i64 0) from rfl)
      have t1 := T2.out.cell 1 (show _ = some (Value.slice none 0 0) from rfl)
      have t2 := T2.out.cell 2 (show _ = some (Value.bool false) from rfl)
      have t3 := T2.out.cell 3 (show _ = some (Value.bool false) from rfl)
      have t4 := T2.out.cell 4 (show _ = some (Value.bool false) from rfl)
      have t5 := T2.out.cell 5 (show _ = some (Value.bool false) from rfl)
      have PT := Lib.hid (T2.out.put6 (.int .i64 0) (.slice none 0 0) (.bool false) (.bool false) (.bool false) (.bool false))
      go_wp2_with fail
      have pt := PT.out
      generalize World.setCell _ _ _ = X at pt ⊢
      have h0 := pt.1.cell 0 (show _ = some (Value.int .i64 0) from rfl)
      have h1 := pt.1.cell 1 (show _ = some (Value.slice none 0 0) from rfl)
      have h2 := pt.1.cell 2 (show _ = some (Value.bool false) from rfl)
      have h3 := pt.1.cell 3 (show _ = some (Value.bool false) from rfl)
      have h4 := pt.1.cell 4 (show _ = some (Value.bool false) from rfl)
      have h5 := pt.1.cell 5 (show _ = some (Value.bool false) from rfl)
      refine bodyPost_ret (v := .tuple #[.agg #[.int .i64 0, .slice none 0 0, .bool false, .bool false, .bool false, .bool false], .int .i64 2]) (by simp [results, Try.results52, go_sem, h0, h1, h2, h3, h4, h5]) rfl ⟨by rw [HE3.out, HV3.out], ?_⟩
      exact ((Alt.of_below (p := fun k => w.heap.size ≤ k) B2.out (fun k hk e => e)).trans (pt.2.mono fun k _ e => by omega)).below (Nat.le_refl _) fun _ e => e
    · have HE3 := Lib.hid (show E = 0 from HE2.out)
      have W2 := Lib.hid (fun W (hb : Below w.heap.size w W) => WI.out W hb (HFA.out rfl))
      rw [← HOS.out] at W2
      generalize offS ts = S at *
      have HV3 : Hid (V = .agg #[.int .i64 fs, .slice wa ws.length wc, .bool (S 0), .bool (S 1), .bool (S 2), .bool (S 3)]) := Lib.hid (by rw [HV.out, HE3.out, if_pos rfl])
      have hfv : fVal (fun _ => false) = .agg #[.bool false, .bool false, .bool false, .bool false] := rfl
      rw [hfv] at W2
      unfold fVal fCells at W2
      clear HE2 HV WI HFA HOS hfv
      have k0 := K2.out.cell 0 (show _ = some (Value.int .i64 fs) from rfl)
      have k1 := K2.out.cell 1 (show _ = some (Value.slice wa ws.length wc) from rfl)
      have BD := Lib.hid (show Below w.heap.size w w2.drew from B2.out.drew)
      have SP := Lib.hid (show ∀ W, Below w2.heap.size w2 W → (W.cell? ⟨w.heap.size, 0, none⟩ = some (.int .i64 fs) ∧ W.cell? ⟨w.heap.size, 1, none⟩ = some (.slice wa ws.length wc)) from fun W hb => ⟨cell_lo hb (K2.out.cell 0 rfl), cell_lo hb (K2.out.cell 1 rfl)⟩)
      have TP := Lib.hid (show ∀ W, Below w2.heap.size w2 W → Blk W (w.heap.size + 1) #[.int .i64 0, .slice none 0 0, .bool false, .bool false, .bool false, .bool false] 90 from fun W hb => Blk.alt (p := fun _ => False) T2.out (Alt.of_below hb (fun k hk e => by omega)) id)
      go_wp2_with fail
      go_region_with (first | (go_at_call 64; (with_reducible refine (W2.out _ BD.out).mono ?_); rintro e w3 ⟨rfl, hb3⟩; have H3 := Lib.hid (below_go (Below.refl _ w2).drew hb3); have T3 := Lib.hid (TP.out _ H3.out); obtain ⟨k0, k1⟩ := SP.out _ H3.out; have f0 := T3.out.fr 0; have f1 := T3.out.fr 1; have f2 := T3.out.fr 2; have f3 := T3.out.fr 3; have f4 := T3.out.fr 4; have f5 := T3.out.fr 5; have t0 := T3.out.cell 0 (show _ = some (Value.int .i64 0) from rfl); have t1 := T3.out.cell 1 (show _ = some (Value.slice none 0 0) from rfl); have t2 := T3.out.cell 2 (show _ = some (Value.bool false) from rfl); have t3 := T3.out.cell 3 (show _ = some (Value.bool false) from rfl); have t4 := T3.out.cell 4 (show _ = some (Value.bool false) from rfl); have t5 := T3.out.cell 5 (show _ = some (Value.bool false) from rfl); have PT := Lib.hid (T3.out.put6 (.int .i64 fs) (.slice wa ws.length wc) (.bool (S 0)) (.bool (S 1)) (.bool (S 2)) (.bool (S 3)))))
      all_goals
        go_wp2_with fail
        have pt := PT.out
        clear t0 t1 t2 t3 t4 t5 f0 f1 f2 f3 f4 f5
        generalize World.setCell _ _ _ = X at pt ⊢
        have h0 := pt.1.cell 0 (show _ = some (Value.int .i64 fs) from rfl)
        have h1 := pt.1.cell 1 (show _ = some (Value.slice wa ws.length wc) from rfl)
        have h2 := pt.1.cell 2 (show _ = some (Value.bool (S 0)) from rfl)
        have h3 := pt.1.cell 3 (show _ = some (Value.bool (S 1)) from rfl)
        have h4 := pt.1.cell 4 (show _ = some (Value.bool (S 2)) from rfl)
        have h5 := pt.1.cell 5 (show _ = some (Value.bool (S 3)) from rfl)
        refine bodyPost_ret (v := .tuple #[.agg #[.int .i64 fs, .slice wa ws.length wc, .bool (S 0), .bool (S 1), .bool (S 2), .bool (S 3)], .int .i64 0]) (by simp [results, Try.results52, go_sem, h0, h1, h2, h3, h4, h5]) rfl ⟨by rw [HE3.out, HV3.out], ?_⟩
        exact ((Alt.of_below (p := fun k => w.heap.size ≤ k) (below_go B2.out H3.out) (fun k hk e => e)).trans (pt.2.mono fun k _ e => by omega)).below (Nat.le_refl _) fun _ e => e
  · have HE3 : Hid (E = F) := Lib.hid (by rw [HE.out, if_neg hF])
    have HV3 : Hid (V = .agg #[.int .i64 0, .slice none 0 0, .bool false, .bool false, .bool false, .bool false]) := Lib.hid (by rw [HV.out, HE3.out, if_neg hF])
    have hF2 : (F == 0) = false := by simpa using hF
    clear HE HV WI HFA HOS RI
    have f0 := T1.out.fr 0
    have f1 := T1.out.fr 1
    have f2 := T1.out.fr 2
    have f3 := T1.out.fr 3
    have f4 := T1.out.fr 4
    have f5 := T1.out.fr 5
    have t0 := T1.out.cell 0 (show _ = some (Value.int .i64 0) from rfl)
    have t1 := T1.out.cell 1 (show _ = some (Value.slice none 0 0) from rfl)
    have t2 := T1.out.cell 2 (show _ = some (Value.bool false) from rfl)
    have t3 := T1.out.cell 3 (show _ = some (Value.bool false) from rfl)
    have t4 := T1.out.cell 4 (show _ = some (Value.bool false) from rfl)
    have t5 := T1.out.cell 5 (show _ = some (Value.bool false) from rfl)
    have PT := Lib.hid (T1.out.put6 (.int .i64 0) (.slice none 0 0) (.bool false) (.bool false) (.bool false) (.bool false))
    go_wp2_with fail
    have pt := PT.out
    generalize World.setCell _ _ _ = X at pt ⊢
    have h0 := pt.1.cell 0 (show _ = some (Value.int .i64 0) from rfl)
    have h1 := pt.1.cell 1 (show _ = some (Value.slice none 0 0) from rfl)
    have h2 := pt.1.cell 2 (show _ = some (Value.bool false) from rfl)
    have h3 := pt.1.cell 3 (show _ = some (Value.bool false) from rfl)
    have h4 := pt.1.cell 4 (show _ = some (Value.bool false) from rfl)
    have h5 := pt.1.cell 5 (show _ = some (Value.bool false) from rfl)
    refine bodyPost_ret (v := .tuple #[.agg #[.int .i64 0, .slice none 0 0, .bool false, .bool false, .bool false, .bool false], .int .i64 F]) (by simp [results, Try.results52, go_sem, h0, h1, h2, h3, h4, h5]) rfl ⟨by rw [HE3.out, HV3.out], ?_⟩
    exact ((Alt.of_below (p := fun k => w.heap.size ≤ k) B1.out (fun k hk e => e)).trans (pt.2.mono fun k _ e => by omega)).below (Nat.le_refl _) fun _ e => e

/-- What a lane without an error says of itself. -/
theorem fault0 {l : Lan} (h : faultW l = 0) : (∀ x ∈ l.ws, 0 ≤ x.te ∧ x.te ≤ 3) ∧ l.ws.length ≤ 30 ∧ 1 ≤ l.fs ∧ l.fs ≤ 5 ∧ (∀ x ∈ l.ws, wrongW l.fs x = false) := by
  unfold faultW at h
  split at h
  · omega
  · next h30 =>
    split at h
    · next hv =>
      unfold validW at hv
      simp only [Bool.and_eq_true, Bool.not_eq_true', List.any_eq_false] at hv
      have h1 := inB_iff.1 hv.1
      refine ⟨fun x hx => ?_, by omega, h1.1, h1.2, fun x hx => by simpa using hv.2 x hx⟩
      have := hv.2 x hx
      unfold wrongW at this
      simp only [Bool.or_eq_true, Bool.not_eq_true', decide_eq_true_eq, not_or] at this
      have h3 : inB x.te 0 3 = true := by simpa using this.2.2.1
      exact inB_iff.1 h3
    · omega

theorem chkE_zero {l : Lan} {ts : List Int} (h : chkE l ts = 0) : faultW l = 0 ∧ riseIn 0 3 ts = true := by
  unfold chkE at h
  split at h
  · next h0 =>
    refine ⟨h0, ?_⟩
    split at h
    · next h1 => exact h1
    · omega
  · next h0 => exact absurd h h0

def explB (l : Lan) (ts : List Int) : Bool := decide (chkE l ts = 0) && possB l (offS ts)

set_option maxRecDepth 100000 in
set_option maxHeartbeats 4000000 in
theorem explains_any (l : Lan) (ts : List Int) (a : Option Addr) (c : Nat) (w : World) (hL : WdsAt w l.wa l.ws) (hX : IntsAt w a ts) (hn : l.ws.length ≤ 1000) (hm : ts.length ≤ 1000) (hga : ∀ g o, l.wa = some ⟨g, o, none⟩ → g < w.heap.size) :
    Calls Try.prog 21 #[l.val, .slice a ts.length c] w fun e w' => e = .returned (.tuple #[.bool (explB l ts), .int .i64 (chkE l ts)]) ∧ Below w.heap.size w w' := by
  have CK := Lib.hid (fun W (hb : Below w.heap.size w W) => check_any l ts a c W (hL.lo hb) (hX.lo hb) hn hm)
  have PO := Lib.hid (fun W (hb : Below w.heap.size w W) (h : chkE l ts = 0) => possible_any l (offS ts) W (hL.lo hb) (fault0 (chkE_zero h).1).1 hn (by have := (fault0 (chkE_zero h).1).2.2.1; omega) (fault0 (chkE_zero h).1).2.2.2.1 (fun g o e => Nat.lt_of_lt_of_le (hga g o e) hb.size))
  have HB : Hid (explB l ts = (decide (chkE l ts = 0) && possB l (offS ts))) := Lib.hid rfl
  have HV : Hid (chkV l ts = .agg (if chkE l ts = 0 then wtCells l (offS ts) else wtZero)) := Lib.hid rfl
  have B0 := Lib.hid (below_al w (.cells #[.int .i64 l.fs, .slice l.wa l.ws.length l.wc] 32))
  generalize chkE l ts = E at *
  generalize chkV l ts = V at *
  generalize explB l ts = R at *
  generalize offS ts = S at *
  generalize possB l S = PB at *
  unfold wtCells at HV PO
  unfold wtZero at HV
  unfold Lan.val at *
  obtain ⟨fs, wa, wc, ws⟩ := l
  simp only at *
  clear hL hX hn hm hga
  by_cases hE : E = 0
  · subst hE
    have HV2 := HV.out
    rw [if_pos rfl] at HV2
    have HR : Hid (R = PB) := Lib.hid (by rw [HB.out]; simp)
    have PO2 := Lib.hid (fun W hb => PO.out W hb rfl)
    clear HV HB PO
    subst HV2
    go_enter Try.func21, Try.ntmps21
    go_wp2_with fail
    refine (CK.out _ B0.out).mono ?_
    rintro e w1 ⟨rfl, hb1⟩
    have B1 := Lib.hid (below_go B0.out hb1)
    clear hb1 B0 CK
    have B2 := Lib.hid (below_al2 B1.out (.cells #[.int .i64 fs, .slice wa ws.length wc, .bool (S 0), .bool (S 1), .bool (S 2), .bool (S 3)] 90))
    go_wp2_with fail
    refine (PO2.out _ B2.out).mono ?_
    rintro e w3 ⟨rfl, hb3⟩
    have B3 := Lib.hid (below_go B2.out hb3)
    clear hb3 PO2
    go_wp2_with fail
    go_returns
    exact ⟨by rw [HR.out]; first | done | rfl, B3.out⟩
  · have HV2 := HV.out
    rw [if_neg hE] at HV2
    have HR : Hid (R = false) := Lib.hid (by rw [HB.out]; simp [hE])
    have hE2 : (E == 0) = false := by simpa using hE
    clear HV HB PO
    subst HV2
    go_enter Try.func21, Try.ntmps21
    go_wp2_with fail
    refine (CK.out _ B0.out).mono ?_
    rintro e w1 ⟨rfl, hb1⟩
    have B1 := Lib.hid (below_go B0.out hb1)
    clear hb1 B0 CK
    have B2 := Lib.hid (below_al2 B1.out (.cells #[.int .i64 0, .slice none 0 0, .bool false, .bool false, .bool false, .bool false] 90))
    go_wp2_with fail
    go_returns
    exact ⟨by rw [HR.out]; first | done | rfl, B2.out⟩

end Go.Proofs.Ytbbndcfnpfedpaa
