/- What a span and a shown ending say: the ends of spans are reached, and with each ball that is known they come nearer. -/
import Derived.Test.YtmjbidnlknmcgabDoorTt
set_option linter.unusedVariables false
set_option linter.unusedSimpArgs false
namespace Go.Proofs.YtmjbidnlknmcgabDoor
open Go.RowKit

theorem fol_append (l : Lw) : ∀ (xs zs : List Int) (r : Rc), (fol l r xs).2 = xs.length → fol l r (xs ++ zs) = ((fol l (fol l r xs).1 zs).1, xs.length + (fol l (fol l r xs).1 zs).2)
  | [], zs, r, _ => by simp [fol]
  | x :: xs, zs, r, h => by
    cases ht : okT l r.s x
    · simp [fol, ht] at h
    · have e : fol l r (x :: xs) = ((fol l (noteR l r x) xs).1, (fol l (noteR l r x) xs).2 + 1) := by rw [fol, if_pos ht]
      rw [e] at h ⊢
      simp only [List.length_cons, Nat.add_right_cancel_iff] at h
      have h2 := fol_append l xs zs (noteR l r x) h
      rw [List.cons_append, fol, if_pos ht, h2]
      simp only [List.length_cons, Prod.mk.injEq, true_and]
      omega

/-- The ending of a number that can be: it ends the game, and adds the number. -/
theorem shown_ok {l : Lw} (ok : l.Ok) : ∀ (N : Nat) (r : Rc) (n : Int), mu l r.s < N → Vr l r.s → hasB (Rs l r.s) n = true →
    (fol l r (endL l r.s n)).2 = (endL l r.s n).length ∧ (fol l r (endL l r.s n)).1.s.f = l.fr ∧ (fol l r (endL l r.s n)).1.tot = r.tot + n := by
  intro N
  induction N with
  | zero => intro r n h; omega
  | succ N ih =>
    intro r n hN v hb
    have hbd := hasB_bd hb
    have hbit : (Rs l r.s).testBit n.toNat = true := by
      unfold hasB at hb
      simp only [Bool.and_eq_true] at hb
      exact hb.2
    cases hfd : (allB l r.s).find? (hitB l r.s n) with
    | none =>
      rw [endL_none hfd]
      rw [Rs_bit ok r.s v.vd] at hbit
      rcases hbit with ⟨hf, h0⟩ | ⟨k, hk, ha, hb2⟩
      · exact ⟨by simp [fol], by simpa [fol] using hf, by simp [fol]; omega⟩
      · exfalso
        have hno := List.find?_eq_none.1 hfd k hk
        apply hno
        obtain ⟨hf, hk1, hk2⟩ := okT_out (allB_ok hk v.vd)
        have hc := cnt_le ok v.vd hk1 hk2
        have hm : 0 ≤ cnt l r.s k * (1 + r.s.x) := Int.mul_nonneg hc.1 (by have := v.vd.x1; omega)
        have e : (ad l r.s k : Int) = cnt l r.s k * (1 + r.s.x) := by unfold ad; omega
        unfold hitB hasB
        have e2 : (n - cnt l r.s k * (1 + r.s.x)).toNat = n.toNat - ad l r.s k := by omega
        rw [e2, hb2]
        have q1 : 0 ≤ n - cnt l r.s k * (1 + r.s.x) := by omega
        have q2 : n - cnt l r.s k * (1 + r.s.x) ≤ 300 := by omega
        simp [q1, q2]
        omega
    | some k =>
      have hk := List.mem_of_find?_eq_some hfd
      have hh := List.find?_some hfd
      have ht := allB_ok hk v.vd
      obtain ⟨hf, hk1, hk2⟩ := okT_out ht
      have b := beh_vd ok v.vd (by have := v.vd.f2; omega) hk1 hk2
      rw [endL_some ok v.vd hfd]
      have e : fol l r (k :: endL l (behS l r.s k) (n - cnt l r.s k * (1 + r.s.x))) = ((fol l (noteR l r k) (endL l (behS l r.s k) (n - cnt l r.s k * (1 + r.s.x)))).1, (fol l (noteR l r k) (endL l (behS l r.s k) (n - cnt l r.s k * (1 + r.s.x)))).2 + 1) := by rw [fol, if_pos ht]
      rw [e]
      have h := ih (noteR l r k) (n - cnt l r.s k * (1 + r.s.x)) (by show mu l (behS l r.s k) < N; omega) (v.beh ok ht) hh
      have e3 : (noteR l r k).s = behS l r.s k := rfl
      have e4 : (noteR l r k).tot = r.tot + cnt l r.s k * (1 + r.s.x) := rfl
      rw [e3, e4] at h
      obtain ⟨h1, h2, h3⟩ := h
      refine ⟨by simp [h1], h2, by simp only [h3]; omega⟩

/-- A shown ending. -/
structure SH (l : Lw) (bs : List Int) (n : Int) : Prop where
  e : shE l bs n = 0
  len : (shL l bs n).length ≤ 31
  fo : ∃ s, FO l (bs ++ shL l bs n) s ∧ s.f = l.fr
  tot : (recS l (bs ++ shL l bs n)).tot = n

theorem sh_of {l : Lw} {bs : List Int} {n : Int} (h : rdE l bs = 0) (hb : hasB (Rs l (recS l bs).s) (n - (recS l bs).tot) = true) (hn : n ≤ 300) : SH l bs n := by
  obtain ⟨ok, hw, _⟩ := recS_ok h
  obtain ⟨v, hbest⟩ := recS_best h
  have ht := hw.t1
  have hbd := hasB_bd hb
  have hfin : hasB (finN l bs) n = true := by
    unfold hasB at hb ⊢
    simp only [Bool.and_eq_true, decide_eq_true_eq] at hb ⊢
    refine ⟨⟨by omega, hn⟩, ?_⟩
    unfold finN
    rw [Nat.testBit_shiftLeft]
    have e : n.toNat - (recS l bs).tot.toNat = (n - (recS l bs).tot).toNat := by omega
    rw [e, hb.2]
    simp
    omega
  have eL : shL l bs n = endL l (recS l bs).s (n - (recS l bs).tot) := by rw [shL, if_pos hfin]
  obtain ⟨h1, h2, h3⟩ := shown_ok ok (mu l (recS l bs).s + 1) (recS l bs) (n - (recS l bs).tot) (by omega) v hb
  have hF := FO.of h
  have hap := fol_append l bs (shL l bs n) (rec0 l) hF.n
  have hrec : (fol l (rec0 l) bs).1 = recS l bs := rfl
  rw [hrec, eL, h1] at hap
  refine ⟨by rw [shE, if_pos hfin], by rw [eL]; exact endL_len _ ok v.vd, ⟨(fol l (rec0 l) (bs ++ shL l bs n)).1.s, ⟨?_, rfl⟩, ?_⟩, ?_⟩
  · rw [eL, hap]; simp
  · rw [eL, hap]; exact h2
  · show (fol l (rec0 l) (bs ++ shL l bs n)).1.tot = n
    rw [eL, hap]
    simp only [h3]
    omega

theorem sh_lo {l : Lw} {bs : List Int} (h : rdE l bs = 0) : SH l bs (spLo l bs) := by
  obtain ⟨ok, hw, _⟩ := recS_ok h
  obtain ⟨v, hbest⟩ := recS_best h
  obtain ⟨e1, _⟩ := span_val h
  have := best_nn v ok
  rw [e1]
  refine sh_of h ?_ (by omega)
  have hz := Rs_zero ok _ (recS l bs).s (Nat.lt_succ_self _) v.vd
  simp [hasB, hz]
theorem sh_hi {l : Lw} {bs : List Int} (h : rdE l bs = 0) : SH l bs (spHi l bs) := by
  obtain ⟨ok, hw, _⟩ := recS_ok h
  obtain ⟨v, hbest⟩ := recS_best h
  obtain ⟨_, e2⟩ := span_val h
  have h0 := best_nn v ok
  have ht := hw.t1
  rw [e2]
  refine sh_of h ?_ hbest
  have hz := Rs_top ok _ (recS l bs).s (Nat.lt_succ_self _) v
  have e : (recS l bs).tot + bestV l (recS l bs).s - (recS l bs).tot = bestV l (recS l bs).s := by omega
  rw [e]
  have q2 : bestV l (recS l bs).s ≤ 300 := by omega
  simp [hasB, h0, q2, hz]

/-- What all spans of a whole game's first balls say. -/
structure SX (l : Lw) (ys : List Int) : Prop where
  e : ∀ j, j ≤ ys.length → rdE l (ys.take j) = 0
  lo : ∀ j, j < ys.length → spLo l (ys.take j) ≤ spLo l (ys.take (j + 1))
  hi : ∀ j, j < ys.length → spHi l (ys.take (j + 1)) ≤ spHi l (ys.take j)
  le : ∀ j, j ≤ ys.length → spLo l (ys.take j) ≤ spHi l (ys.take j)

theorem sx_of {l : Lw} {ys : List Int} {s : Sd} (h : FO l ys s) (ok : l.Ok) : SX l ys := by
  have hp := px_of h ok
  have hstep : ∀ j, j < ys.length → (recS l (ys.take j)).tot ≤ (recS l (ys.take (j + 1))).tot ∧ (recS l (ys.take (j + 1))).tot + bestV l (recS l (ys.take (j + 1))).s ≤ (recS l (ys.take j)).tot + bestV l (recS l (ys.take j)).s := by
    intro j hj
    have h0 := FO.of (hp.e j (by omega))
    have h1 := FO.of (hp.e (j + 1) (by omega))
    obtain ⟨v, _⟩ := recS_best (hp.e j (by omega))
    have e : ys.take (j + 1) = ys.take j ++ [ys[j]] := by rw [List.take_add_one, List.getElem?_eq_getElem hj]; rfl
    have hsn := fol_snoc l (ys.take j) (rec0 l) (ys[j]) h0.n
    have h1n := h1.n
    have hr : (fol l (rec0 l) (ys.take j)).1 = recS l (ys.take j) := rfl
    rw [hr] at hsn
    have hr1 : recS l (ys.take (j + 1)) = (fol l (rec0 l) (ys.take (j + 1))).1 := rfl
    rw [hr1, e]
    rw [e] at h1n
    rw [hsn] at h1n ⊢
    split
    · rename_i ht
      obtain ⟨hf, hk1, hk2⟩ := okT_out ht
      have hc := cnt_le ok v.vd hk1 hk2
      have hm : 0 ≤ cnt l (recS l (ys.take j)).s ys[j] * (1 + (recS l (ys.take j)).s.x) := Int.mul_nonneg hc.1 (by have := v.vd.x1; omega)
      have hb := (best_step v ok ht).1.1
      have e1 : (noteR l (recS l (ys.take j)) ys[j]).tot = (recS l (ys.take j)).tot + cnt l (recS l (ys.take j)).s ys[j] * (1 + (recS l (ys.take j)).s.x) := rfl
      have e2 : (noteR l (recS l (ys.take j)) ys[j]).s = behS l (recS l (ys.take j)).s ys[j] := rfl
      simp only [e1, e2]
      exact ⟨by omega, by omega⟩
    · rename_i ht
      rw [if_neg ht] at h1n
      simp at h1n
      omega
  refine ⟨hp.e, fun j hj => ?_, fun j hj => ?_, fun j hj => ?_⟩
  · rw [(span_val (hp.e j (by omega))).1, (span_val (hp.e (j + 1) (by omega))).1]
    exact (hstep j hj).1
  · rw [(span_val (hp.e j (by omega))).2, (span_val (hp.e (j + 1) (by omega))).2]
    exact (hstep j hj).2
  · obtain ⟨v, _⟩ := recS_best (hp.e j hj)
    rw [(span_val (hp.e j hj)).1, (span_val (hp.e j hj)).2]
    have := best_nn v ok
    omega

theorem SX.mono {l : Lw} {ys : List Int} (h : SX l ys) (i : Nat) : ∀ d, i + d ≤ ys.length → spLo l (ys.take i) ≤ spLo l (ys.take (i + d)) ∧ spHi l (ys.take (i + d)) ≤ spHi l (ys.take i) := by
  intro d
  induction d with
  | zero => intro _; exact ⟨Int.le_refl _, Int.le_refl _⟩
  | succ d ih =>
    intro hd
    obtain ⟨h1, h2⟩ := ih (by omega)
    have h3 := h.lo (i + d) (by omega)
    have h4 := h.hi (i + d) (by omega)
    exact ⟨by rw [← Nat.add_assoc]; omega, by rw [← Nat.add_assoc]; omega⟩

/-- In the end both ends of the span are the final count. -/
theorem sp_done {l : Lw} {ys : List Int} {s : Sd} (h : FO l ys s) (ok : l.Ok) (hf : s.f = l.fr) : spLo l ys = (recS l ys).tot ∧ spHi l ys = (recS l ys).tot := by
  obtain ⟨h1, h2⟩ := span_val (h.rd ok)
  have e : (recS l ys).s.f = l.fr := by rw [← hf, ← h.s]; rfl
  have e2 : bestV l (recS l ys).s = 0 := by unfold bestV; rw [if_pos e]
  exact ⟨h1, by omega⟩

end Go.Proofs.YtmjbidnlknmcgabDoor
