/- Sheets up to their bad ball, as mathematics. -/
import Derived.Test.YtmjbidnlknmcgabDoorRdb
set_option linter.unusedVariables false
set_option linter.unusedSimpArgs false
namespace Go.Proofs.YtmjbidnlknmcgabDoor
open Go.RowKit

theorem fol_pre (l : Lw) : ∀ (bs : List Int) (r : Rc), fol l r (bs.take (fol l r bs).2) = fol l r bs
  | [], r => by simp [fol]
  | k :: ks, r => by
    cases ht : okT l r.s k
    · simp [fol, ht]
    · have h := fol_pre l ks (noteR l r k)
      have e : fol l r (k :: ks) = ((fol l (noteR l r k) ks).1, (fol l (noteR l r k) ks).2 + 1) := by rw [fol, if_pos ht]
      rw [e]
      simp only [List.take_succ_cons]
      rw [fol, if_pos ht, h]

theorem fol_pre1 (l : Lw) : ∀ (bs : List Int) (r : Rc), (fol l r bs).2 < bs.length → (fol l r (bs.take ((fol l r bs).2 + 1))).2 = (fol l r bs).2
  | [], r => by simp [fol]
  | k :: ks, r => by
    intro hlt
    cases ht : okT l r.s k
    · simp [fol, ht]
    · have e : fol l r (k :: ks) = ((fol l (noteR l r k) ks).1, (fol l (noteR l r k) ks).2 + 1) := by rw [fol, if_pos ht]
      rw [e] at hlt ⊢
      simp only [List.length_cons] at hlt
      have h := fol_pre1 l ks (noteR l r k) (by omega)
      simp only [List.take_succ_cons]
      rw [fol, if_pos ht, h]

theorem fol_snoc (l : Lw) : ∀ (xs : List Int) (r : Rc) (k : Int), (fol l r xs).2 = xs.length → fol l r (xs ++ [k]) = if okT l (fol l r xs).1.s k = true then (noteR l (fol l r xs).1 k, xs.length + 1) else ((fol l r xs).1, xs.length)
  | [], r, k => by
    intro _
    show fol l r [k] = _
    rw [fol, fol, fol]
    simp
  | x :: xs, r, k => by
    intro h
    cases ht : okT l r.s x
    · simp [fol, ht] at h
    · have e : fol l r (x :: xs) = ((fol l (noteR l r x) xs).1, (fol l (noteR l r x) xs).2 + 1) := by rw [fol, if_pos ht]
      rw [e] at h ⊢
      simp only [List.length_cons, Nat.add_right_cancel_iff] at h
      have h2 := fol_snoc l xs (noteR l r x) k h
      rw [List.cons_append, fol, if_pos ht, h2]
      split <;> simp

theorem fol_stop (l : Lw) : ∀ (bs : List Int) (r : Rc), (fol l r bs).2 < bs.length → ∃ k, bs[(fol l r bs).2]? = some k ∧ okT l (fol l r bs).1.s k = false
  | [], r => by simp [fol]
  | k :: ks, r => by
    intro hlt
    cases ht : okT l r.s k
    · exact ⟨k, by simp [fol, ht], by simp [fol, ht]⟩
    · have e : fol l r (k :: ks) = ((fol l (noteR l r k) ks).1, (fol l (noteR l r k) ks).2 + 1) := by rw [fol, if_pos ht]
      rw [e] at hlt ⊢
      simp only [List.length_cons] at hlt
      obtain ⟨k', h1, h2⟩ := fol_stop l ks (noteR l r k) (by omega)
      exact ⟨k', by simpa using h1, h2⟩

theorem errS_le {l : Lw} {m n : Nat} (h : errS l n = 0) (hm : m ≤ n) : errS l m = 0 := by
  unfold errS at h ⊢
  split at h
  · rename_i hb
    rw [if_pos hb]
    split at h
    · rw [if_pos (by omega)]
    · cases h
  · cases h

/-- What FrameFirst asks of a sheet with a bad ball. -/
structure Ff (l : Lw) (bs : List Int) (n : Nat) (k : Int) : Prop where
  at' : bs[n]? = some k
  g0 : rdE l (bs.take n) = 0
  h10 : rdE l (bs.take (n + 1)) = 10
  dn : rdD l (bs.take n) = true → rdE l (bs.take n ++ [0]) = 10
  nd : rdD l (bs.take n) = false → rdE l (bs.take n ++ [0]) = 0 ∧ rdN l (bs.take n) ≤ rdN l (bs.take n ++ [0]) ∧ (k < -1 ∨ rdS l (bs.take n) < k)

theorem ff_of {l : Lw} {bs : List Int} (he : errS l bs.length = 0) (hlt : (fol l (rec0 l) bs).2 < bs.length) : ∃ k, Ff l bs (fol l (rec0 l) bs).2 k := by
  have ok := (errS_zero he).1
  have hw := fol_rcw ok bs (rec0 l) 0 (rec0_rcw ok)
  obtain ⟨k, hk, hok⟩ := fol_stop l bs (rec0 l) hlt
  have hp := fol_pre l bs (rec0 l)
  have hp1 := fol_pre1 l bs (rec0 l) hlt
  generalize hR : fol l (rec0 l) bs = R at *
  obtain ⟨r, n⟩ := R
  simp only at *
  have hln : (bs.take n).length = n := by simp; omega
  have hln1 : (bs.take (n + 1)).length = n + 1 := by simp; omega
  have e0 : errS l (bs.take n).length = 0 := errS_le he (by omega)
  have e1 : errS l (bs.take (n + 1)).length = 0 := errS_le he (by omega)
  have g0 : rdE l (bs.take n) = 0 := by
    rw [rdE, e0, hp, hln]; simp
  have hrec : recS l (bs.take n) = r := by rw [recS, hp]
  have h10 : rdE l (bs.take (n + 1)) = 10 := by
    rw [rdE, e1, hp1, hln1]; simp
  have hsn := fol_snoc l (bs.take n) (rec0 l) 0 (by rw [hp, hln])
  rw [hp, hln] at hsn
  simp only at hsn
  have hln2 : (bs.take n ++ [0]).length = n + 1 := by rw [List.length_append, hln]; rfl
  have e2 : errS l (bs.take n ++ [0]).length = 0 := errS_le he (by omega)
  have hvd := hw.vd
  refine ⟨k, hk, g0, h10, ?_, ?_⟩
  · intro hd
    rw [rdD, if_pos g0, hrec] at hd
    have : okT l r.s 0 = false := by simp [okT, hd]
    rw [this] at hsn
    simp only [Bool.false_eq_true, if_false] at hsn
    rw [rdE, e2, hsn, hln2]; simp
  · intro hd
    rw [rdD, if_pos g0, hrec] at hd
    have hs0 := hvd.s1
    have ht : okT l r.s 0 = true := by simp [okT, hd]; exact hs0
    rw [ht] at hsn
    simp only [if_true] at hsn
    have hg : rdE l (bs.take n ++ [0]) = 0 := by rw [rdE, e2, hsn, hln2]; simp
    refine ⟨hg, ?_, ?_⟩
    · rw [rdN, if_pos g0, rdN, if_pos hg, hrec, recS, hsn]
      show r.fs.length ≤ ((noteFs r).set _ _).length
      rw [List.length_set]
      unfold noteFs
      split
      · simp
      · exact Nat.le_refl _
    · rw [rdS, if_pos g0, hrec]
      simp only [okT, hd, Bool.not_false, Bool.true_and, Bool.and_eq_false_iff, decide_eq_false_iff_not] at hok
      omega

end Go.Proofs.YtmjbidnlknmcgabDoor
