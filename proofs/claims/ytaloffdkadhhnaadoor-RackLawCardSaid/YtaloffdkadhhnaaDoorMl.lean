/- What RackLaw asks of kinds and of the census, in plain words of lists. -/
import Derived.Test.YtaloffdkadhhnaaDoorCe
set_option linter.unusedVariables false
set_option linter.unusedSimpArgs false
namespace Go.Proofs.YtaloffdkadhhnaaDoor
open Go.RowKit

theorem setN_nil : setN [] = 0 := rfl
theorem size_setN {r : Rk} {xs : List Int} (h : hasL r xs = true) : sizeN (setN xs) = xs.length := by
  obtain ⟨h1, h2⟩ := hasL_out h
  have hp := (@pinsN_bd r).2
  unfold sizeN
  rw [els_setN h1 (fun x hx => ⟨(h2 x hx).1, by have := (h2 x hx).2; omega⟩)]
theorem size_zero {N : Nat} (h : N = 0) : sizeN N = 0 := by subst h; unfold sizeN; rw [els_zero]; rfl
theorem kind_none {r : Rk} {N : Nat} : kindN r N = 0 ↔ N = 0 := by
  unfold kindN
  constructor
  · intro h
    split at h
    · assumption
    · split at h
      · cases h
      · split at h
        · cases h
        · split at h <;> cases h
  · intro h; rw [if_pos h]
theorem kind_one {r : Rk} {N : Nat} : kindN r N = 1 ↔ sizeN N = 1 := by
  unfold kindN
  by_cases h0 : N = 0
  · rw [if_pos h0, size_zero h0]; simp
  · rw [if_neg h0]
    by_cases h1 : sizeN N = 1
    · rw [if_pos h1]; simp [h1]
    · rw [if_neg h1]
      constructor
      · intro h
        split at h
        · cases h
        · split at h <;> cases h
      · intro h; exact absurd h h1

/-- The kind of a leave, by how many pins it has. -/
theorem knd_len0 {r : Rk} {xs : List Int} (hc : chkE r xs = 0) (h : xs.length = 0) : kndN r xs = 0 := by
  have : xs = [] := List.eq_nil_of_length_eq_zero h
  subst this
  unfold kndN; rw [if_pos hc]; exact kind_none.2 rfl
theorem knd_len1 {r : Rk} {xs : List Int} (hc : chkE r xs = 0) (h : xs.length = 1) : kndN r xs = 1 := by
  unfold kndN; rw [if_pos hc]; exact kind_one.2 (by rw [size_setN (chk_ok hc).2, h])
theorem knd_more {r : Rk} {x : Int} {ys : List Int} (hc : chkE r (x :: ys) = 0) (h : 2 ≤ (x :: ys).length) : kndN r (x :: ys) = 2 ∨ (kndN r (x :: ys) = 3 ∧ x ≠ 0) ∨ (kndN r (x :: ys) = 4 ∧ x = 0) := by
  have hs := size_setN (chk_ok hc).2
  obtain ⟨h1, h2⟩ := hasL_out (chk_ok hc).2
  have hp := (@pinsN_bd r).2
  have hb : (setN (x :: ys)).testBit 0 = true ↔ x = 0 := by
    have e := setN_has (xs := x :: ys) (fun y hy => ⟨(h2 y hy).1, by have := (h2 y hy).2; omega⟩) (x := 0) (Int.le_refl _)
    rw [show (0 : Int).toNat = 0 from rfl] at e
    rw [e]
    constructor
    · intro h0
      rcases List.mem_cons.1 h0 with h0 | h0
      · exact h0.symm
      · have := (List.pairwise_cons.1 h1).1 0 h0
        have := (h2 x (by simp)).1
        omega
    · intro h0; simp [h0]
  unfold kndN
  rw [if_pos hc]
  unfold kindN
  have n0 : ¬ setN (x :: ys) = 0 := fun e => by rw [size_zero e] at hs; simp at hs
  rw [if_neg n0, if_neg (by omega)]
  split
  · exact .inl rfl
  · split
    · rename_i hb1; exact .inr (.inr ⟨rfl, hb.1 hb1⟩)
    · rename_i hb1; exact .inr (.inl ⟨rfl, fun e => hb1 (hb.2 e)⟩)

theorem cnt_sum (r : Rk) (n : Nat) : cntK r n 0 + cntK r n 1 + cntK r n 2 + cntK r n 3 + cntK r n 4 = n := by
  induction n with
  | zero => simp [cntK]
  | succ n ih =>
    obtain ⟨k, hk, e⟩ := kindN_lt r n
    simp only [cntK_succ, e]
    have : k = 0 ∨ k = 1 ∨ k = 2 ∨ k = 3 ∨ k = 4 := by omega
    rcases this with rfl | rfl | rfl | rfl | rfl <;> simp <;> omega

theorem ones_1024 : ((List.range 1024).filter fun lv => decide (sizeN lv = 1)).length = 10 := by decide +kernel
theorem ones_64 : ((List.range 64).filter fun lv => decide (sizeN lv = 1)).length = 6 := by decide +kernel
theorem ones_8 : ((List.range 8).filter fun lv => decide (sizeN lv = 1)).length = 3 := by decide +kernel
theorem ones_2 : ((List.range 2).filter fun lv => decide (sizeN lv = 1)).length = 1 := by decide +kernel
theorem nils (n : Nat) (h : 0 < n) : ((List.range n).filter fun lv => decide (lv = 0)).length = 1 := by
  obtain ⟨m, rfl⟩ : ∃ m, n = m + 1 := ⟨n - 1, by omega⟩
  rw [List.range_succ_eq_map, List.filter_cons]
  simp

theorem cnt_ones {r : Rk} (h1 : 1 ≤ r.rows) (h2 : r.rows ≤ 4) : (cntK r (2 ^ (pinsN r.rows).toNat) 1 : Int) = pinsN r.rows := by
  unfold cntK
  have e : (fun lv => decide (kindN r lv = ((1 : Nat) : Int))) = fun lv => decide (sizeN lv = 1) := by
    funext lv; exact decide_eq_decide.2 kind_one
  rw [e]
  have h : r.rows = 1 ∨ r.rows = 2 ∨ r.rows = 3 ∨ r.rows = 4 := by omega
  rcases h with h | h | h | h
  · rw [h]; exact congrArg Int.ofNat ones_2
  · rw [h]; exact congrArg Int.ofNat ones_8
  · rw [h]; exact congrArg Int.ofNat ones_64
  · rw [h]; exact congrArg Int.ofNat ones_1024
theorem cnt_none {r : Rk} : cntK r (2 ^ (pinsN r.rows).toNat) 0 = 1 := by
  unfold cntK
  have e : (fun lv => decide (kindN r lv = ((0 : Nat) : Int))) = fun lv => decide (lv = 0) := by
    funext lv; exact decide_eq_decide.2 kind_none
  rw [e]
  exact nils _ (Nat.two_pow_pos _)

end Go.Proofs.YtaloffdkadhhnaaDoor
