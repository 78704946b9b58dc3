/- Sets of pins as numbers: their bits, what they have, their elements in order. -/
import Derived.Laws.Entries
import Derived.Lib.Hide
set_option linter.unusedVariables false
set_option linter.unusedSimpArgs false
namespace Go.Proofs.YtaloffdkadhhnaaDoor
open Go.RowKit

def dif (a b : Nat) : Nat := a ^^^ (a &&& b)
theorem dif_bit (a b i : Nat) : (dif a b).testBit i = (a.testBit i && !b.testBit i) := by
  unfold dif; rw [Nat.testBit_xor, Nat.testBit_and]; cases a.testBit i <;> cases b.testBit i <;> rfl

theorem ofInt16 {a : Nat} (h : a < 65536) : (BitVec.ofInt 16 (a : Int)).toNat = a := by
  rw [BitVec.ofInt_natCast, BitVec.toNat_ofNat]; exact Nat.mod_eq_of_lt (by omega)
theorem wrap16 {a : Nat} (h : a < 65536) : IntKind.u16.wrap (a : Int) = a := by
  unfold IntKind.wrap; simp [IntKind.bits, IntKind.signed]; omega

theorem and16 {a b : Nat} (ha : a < 65536) (hb : b < 65536) : bits .and .u16 (a : Int) (b : Int) = ((a &&& b : Nat) : Int) := by
  have h : a &&& b < 65536 := Nat.and_lt_two_pow (n := 16) _ hb
  show IntKind.u16.wrap ((BitVec.ofInt 16 (a : Int) &&& BitVec.ofInt 16 (b : Int)).toNat : Int) = _
  rw [BitVec.toNat_and, ofInt16 ha, ofInt16 hb, wrap16 h]
theorem bor16 {a b : Nat} (ha : a < 65536) (hb : b < 65536) : bits .or .u16 (a : Int) (b : Int) = ((a ||| b : Nat) : Int) := by
  have h : a ||| b < 65536 := Nat.or_lt_two_pow (n := 16) ha hb
  show IntKind.u16.wrap ((BitVec.ofInt 16 (a : Int) ||| BitVec.ofInt 16 (b : Int)).toNat : Int) = _
  rw [BitVec.toNat_or, ofInt16 ha, ofInt16 hb, wrap16 h]
theorem dif_lt {a b : Nat} (ha : a < 65536) : dif a b < 65536 :=
  Nat.lt_of_lt_of_le (Nat.xor_lt_two_pow (n := 16) ha (Nat.lt_of_le_of_lt Nat.and_le_left ha)) (by decide)
theorem bnot16 {a b : Nat} (ha : a < 65536) (hb : b < 65536) : bits .andNot .u16 (a : Int) (b : Int) = ((dif a b : Nat) : Int) := by
  show IntKind.u16.wrap ((BitVec.ofInt 16 (a : Int) &&& ~~~ BitVec.ofInt 16 (b : Int)).toNat : Int) = _
  have e : (BitVec.ofInt 16 (a : Int) &&& ~~~ BitVec.ofInt 16 (b : Int)).toNat = dif a b := by
    apply Nat.eq_of_testBit_eq
    intro i
    rw [dif_bit]
    rw [BitVec.testBit_toNat, BitVec.getLsbD_and, BitVec.getLsbD_not, ← BitVec.testBit_toNat, ← BitVec.testBit_toNat, ofInt16 ha, ofInt16 hb]
    by_cases hi : i < 16
    · simp [hi]
    · have : a.testBit i = false := Nat.testBit_lt_two_pow (Nat.lt_of_lt_of_le ha (Nat.pow_le_pow_right (n := 2) (by omega) (show 16 ≤ i by omega)))
      simp [this]
  rw [e, wrap16 (dif_lt ha)]

theorem shl16 {p : Int} (h1 : 0 ≤ p) (h2 : p ≤ 15) : IntKind.u16.wrap (2 ^ p.toNat) = ((1 <<< p.toNat : Nat) : Int) := by
  have e : (2 ^ p.toNat : Int) = ((1 <<< p.toNat : Nat) : Int) := by rw [Nat.one_shiftLeft]; simp
  have h : (1 : Nat) <<< p.toNat < 65536 := by rw [Nat.one_shiftLeft]; exact Nat.pow_lt_pow_right (by omega) (by omega : p.toNat < 16)
  rw [e, wrap16 h]
theorem one_bit (p i : Nat) : (1 <<< p).testBit i = decide (i = p) := by
  rw [Nat.one_shiftLeft, Nat.testBit_two_pow]
  simp [eq_comm]
/-- What 'has' asks. -/
theorem has16 {N : Nat} (hN : N < 65536) (i : Nat) : (bits .and .u16 ((N : Int) / 2 ^ i) 1 == 1) = N.testBit i := by
  have e : ((N : Int) / 2 ^ i) = ((N / 2 ^ i : Nat) : Int) := by simp
  have h : N / 2 ^ i < 65536 := Nat.lt_of_le_of_lt (Nat.div_le_self _ _) hN
  rw [e, show (1 : Int) = ((1 : Nat) : Int) from rfl, and16 h (by decide), Nat.and_one_is_mod, Nat.testBit_eq_decide_div_mod_eq]
  by_cases h2 : N / 2 ^ i % 2 = 1
  · rw [h2]; simp
  · have : N / 2 ^ i % 2 = 0 := by omega
    rw [this]; simp

/-- The elements of a set, rising. -/
def elsF : Nat → Nat → Nat → List Int
  | 0, _, _ => []
  | f + 1, k, N => if N % 2 = 1 then (k : Int) :: elsF f (k + 1) (N / 2) else elsF f (k + 1) (N / 2)
def els (N : Nat) : List Int := elsF 16 0 N

theorem mem_elsF (x : Int) : ∀ (f k N : Nat), x ∈ elsF f k N ↔ ∃ i, i < f ∧ N.testBit i = true ∧ x = ((k + i : Nat) : Int)
  | 0, k, N => by simp [elsF]
  | f + 1, k, N => by
    have ih := mem_elsF x f (k + 1) (N / 2)
    have h0 : N.testBit 0 = decide (N % 2 = 1) := by rw [Nat.testBit_zero]
    have key : (∃ i, i < f ∧ (N / 2).testBit i = true ∧ x = ((k + 1 + i : Nat) : Int)) ↔ ∃ i, 0 < i ∧ i < f + 1 ∧ N.testBit i = true ∧ x = ((k + i : Nat) : Int) := by
      constructor
      · rintro ⟨i, h1, h2, h3⟩
        exact ⟨i + 1, by omega, by omega, by rw [Nat.testBit_succ]; exact h2, by rw [h3]; congr 1; omega⟩
      · rintro ⟨i, h1, h2, h3, h4⟩
        obtain ⟨j, rfl⟩ : ∃ j, i = j + 1 := ⟨i - 1, by omega⟩
        exact ⟨j, by omega, by rw [Nat.testBit_succ] at h3; exact h3, by rw [h4]; congr 1; omega⟩
    rw [elsF]
    by_cases h : N % 2 = 1
    · rw [if_pos h, List.mem_cons, ih, key]
      constructor
      · rintro (e | ⟨i, h1, h2, h3, h4⟩)
        · exact ⟨0, by omega, by rw [h0]; simp [h], by rw [e]; simp⟩
        · exact ⟨i, h2, h3, h4⟩
      · rintro ⟨i, h1, h2, h3⟩
        by_cases hi : i = 0
        · subst hi; left; rw [h3]; simp
        · right; exact ⟨i, by omega, h1, h2, h3⟩
    · rw [if_neg h, ih, key]
      constructor
      · rintro ⟨i, h1, h2, h3, h4⟩; exact ⟨i, h2, h3, h4⟩
      · rintro ⟨i, h1, h2, h3⟩
        by_cases hi : i = 0
        · subst hi; rw [h0] at h2; simp [h] at h2
        · exact ⟨i, by omega, h1, h2, h3⟩

theorem mem_els (x : Int) (N : Nat) : x ∈ els N ↔ 0 ≤ x ∧ x ≤ 15 ∧ N.testBit x.toNat = true := by
  rw [els, mem_elsF]
  constructor
  · rintro ⟨i, h1, h2, rfl⟩; simp at *; exact ⟨by omega, h2⟩
  · rintro ⟨h1, h2, h3⟩; exact ⟨x.toNat, by omega, h3, by omega⟩

theorem elsF_rise : ∀ (f k N : Nat), (elsF f k N).Pairwise (· < ·)
  | 0, _, _ => by simp [elsF]
  | f + 1, k, N => by
    have ih := elsF_rise f (k + 1) (N / 2)
    rw [elsF]
    split
    · rw [List.pairwise_cons]
      refine ⟨fun y hy => ?_, ih⟩
      obtain ⟨i, _, _, rfl⟩ := (mem_elsF y _ _ _).1 hy
      omega
    · exact ih
theorem els_rise (N : Nat) : (els N).Pairwise (· < ·) := elsF_rise _ _ _

/-- The first one, and the rest. -/
theorem elsF_step : ∀ (f k N r : Nat), r < f → N.testBit r = true → (∀ j, j < r → N.testBit j = false) → elsF f k N = ((k + r : Nat) : Int) :: elsF f k (N &&& (N - 1))
  | 0, _, _, _, h, _, _ => by omega
  | f + 1, k, N, r, hr, hb, hn => by
    have h0 : N.testBit 0 = decide (N % 2 = 1) := by rw [Nat.testBit_zero]
    have hd : (N &&& (N - 1)) / 2 = N / 2 &&& (N - 1) / 2 := Nat.and_div_two
    cases r with
    | zero =>
      rw [h0] at hb
      have h1 : N % 2 = 1 := by simpa using hb
      have h2 : (N &&& (N - 1)) % 2 = 0 := by
        have := Nat.testBit_and N (N - 1) 0
        rw [Nat.testBit_zero, Nat.testBit_zero, Nat.testBit_zero] at this
        have h3 : (N - 1) % 2 = 0 := by omega
        rcases Nat.mod_two_eq_zero_or_one (N &&& (N - 1)) with h | h
        · exact h
        · rw [h, h3] at this; simp at this
      have h3 : (N - 1) / 2 = N / 2 := by omega
      rw [elsF, if_pos h1, elsF, if_neg (show ¬ (N &&& (N - 1)) % 2 = 1 by rw [h2]; decide), hd, h3, Nat.and_self]
      simp
    | succ r =>
      have hz := hn 0 (by omega)
      rw [h0] at hz
      have h1 : N % 2 = 0 := by simp at hz; omega
      have hb2 : (N / 2).testBit r = true := by rw [Nat.testBit_succ] at hb; exact hb
      have hpos : N ≠ 0 := fun e => by rw [e] at hb; simp at hb
      have h2 : (N &&& (N - 1)) % 2 = 0 := by
        have := Nat.testBit_and N (N - 1) 0
        rw [Nat.testBit_zero, Nat.testBit_zero, Nat.testBit_zero] at this
        rcases Nat.mod_two_eq_zero_or_one (N &&& (N - 1)) with h | h
        · exact h
        · rw [h, h1] at this; simp at this
      have h3 : (N - 1) / 2 = N / 2 - 1 := by omega
      have ih := elsF_step f (k + 1) (N / 2) r (by omega) hb2 (fun j hj => by have := hn (j + 1) (by omega); rw [Nat.testBit_succ] at this; exact this)
      rw [elsF, if_neg (by omega), ih, elsF, if_neg (show ¬ (N &&& (N - 1)) % 2 = 1 by rw [h2]; decide), hd, h3]
      congr 2
      omega

theorem els_step {N r : Nat} (hr : r < 16) (hb : N.testBit r = true) (hn : ∀ j, j < r → N.testBit j = false) : els N = (r : Int) :: els (N &&& (N - 1)) := by
  have := elsF_step 16 0 N r hr hb hn
  simpa [els] using this
theorem els_zero : els 0 = [] := by decide
theorem and_pred_lt {N : Nat} (h : N < 65536) : N &&& (N - 1) < 65536 := Nat.lt_of_le_of_lt Nat.and_le_left h
/-- A set that is not empty has a least one. -/
theorem least_bit {N : Nat} (h : N ≠ 0) (hN : N < 65536) : ∃ r, r < 16 ∧ N.testBit r = true ∧ ∀ j, j < r → N.testBit j = false := by
  obtain ⟨i, hi⟩ := Nat.exists_testBit_of_ne_zero h
  have h16 : i < 16 := Nat.lt_of_not_le fun hc => by
    have : N.testBit i = false := Nat.testBit_lt_two_pow (Nat.lt_of_lt_of_le hN (Nat.pow_le_pow_right (n := 2) (by omega) hc))
    rw [this] at hi; cases hi
  induction i using Nat.strongRecOn with
  | ind i ih =>
    by_cases hj : ∃ j, j < i ∧ N.testBit j = true
    · obtain ⟨j, h1, h2⟩ := hj
      exact ih j h1 h2 (by omega)
    · exact ⟨i, h16, hi, fun j hjl => by
        cases hb : N.testBit j
        · rfl
        · exact absurd ⟨j, hjl, hb⟩ hj⟩

/-- The set of pins, a bit for each. -/
def setN (xs : List Int) : Nat := xs.foldl (fun t x => t ||| 1 <<< x.toNat) 0
theorem setN_snoc (xs : List Int) (x : Int) : setN (xs ++ [x]) = setN xs ||| 1 <<< x.toNat := by simp [setN]

theorem or16 {a b : Nat} (ha : a < 65536) (hb : b < 65536) : a ||| b < 65536 := Nat.or_lt_two_pow (n := 16) ha hb
theorem bit16 {p : Int} (h1 : 0 ≤ p) (h2 : p ≤ 15) : (1 : Nat) <<< p.toNat < 65536 := by
  rw [Nat.one_shiftLeft]
  exact Nat.pow_lt_pow_right (by omega) (by omega : p.toNat < 16)
theorem setF_lt : ∀ (xs : List Int) (t : Nat), (∀ x ∈ xs, 0 ≤ x ∧ x ≤ 15) → t < 65536 → xs.foldl (fun t x => t ||| 1 <<< x.toNat) t < 65536
  | [], t, _, h => h
  | x :: xs, t, hx, h => setF_lt xs _ (fun y hy => hx y (by simp [hy])) (or16 h (bit16 (hx x (by simp)).1 (hx x (by simp)).2))
theorem setN_lt {xs : List Int} (h : ∀ x ∈ xs, 0 ≤ x ∧ x ≤ 15) : setN xs < 65536 := setF_lt _ _ h (by decide)
theorem setF_bit (i : Nat) : ∀ (xs : List Int) (t : Nat), (xs.foldl (fun t x => t ||| 1 <<< x.toNat) t).testBit i = (t.testBit i || xs.any fun x => x.toNat == i)
  | [], t => by simp
  | x :: xs, t => by
    rw [List.foldl_cons, setF_bit i xs, Nat.testBit_or, one_bit, List.any_cons, Bool.or_assoc]
    congr 2
    rw [Bool.eq_iff_iff]; simp; exact eq_comm
theorem setN_bit (xs : List Int) (i : Nat) : (setN xs).testBit i = xs.any fun x => x.toNat == i := by rw [setN, setF_bit]; simp
theorem setN_has {xs : List Int} (h : ∀ x ∈ xs, 0 ≤ x ∧ x ≤ 15) {x : Int} (h0 : 0 ≤ x) : (setN xs).testBit x.toNat = true ↔ x ∈ xs := by
  rw [setN_bit, List.any_eq_true]
  constructor
  · rintro ⟨y, hy, he⟩
    have := h y hy
    have : y.toNat = x.toNat := by simpa using he
    obtain rfl : y = x := by omega
    exact hy
  · exact fun hx => ⟨x, hx, by simp⟩

/-- Two rising lists with the same elements are one. -/
theorem rise_ext : ∀ {xs ys : List Int}, xs.Pairwise (· < ·) → ys.Pairwise (· < ·) → (∀ x, x ∈ xs ↔ x ∈ ys) → xs = ys
  | [], [], _, _, _ => rfl
  | [], y :: ys, _, _, h => absurd ((h y).2 (by simp)) (by simp)
  | x :: xs, [], _, _, h => absurd ((h x).1 (by simp)) (by simp)
  | x :: xs, y :: ys, hx, hy, h => by
    rw [List.pairwise_cons] at hx hy
    have e : x = y := by
      rcases List.mem_cons.1 ((h x).1 (by simp)) with e | e
      · exact e
      · rcases List.mem_cons.1 ((h y).2 (by simp)) with e' | e'
        · exact e'.symm
        · have := hy.1 x e; have := hx.1 y e'; omega
    subst e
    congr 1
    refine rise_ext hx.2 hy.2 fun z => ?_
    have hz := h z
    simp only [List.mem_cons] at hz
    constructor
    · intro hm
      rcases hz.1 (.inr hm) with e | e
      · subst e; have := hx.1 z hm; omega
      · exact e
    · intro hm
      rcases hz.2 (.inr hm) with e | e
      · subst e; have := hy.1 z hm; omega
      · exact e
theorem els_setN {xs : List Int} (hr : xs.Pairwise (· < ·)) (h : ∀ x ∈ xs, 0 ≤ x ∧ x ≤ 15) : els (setN xs) = xs := by
  refine rise_ext (els_rise _) hr fun x => ?_
  rw [mem_els]
  constructor
  · rintro ⟨h0, _, hb⟩; exact (setN_has h h0).1 hb
  · exact fun hx => ⟨(h x hx).1, (h x hx).2, (setN_has h (h x hx).1).2 hx⟩
theorem set_ext {a b : Nat} (ha : a < 65536) (hb : b < 65536) (h : ∀ i, i < 16 → a.testBit i = b.testBit i) : a = b := by
  apply Nat.eq_of_testBit_eq
  intro i
  by_cases hi : i < 16
  · exact h i hi
  · rw [Nat.testBit_lt_two_pow (Nat.lt_of_lt_of_le ha (Nat.pow_le_pow_right (n := 2) (by omega) (show 16 ≤ i by omega))), Nat.testBit_lt_two_pow (Nat.lt_of_lt_of_le hb (Nat.pow_le_pow_right (n := 2) (by omega) (show 16 ≤ i by omega)))]
theorem els_bd {N : Nat} {x : Int} (h : x ∈ els N) : 0 ≤ x ∧ x ≤ 15 := ⟨((mem_els _ _).1 h).1, ((mem_els _ _).1 h).2.1⟩
theorem setN_els {N : Nat} (h : N < 65536) : setN (els N) = N := by
  refine set_ext (setN_lt fun x hx => els_bd hx) h fun i hi => ?_
  rw [setN_bit, Bool.eq_iff_iff, List.any_eq_true]
  constructor
  · rintro ⟨x, hx, he⟩
    have h2 := (mem_els _ _).1 hx
    have : x.toNat = i := by simpa using he
    rw [← this]; exact h2.2.2
  · intro hb
    exact ⟨(i : Int), (mem_els _ _).2 ⟨by omega, by omega, by simpa using hb⟩, by simp⟩

end Go.Proofs.YtaloffdkadhhnaaDoor
