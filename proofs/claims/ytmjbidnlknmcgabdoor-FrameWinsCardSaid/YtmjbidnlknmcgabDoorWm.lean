/- Who may win, and who is sure to, of any spans and any final counts in them (for FrameWins). -/
import Derived.Test.YtmjbidnlknmcgabDoorAb
set_option linter.unusedVariables false
set_option linter.unusedSimpArgs false
namespace Go.Proofs.YtmjbidnlknmcgabDoor
open Go.RowKit

theorem all_but {R : List (Int × Int)} {i : Nat} {f : Int × Int → Bool} : ((R.take i).all f && (R.drop (i + 1)).all f) = true ↔ ∀ (j : Nat) (q : Int × Int), R[j]? = some q → j ≠ i → f q = true := by
  rw [Bool.and_eq_true, List.all_eq_true, List.all_eq_true]
  constructor
  · rintro ⟨h1, h2⟩ j q hq hne
    rcases Nat.lt_or_ge j i with h | h
    · exact h1 q (List.mem_of_getElem? (i := j) (by rw [List.getElem?_take, if_pos h]; exact hq))
    · exact h2 q (List.mem_of_getElem? (i := j - (i + 1)) (by rw [List.getElem?_drop]; rw [show i + 1 + (j - (i + 1)) = j from by omega]; exact hq))
  · intro h
    constructor
    · intro q hq
      obtain ⟨j, hj⟩ := List.mem_iff_getElem?.1 hq
      rw [List.getElem?_take] at hj
      split at hj
      · exact h j q hj (by omega)
      · cases hj
    · intro q hq
      obtain ⟨j, hj⟩ := List.mem_iff_getElem?.1 hq
      rw [List.getElem?_drop] at hj
      exact h _ q hj (by omega)

theorem may_iff {R : List (Int × Int)} {i : Nat} {p : Int × Int} : mayI R i p = true ↔ ∀ (j : Nat) (q : Int × Int), R[j]? = some q → j ≠ i → q.1 ≤ p.2 := by
  unfold mayI
  rw [all_but]
  simp only [decide_eq_true_eq]
theorem sure_iff {R : List (Int × Int)} {i : Nat} {p : Int × Int} : sureI R i p = true ↔ ∀ (j : Nat) (q : Int × Int), R[j]? = some q → j ≠ i → q.2 < p.1 := by
  unfold sureI
  rw [all_but]
  simp only [decide_eq_true_eq]

theorem sel_mem {f : List (Int × Int) → Nat → Int × Int → Bool} {R : List (Int × Int)} {x : Int} : ∀ n, x ∈ selL f R n ↔ ∃ (i : Nat) (p : Int × Int), i < n ∧ R[i]? = some p ∧ f R i p = true ∧ x = (i : Int)
  | 0 => by simp [selL]
  | n + 1 => by
    have ih := sel_mem (f := f) (R := R) (x := x) n
    rw [selL, List.mem_append, ih]
    constructor
    · rintro (⟨i, p, h1, h2, h3, h4⟩ | h)
      · exact ⟨i, p, by omega, h2, h3, h4⟩
      · split at h
        · rename_i p hp
          split at h
          · rename_i hf
            simp at h
            exact ⟨n, p, by omega, hp, hf, h⟩
          · cases h
        · cases h
    · rintro ⟨i, p, h1, h2, h3, h4⟩
      by_cases e : i = n
      · subst e
        right
        rw [h2]
        simp [h3, h4]
      · exact .inl ⟨i, p, by omega, h2, h3, h4⟩

/-- The indices that are chosen rise; so a list with at most one member is short. -/
theorem sel_one {f : List (Int × Int) → Nat → Int × Int → Bool} {R : List (Int × Int)} : ∀ n, (∀ (i j : Nat) (p q : Int × Int), i < n → j < n → R[i]? = some p → R[j]? = some q → f R i p = true → f R j q = true → i = j) → (selL f R n).length ≤ 1
  | 0, _ => by simp [selL]
  | n + 1, h => by
    have ih := sel_one (f := f) (R := R) n (fun i j p q hi hj => h i j p q (by omega) (by omega))
    rw [selL]
    split
    · rename_i p hp
      split
      · rename_i hf
        have h0 : selL f R n = [] := by
          cases hs : selL f R n with
          | nil => rfl
          | cons x xs =>
            have hx : x ∈ selL f R n := by rw [hs]; simp
            obtain ⟨i, q, h1, h2, h3, h4⟩ := (sel_mem n).1 hx
            have := h i n q p (by omega) (by omega) h2 hp h3 hf
            omega
        rw [h0]
        simp
      · simpa using ih
    · simpa using ih

theorem sel_ext {f g : List (Int × Int) → Nat → Int × Int → Bool} {R S : List (Int × Int)} : ∀ n, (∀ i, i < n → ∃ p q, R[i]? = some p ∧ S[i]? = some q ∧ f R i p = g S i q) → selL f R n = selL g S n
  | 0, _ => rfl
  | n + 1, h => by
    obtain ⟨p, q, h1, h2, h3⟩ := h n (by omega)
    rw [selL, selL, sel_ext n (fun i hi => h i (by omega)), h1, h2]
    simp only [h3]

/-- Spans, and a final count in each. -/
structure Wn (R : List (Int × Int)) (T : List Int) : Prop where
  len : R.length = T.length
  pos : 0 < T.length
  mem : ∀ (i : Nat) (p : Int × Int) (t : Int), R[i]? = some p → T[i]? = some t → p.1 ≤ t ∧ t ≤ p.2

/-- Somebody has the most. -/
theorem most_ex : ∀ (T : List Int), 0 < T.length → ∃ (i : Nat) (t : Int), T[i]? = some t ∧ ∀ (j : Nat) (u : Int), T[j]? = some u → u ≤ t
  | [], h => by simp at h
  | [a], _ => ⟨0, a, rfl, fun j u hu => by
    have : j = 0 := by have := (List.getElem?_eq_some_iff.1 hu).1; simp at this; omega
    subst this; simp at hu; omega⟩
  | a :: b :: T, _ => by
    obtain ⟨i, t, h1, h2⟩ := most_ex (b :: T) (by simp)
    by_cases h : t ≤ a
    · refine ⟨0, a, rfl, fun j u hu => ?_⟩
      cases j with
      | zero => simp at hu; omega
      | succ j => have := h2 j u (by simpa using hu); omega
    · refine ⟨i + 1, t, by simpa using h1, fun j u hu => ?_⟩
      cases j with
      | zero => simp at hu; omega
      | succ j => exact h2 j u (by simpa using hu)

section
variable {R : List (Int × Int)} {T : List Int} (h : Wn R T)
include h

theorem Wn.may_ne : 0 < (selL mayI R R.length).length := by
  obtain ⟨i, t, h1, h2⟩ := most_ex (R.map (·.2)) (by rw [List.length_map, h.len]; exact h.pos)
  rw [List.getElem?_map, Option.map_eq_some_iff] at h1
  obtain ⟨p, hp, rfl⟩ := h1
  have hi := (List.getElem?_eq_some_iff.1 hp).1
  have hm : ((i : Nat) : Int) ∈ selL mayI R R.length := (sel_mem _).2 ⟨i, p, hi, hp, may_iff.2 (fun j q hq hne => by
    have h3 := h2 j q.2 (by rw [List.getElem?_map, hq]; rfl)
    have hj := (List.getElem?_eq_some_iff.1 hq).1
    have h4 := h.mem j q (T[j]'(by rw [← h.len]; exact hj)) hq (List.getElem?_eq_getElem _)
    omega), rfl⟩
  exact List.length_pos_of_mem hm

theorem Wn.sure_one : (selL sureI R R.length).length ≤ 1 := by
  refine sel_one _ (fun i j p q hi hj hp hq h1 h2 => ?_)
  by_cases e : i = j
  · exact e
  · have a1 := sure_iff.1 h1 j q hq (fun x => e x.symm)
    have a2 := sure_iff.1 h2 i p hp e
    have b1 := h.mem i p (T[i]'(by rw [← h.len]; exact hi)) hp (List.getElem?_eq_getElem _)
    have b2 := h.mem j q (T[j]'(by rw [← h.len]; exact hj)) hq (List.getElem?_eq_getElem _)
    omega

theorem Wn.sure_may (h1 : (selL sureI R R.length).length = 1) : selL mayI R R.length = selL sureI R R.length := by
  obtain ⟨x, hx⟩ := List.length_eq_one_iff.1 h1
  have hm : x ∈ selL sureI R R.length := by rw [hx]; simp
  obtain ⟨s, ps, hs, hps, hsu, rfl⟩ := (sel_mem _).1 hm
  have hsur := sure_iff.1 hsu
  refine sel_ext _ (fun i hi => ?_)
  refine ⟨R[i], R[i], List.getElem?_eq_getElem hi, List.getElem?_eq_getElem hi, ?_⟩
  have b0 := h.mem s ps (T[s]'(by rw [← h.len]; exact hs)) hps (List.getElem?_eq_getElem _)
  by_cases e : i = s
  · subst e
    have e2 : R[i] = ps := by have := List.getElem?_eq_getElem hi; rw [hps] at this; exact (Option.some.inj this).symm
    rw [e2, hsu]
    refine may_iff.2 (fun j q hq hne => ?_)
    have := hsur j q hq hne
    have b := h.mem j q (T[j]'(by rw [← h.len]; exact (List.getElem?_eq_some_iff.1 hq).1)) hq (List.getElem?_eq_getElem _)
    omega
  · have h5 := hsur i R[i] (List.getElem?_eq_getElem hi) e
    have b := h.mem i R[i] (T[i]'(by rw [← h.len]; exact hi)) (List.getElem?_eq_getElem hi) (List.getElem?_eq_getElem _)
    have n1 : mayI R i R[i] = false := by
      cases hb : mayI R i R[i]
      · rfl
      · have := may_iff.1 hb s ps hps (fun x => e x.symm); omega
    have n2 : sureI R i R[i] = false := by
      cases hb : sureI R i R[i]
      · rfl
      · have := sure_iff.1 hb s ps hps (fun x => e x.symm); omega
    rw [n1, n2]

/-- Whoever has won might have before. -/
theorem Wn.won {i : Nat} {t : Int} (ht : T[i]? = some t) (hm : ∀ (j : Nat) (u : Int), T[j]? = some u → u ≤ t) : ((i : Nat) : Int) ∈ selL mayI R R.length ∧ ∀ x, selL sureI R R.length = [x] → x = (i : Int) := by
  have hi : i < R.length := by rw [h.len]; exact (List.getElem?_eq_some_iff.1 ht).1
  have hp : R[i]? = some R[i] := List.getElem?_eq_getElem hi
  have b := h.mem i R[i] t hp ht
  refine ⟨(sel_mem _).2 ⟨i, R[i], hi, hp, may_iff.2 (fun j q hq hne => ?_), rfl⟩, fun x hx => ?_⟩
  · have hj : j < T.length := by rw [← h.len]; exact (List.getElem?_eq_some_iff.1 hq).1
    have b2 := h.mem j q T[j] hq (List.getElem?_eq_getElem hj)
    have := hm j T[j] (List.getElem?_eq_getElem hj)
    omega
  · have hxm : x ∈ selL sureI R R.length := by rw [hx]; simp
    obtain ⟨s, ps, hs, hps, hsu, rfl⟩ := (sel_mem _).1 hxm
    by_cases e : i = s
    · rw [e]
    · exfalso
      have h5 := sure_iff.1 hsu i R[i] hp e
      have hsl : s < T.length := by rw [← h.len]; exact hs
      have b2 := h.mem s ps T[s] hps (List.getElem?_eq_getElem hsl)
      have := hm s T[s] (List.getElem?_eq_getElem hsl)
      omega
end

/-- The best count among the first k, and who has it. -/
def bestG (T : List Int) : Nat → Int × List Int
  | 0 => (-1, [])
  | k + 1 => match T[k]? with
    | some t => if (bestG T k).1 < t then (t, [(k : Int)]) else if t = (bestG T k).1 then ((bestG T k).1, (bestG T k).2 ++ [(k : Int)]) else bestG T k
    | none => bestG T k

theorem bestG_ge (T : List Int) : ∀ k, (∀ (j : Nat) (u : Int), j < k → T[j]? = some u → u ≤ (bestG T k).1) ∧ ((bestG T k).1 = -1 ∨ ∃ (j : Nat), j < k ∧ T[j]? = some (bestG T k).1)
  | 0 => ⟨fun j u h => by omega, .inl rfl⟩
  | k + 1 => by
    obtain ⟨h1, h2⟩ := bestG_ge T k
    rw [bestG]
    split
    · rename_i t ht
      split
      · rename_i hl
        refine ⟨fun j u hj hu => ?_, .inr ⟨k, by omega, ht⟩⟩
        by_cases e : j = k
        · subst e; rw [ht] at hu; cases hu; exact Int.le_refl _
        · have := h1 j u (by omega) hu; simp only; omega
      · rename_i hl
        have hall : ∀ (j : Nat) (u : Int), j < k + 1 → T[j]? = some u → u ≤ (bestG T k).1 := fun j u hj hu => by
          by_cases e : j = k
          · subst e; rw [ht] at hu; cases hu; omega
          · exact h1 j u (by omega) hu
        split
        · exact ⟨hall, h2.imp id (fun ⟨j, a, b⟩ => ⟨j, by omega, b⟩)⟩
        · exact ⟨hall, h2.imp id (fun ⟨j, a, b⟩ => ⟨j, by omega, b⟩)⟩
    · rename_i ht
      refine ⟨fun j u hj hu => ?_, h2.imp id (fun ⟨j, a, b⟩ => ⟨j, by omega, b⟩)⟩
      by_cases e : j = k
      · subst e; rw [ht] at hu; cases hu
      · exact h1 j u (by omega) hu

/-- They are those that have the best count. -/
theorem bestG_mem (T : List Int) : ∀ k, k ≤ T.length → (bestG T k).2 = ((List.range k).filter fun j => T[j]? == some (bestG T k).1).map fun j : Nat => (j : Int)
  | 0, _ => rfl
  | k + 1, hk => by
    have ih := bestG_mem T k (by omega)
    have hge := (bestG_ge T k).1
    have ht : T[k]? = some T[k] := List.getElem?_eq_getElem (by omega)
    rw [bestG, ht, List.range_succ, List.filter_append, List.map_append]
    simp only
    by_cases h1 : (bestG T k).1 < T[k]
    · rw [if_pos h1]
      have e1 : (List.range k).filter (fun j => T[j]? == some T[k]) = [] := by
        rw [List.filter_eq_nil_iff]
        intro j hj
        have hj2 := List.mem_range.1 hj
        intro hb
        have hb2 : T[j]? = some T[k] := by simpa using hb
        have := hge j T[k] hj2 hb2
        omega
      simp only [e1]
      simp [ht]
    · rw [if_neg h1]
      by_cases h2 : T[k] = (bestG T k).1
      · rw [if_pos h2]
        simp only
        rw [ih]
        simp [ht, h2]
      · rw [if_neg h2, ih]
        simp [ht, h2]

theorem sel_filter {f : List (Int × Int) → Nat → Int × Int → Bool} {R : List (Int × Int)} {g : Nat → Bool} : ∀ n, (∀ i, i < n → ∃ p, R[i]? = some p ∧ f R i p = g i) → selL f R n = ((List.range n).filter g).map fun j : Nat => (j : Int)
  | 0, _ => rfl
  | n + 1, h => by
    obtain ⟨p, h1, h2⟩ := h n (by omega)
    rw [selL, sel_filter n (fun i hi => h i (by omega)), h1, List.range_succ, List.filter_append, List.map_append]
    simp only [h2]
    cases hg : g n <;> simp [hg]

/-- When all games are done, those who may win have the best count. -/
theorem done_may {T : List Int} (h0 : ∀ t ∈ T, 0 ≤ t) : selL mayI (T.map fun t => (t, t)) T.length = (bestG T T.length).2 := by
  rw [bestG_mem T _ (Nat.le_refl _)]
  obtain ⟨h1, h2⟩ := bestG_ge T T.length
  refine sel_filter _ (fun i hi => ?_)
  have ht : T[i]? = some T[i] := List.getElem?_eq_getElem hi
  refine ⟨(T[i], T[i]), by rw [List.getElem?_map, ht]; rfl, ?_⟩
  by_cases e : T[i] = (bestG T T.length).1
  · have eb : (T[i]? == some (bestG T T.length).1) = true := by rw [ht, e]; simp
    rw [eb]
    refine may_iff.2 (fun j q hq hne => ?_)
    rw [List.getElem?_map, Option.map_eq_some_iff] at hq
    obtain ⟨u, hu, rfl⟩ := hq
    have := h1 j u (List.getElem?_eq_some_iff.1 hu).1 hu
    simp only
    omega
  · have eb : (T[i]? == some (bestG T T.length).1) = false := by rw [ht]; simpa using e
    rw [eb]
    cases hb : mayI (T.map fun t => (t, t)) i (T[i], T[i])
    · rfl
    · exfalso
      rcases h2 with h2 | ⟨j, hj, hj2⟩
      · have := h1 i T[i] hi ht
        have := h0 T[i] (List.getElem_mem hi)
        omega
      · have hij : j ≠ i := by
          intro e2; subst e2; rw [ht] at hj2; exact e (Option.some.inj hj2)
        have := may_iff.1 hb j ((bestG T T.length).1, (bestG T T.length).1) (by rw [List.getElem?_map, hj2]; rfl) hij
        have h3 := h1 i T[i] hi ht
        simp only at this
        omega

theorem done_wn {T : List Int} (hT : 0 < T.length) : Wn (T.map fun t => (t, t)) T :=
  ⟨by rw [List.length_map], hT, fun i p t hp ht => by
    rw [List.getElem?_map, ht] at hp
    simp at hp
    subst hp
    exact ⟨Int.le_refl _, Int.le_refl _⟩⟩

/-- And somebody is sure just if nobody else has as much. -/
theorem done_sure {T : List Int} (h0 : ∀ t ∈ T, 0 ≤ t) (hT : 0 < T.length) : (selL sureI (T.map fun t => (t, t)) T.length).length = 1 ↔ (bestG T T.length).2.length = 1 := by
  have hw := done_wn hT
  have hl : (T.map fun t => (t, t)).length = T.length := by rw [List.length_map]
  have hone := hw.sure_one
  have hsm := hw.sure_may
  rw [hl] at hone hsm
  rw [← done_may h0]
  constructor
  · intro h1
    rw [hsm h1]
    exact h1
  · intro h1
    obtain ⟨x, hx⟩ := List.length_eq_one_iff.1 h1
    have hxm : x ∈ selL mayI (T.map fun t => (t, t)) T.length := by rw [hx]; simp
    obtain ⟨i, p, hi, hp, hm, rfl⟩ := (sel_mem _).1 hxm
    have hs : ((i : Nat) : Int) ∈ selL sureI (T.map fun t => (t, t)) T.length := by
      refine (sel_mem _).2 ⟨i, p, hi, hp, sure_iff.2 (fun j q hq hne => ?_), rfl⟩
      have hm2 := may_iff.1 hm
      rcases Int.lt_or_le q.2 p.1 with h3 | h3
      · exact h3
      · exfalso
        have hj : j < T.length := by have := (List.getElem?_eq_some_iff.1 hq).1; rw [hl] at this; exact this
        have hjm : ((j : Nat) : Int) ∈ selL mayI (T.map fun t => (t, t)) T.length := by
          refine (sel_mem _).2 ⟨j, q, hj, hq, may_iff.2 (fun k r hr hne2 => ?_), rfl⟩
          rw [List.getElem?_map, Option.map_eq_some_iff] at hp hq hr
          obtain ⟨a, ha, rfl⟩ := hp
          obtain ⟨b, hb, rfl⟩ := hq
          obtain ⟨d, hd, rfl⟩ := hr
          by_cases e : k = i
          · subst e
            rw [ha] at hd
            cases hd
            exact h3
          · have := hm2 k (d, d) (by rw [List.getElem?_map, hd]; rfl) e
            simp only at this h3 ⊢
            omega
        rw [hx] at hjm
        simp at hjm
        omega
    have := List.length_pos_of_mem hs
    omega

end Go.Proofs.YtmjbidnlknmcgabDoor
