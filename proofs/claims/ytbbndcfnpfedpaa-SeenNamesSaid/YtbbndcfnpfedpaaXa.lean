/- Of the tellers who are off: the mathematics of Least and Blame. -/
import Derived.Test.YtbbndcfnpfedpaaWc
set_option linter.unusedVariables false
set_option linter.unusedSimpArgs false
namespace Go.Proofs.Ytbbndcfnpfedpaa
open Go.RowKit Go.Shelf Go.Maps

/-- All lists of tellers, shorter ones first, of as long ones the lesser one first. -/
def setsL : List (List Int) := [[], [0], [1], [2], [3], [0, 1], [0, 2], [0, 3], [1, 2], [1, 3], [2, 3], [0, 1, 2], [0, 1, 3], [0, 2, 3], [1, 2, 3], [0, 1, 2, 3]]
def addsS : List Int → (Int → Bool) → (Int → Bool)
  | [], s => s
  | t :: ts, s => addsS ts (addS s t)
theorem adds_snoc : ∀ (ts : List Int) (s : Int → Bool) (t : Int), addsS (ts ++ [t]) s = addS (addsS ts s) t
  | [], s, t => rfl
  | x :: ts, s, t => adds_snoc ts (addS s x) t
theorem adds_off : ∀ ts ∈ setsL, Same4 (addsS ts noS) (offS ts) ∧ listS (addsS ts noS) = ts := by
  intro ts h
  unfold setsL at h
  simp only [List.mem_cons, List.not_mem_nil, or_false] at h
  rcases h with rfl | rfl | rfl | rfl | rfl | rfl | rfl | rfl | rfl | rfl | rfl | rfl | rfl | rfl | rfl | rfl
  all_goals exact ⟨⟨by decide, by decide, by decide, by decide⟩, by decide⟩

def subsF : Nat → List Int → Nat → List (List Int)
  | 0, pre, _ => [pre]
  | m + 1, pre, next => (List.range (4 - next)).flatMap fun (j : Nat) => subsF m (pre ++ [((next + j : Nat) : Int)]) (next + j + 1)
theorem firstF_find (f : (Int → Bool) → Bool) : ∀ (m : Nat) (pre : List Int) (next : Nat), firstF f m (addsS pre noS) next = ((subsF m pre next).find? fun ts => f (addsS ts noS)).map fun ts => addsS ts noS
  | 0, pre, next => by
    unfold firstF subsF
    rw [List.find?_cons]
    cases f (addsS pre noS) <;> rfl
  | m + 1, pre, next => by
    unfold firstF subsF
    rw [List.find?_flatMap, List.map_findSome?]
    congr 1
    funext j
    show _ = Option.map _ _
    rw [← firstF_find f m, adds_snoc]
theorem subs_all : ((List.range 5).flatMap fun (m : Nat) => subsF m [] 0) = setsL := by decide
theorem leastF_find (f : (Int → Bool) → Bool) : leastF f = (setsL.find? fun ts => f (addsS ts noS)).map fun ts => addsS ts noS := by
  unfold leastF
  rw [← subs_all, List.find?_flatMap, List.map_findSome?]
  congr 1
  funext m
  exact firstF_find f m [] 0

/-- The least list is the first one that explains. -/
def leastN (l : Lan) : List Int := (setsL.find? fun ts => explB l ts).getD []
theorem sets_rise : ∀ ts ∈ setsL, riseIn 0 3 ts = true := by decide
theorem leastL_find {l : Lan} (h : faultW l = 0) : leastL l = leastN l := by
  unfold leastL leastN
  rw [if_pos h]
  unfold leastS
  rw [leastF_find]
  have e : (setsL.find? fun ts => possB l (addsS ts noS)) = setsL.find? fun ts => explB l ts := by
    have key : ∀ L : List (List Int), (∀ ts ∈ L, ts ∈ setsL) → (L.find? fun ts => possB l (addsS ts noS)) = L.find? fun ts => explB l ts := fun L => by
      induction L with
      | nil => intro _; rfl
      | cons ts L ih =>
        intro hL
        have h1 := hL ts (by simp)
        have h2 : possB l (addsS ts noS) = explB l ts := by
          unfold explB
          rw [chkE_ok h (sets_rise ts h1)]
          simp only [decide_true, Bool.true_and]
          exact possB_same (fun x hx => by have := (fault0 h).1 x hx; omega) (adds_off ts h1).1
        rw [List.find?_cons, List.find?_cons, h2, ih (fun t ht => hL t (by simp [ht]))]
    exact key setsL fun _ h => h
  rw [e]
  cases hf : setsL.find? fun ts => explB l ts with
  | none => show listS noS = []; decide
  | some ts => exact (adds_off ts (List.mem_of_find?_eq_some hf)).2

theorem find_rest {E : List Int → Bool} (h0 : E [] = false) (h1 : E [0] = false) (h2 : E [1] = false) (h3 : E [2] = false) (h4 : E [3] = false) : ((setsL.find? E).getD []).length ≠ 1 := by
  cases hf : setsL.find? E with
  | none => simp
  | some ts =>
    have hm := List.mem_of_find?_eq_some hf
    have hE := List.find?_some hf
    unfold setsL at hm
    simp only [List.mem_cons, List.not_mem_nil, or_false] at hm
    rcases hm with rfl | rfl | rfl | rfl | rfl | rfl | rfl | rfl | rfl | rfl | rfl | rfl | rfl | rfl | rfl | rfl
    all_goals first | (simp; done) | (rw [h0] at hE; cases hE) | (rw [h1] at hE; cases hE) | (rw [h2] at hE; cases hE) | (rw [h3] at hE; cases hE) | (rw [h4] at hE; cases hE)

theorem four_cases {j : Int} (h : 0 ≤ j ∧ j ≤ 3) : j = 0 ∨ j = 1 ∨ j = 2 ∨ j = 3 := by omega
/-- Who is alone to blame, by the least list. -/
theorem blame_math (l : Lan) : ((leastN l).length ≠ 1 → blameN l = -1) ∧ ∀ b, leastN l = [b] → (0 ≤ b ∧ b ≤ 3) ∧ (∀ j, 0 ≤ j ∧ j ≤ 3 → j ≠ b → explB l [j] = true → blameN l = -1) ∧ ((∀ j, 0 ≤ j ∧ j ≤ 3 → j ≠ b → explB l [j] = false) → blameN l = b) := by
  unfold leastN blameN aloneL
  have hr := @find_rest (explB l)
  generalize explB l = E at *
  show (((setsL.find? fun ts => E ts).getD []).length ≠ 1 → _) ∧ ∀ b, (setsL.find? fun ts => E ts).getD [] = [b] → _
  cases h0 : E [] <;> cases h1 : E [0] <;> cases h2 : E [1] <;> cases h3 : E [2] <;> cases h4 : E [3]
  case false.false.false.false.false =>
    have := hr h0 h1 h2 h3 h4
    refine ⟨fun _ => by simp [h1, h2, h3, h4], fun b hb => ?_⟩
    rw [hb] at this
    exact absurd rfl this
  all_goals
    simp only [setsL, List.find?, h0, h1, h2, h3, h4, Option.getD_some, List.length_nil, List.length_cons, List.take, List.filter, List.getLast?]
    refine ⟨fun h => ?_, fun b hb => ?_⟩
    · first | (exact absurd rfl h) | (simp; done)
    · cases hb
      all_goals
        refine ⟨⟨by decide, by decide⟩, fun j hj hne hE => ?_, fun hh => ?_⟩
        · rcases four_cases hj with rfl | rfl | rfl | rfl
          all_goals first | (simp_all; done)
        · have t0 := hh 0 (by omega)
          have t1 := hh 1 (by omega)
          have t2 := hh 2 (by omega)
          have t3 := hh 3 (by omega)
          clear hh
          simp_all
end Go.Proofs.Ytbbndcfnpfedpaa
