/- The mathematics of SeenAll. -/
import Derived.Test.YtbbndcfnpfedpaaUa
set_option linter.unusedVariables false
set_option linter.unusedSimpArgs false
namespace Go.Proofs.Ytbbndcfnpfedpaa
open Go.RowKit Go.Shelf

theorem v_all {F : Nat} (h1 : 1 ≤ F) (h5 : F ≤ 5) : gofE ⟨(F : Int), none, 0, []⟩ [] = 0 ∧ (manyN ⟨(F : Int), none, 0, []⟩ [] : Nat) = 66 ^ F ∧ cntL (gofL ⟨(F : Int), none, 0, []⟩ []) = (0, 10 * (F : Int)) := by
  obtain rfl | rfl | rfl | rfl | rfl : F = 1 ∨ F = 2 ∨ F = 3 ∨ F = 4 ∨ F = 5 := by omega
  all_goals exact ⟨by kernel_rfl, by kernel_rfl, by kernel_rfl⟩

theorem okW_only (s : Int → Bool) (k b z : Int) : ∀ ws : List Wd, (onlyW ws k).all (okW s 0 b z) = ws.all (okW s k b z)
  | [] => rfl
  | x :: ws => by
    have ih := okW_only s k b z ws
    have e : onlyW (x :: ws) k = (if x.fr == k then [zeroF x] else []) ++ onlyW ws k := by
      unfold onlyW
      cases h : (x.fr == k) <;> simp [List.filter, h]
    rw [e, List.all_append, List.all_cons, ih]
    congr 1
    cases h : (x.fr == k)
    · rw [okW_far (by rw [h]; rfl)]; rfl
    · have h2 : x.fr = k := by simpa using h
      simp only [if_true, List.all_cons, List.all_nil, Bool.and_true]
      unfold okW toldB zeroF
      simp [h2]
theorem games_only (ws : List Wd) (s : Int → Bool) (k : Int) : gamesL (onlyW ws k) s 0 = gamesL ws s k := by
  unfold gamesL fitsB
  simp only [okW_only]
theorem fault_only {l : Lan} (h : faultW l = 0) {k : Int} (h0 : 0 ≤ k) (h1 : k < l.fs) (a : Option Addr) (c : Nat) : faultW ⟨1, a, c, onlyW l.ws k⟩ = 0 := by
  obtain ⟨f1, f2, f3, f4, f5⟩ := fault0 h
  have hl := onlyW_len l.ws k
  refine faultW_in (by show ¬ 30 < (onlyW l.ws k).length; omega) (show inB 1 1 5 = true by decide) fun x hx => ?_
  change x ∈ onlyW l.ws k at hx
  unfold onlyW at hx
  obtain ⟨y, hy, rfl⟩ := List.mem_map.1 hx
  have hw := f5 y (List.mem_filter.1 hy).1
  unfold wrongW zeroF at *
  simp only [Bool.or_eq_false_iff, Bool.not_eq_false'] at *
  exact ⟨by decide, hw.2⟩

theorem some_iff {ws : List Wd} {s : Int → Bool} {k : Int} : someB ws s k = true ↔ gamesL ws s k ≠ [] := by
  unfold someB
  cases gamesL ws s k <;> simp
theorem only_many {l : Lan} (h : faultW l = 0) {k : Int} (h0 : 0 ≤ k) (h1 : k < l.fs) (a : Option Addr) (c : Nat) {ts : List Int} (hr : riseIn 0 3 ts = true) :
    (gofE ⟨1, a, c, onlyW l.ws k⟩ ts = 0 ∨ gofE ⟨1, a, c, onlyW l.ws k⟩ ts = 9) ∧ manyN ⟨1, a, c, onlyW l.ws k⟩ ts = (gamesL l.ws (offS ts) k).length := by
  have hc : chkE ⟨1, a, c, onlyW l.ws k⟩ ts = 0 := chkE_ok (fault_only h h0 h1 a c) hr
  have hg := gofE_of hc
  have hp : possB ⟨1, a, c, onlyW l.ws k⟩ (offS ts) = someB l.ws (offS ts) k := by
    show ((List.range 1).all fun f => someB (onlyW l.ws k) (offS ts) (f : Int)) = _
    show (someB (onlyW l.ws k) (offS ts) 0 && true) = _
    unfold someB
    rw [games_only, Bool.and_true]
  have he : explB ⟨1, a, c, onlyW l.ws k⟩ ts = someB l.ws (offS ts) k := by unfold explB; rw [hc, hp]; simp
  rw [he] at hg
  refine ⟨by rw [hg]; split <;> simp, ?_⟩
  unfold manyN
  by_cases hs : someB l.ws (offS ts) k = true
  · have h0' : gofE ⟨1, a, c, onlyW l.ws k⟩ ts = 0 := by rw [hg, if_pos hs]
    rw [if_pos h0', gofL_ok h0']
    show prodN [gamesL (onlyW l.ws k) (offS ts) 0] = _
    rw [games_only]
    show 1 * _ = _
    rw [Nat.one_mul]
  · have h9 : gofE ⟨1, a, c, onlyW l.ws k⟩ ts ≠ 0 := by rw [hg, if_neg hs]; omega
    rw [if_neg h9]
    have : gamesL l.ws (offS ts) k = [] := by
      by_cases e : gamesL l.ws (offS ts) k = []
      · exact e
      · exact absurd (some_iff.2 e) hs
    rw [this]; rfl

theorem prodF (L : List (List (Int × Int))) : ∀ n, L.foldl (fun n g => n * g.length) n = n * prodN L := by
  induction L with
  | nil => intro n; simp [prodN]
  | cons g L ih =>
    intro n
    unfold prodN
    simp only [List.foldl_cons]
    rw [ih, ih, Nat.mul_assoc]
    congr 1
    rw [Nat.one_mul]
theorem prodN_cons (g : List (Int × Int)) (L : List (List (Int × Int))) : prodN (g :: L) = g.length * prodN L := by
  show L.foldl _ (1 * g.length) = _
  rw [prodF, Nat.one_mul]
theorem prodN_zero {L : List (List (Int × Int))} (h : [] ∈ L) : prodN L = 0 := by
  induction L with
  | nil => cases h
  | cons g L ih =>
    rw [prodN_cons]
    rcases List.mem_cons.1 h with rfl | h
    · simp
    · rw [ih h]; simp
theorem many_prod {l : Lan} {ts : List Int} (hc : chkE l ts = 0) : (gofE l ts = 0 → manyN l ts = prodN (frmL l (offS ts))) ∧ (gofE l ts ≠ 0 → prodN (frmL l (offS ts)) = 0) := by
  refine ⟨fun h => by unfold manyN; rw [if_pos h, gofL_ok h], fun h => ?_⟩
  have hp : possB l (offS ts) ≠ true := fun e => h (by unfold gofE; rw [if_pos hc, if_pos e])
  refine prodN_zero ?_
  unfold possB at hp
  have hp := List.all_eq_false.1 (Bool.eq_false_iff.2 hp)
  obtain ⟨f, hf, hs⟩ := hp
  unfold frmL
  refine List.mem_map.2 ⟨f, hf, ?_⟩
  by_cases e : gamesL l.ws (offS ts) (f : Int) = []
  · exact e
  · exact absurd (some_iff.2 e) hs
theorem frm_le (l : Lan) (s : Int → Bool) (n : Nat) : prodN ((List.range n).map fun (f : Nat) => gamesL l.ws s (f : Int)) ≤ 66 ^ n := by
  have := prodN_le ((List.range n).map fun (f : Nat) => gamesL l.ws s (f : Int)) (fun g hg => by obtain ⟨f, _, rfl⟩ := List.mem_map.1 hg; exact games_len _ _ _)
  simpa using this

end Go.Proofs.Ytbbndcfnpfedpaa
