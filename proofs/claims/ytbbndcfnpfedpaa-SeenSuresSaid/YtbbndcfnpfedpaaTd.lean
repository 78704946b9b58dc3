/- What the ranges of places say: the mathematics of SeenBehind. -/
import Derived.Test.YtbbndcfnpfedpaaTc
set_option linter.unusedVariables false
set_option linter.unusedSimpArgs false
namespace Go.Proofs.Ytbbndcfnpfedpaa
open Go.RowKit Go.Shelf

theorem spanF_spec : ∀ (ns : List Int) (r : Int × Int), r.1 ≤ r.2 → (((ns.foldl spanStep r).1 = r.1 ∨ (ns.foldl spanStep r).1 ∈ ns) ∧ ((ns.foldl spanStep r).2 = r.2 ∨ (ns.foldl spanStep r).2 ∈ ns)) ∧ ((ns.foldl spanStep r).1 ≤ r.1 ∧ r.2 ≤ (ns.foldl spanStep r).2) ∧ ∀ n ∈ ns, (ns.foldl spanStep r).1 ≤ n ∧ n ≤ (ns.foldl spanStep r).2
  | [], r, h => ⟨⟨.inl rfl, .inl rfl⟩, ⟨Int.le_refl _, Int.le_refl _⟩, fun n hn => by cases hn⟩
  | x :: ns, r, h => by
    obtain ⟨⟨h1, h2⟩, ⟨h3, h4⟩, h5⟩ := spanF_spec ns (spanStep r x) (by unfold spanStep; simp only; omega)
    rw [List.foldl_cons]
    have e1 : (spanStep r x).1 = min r.1 x := rfl
    have e2 : (spanStep r x).2 = max r.2 x := rfl
    rw [e1] at h1 h3
    rw [e2] at h2 h4
    refine ⟨⟨?_, ?_⟩, ⟨by omega, by omega⟩, fun n hn => ?_⟩
    · rcases h1 with h1 | h1
      · by_cases hx : r.1 ≤ x
        · exact .inl (by omega)
        · exact .inr (by simp; left; omega)
      · exact .inr (by simp [h1])
    · rcases h2 with h2 | h2
      · by_cases hx : x ≤ r.2
        · exact .inl (by omega)
        · exact .inr (by simp; left; omega)
      · exact .inr (by simp [h2])
    · rcases List.mem_cons.1 hn with rfl | hn
      · exact ⟨by omega, by omega⟩
      · exact h5 n hn
theorem spanL_spec {ns : List Int} (h : ns ≠ []) : (spanL ns).1 ∈ ns ∧ (spanL ns).2 ∈ ns ∧ ∀ n ∈ ns, (spanL ns).1 ≤ n ∧ n ≤ (spanL ns).2 := by
  cases ns with
  | nil => exact absurd rfl h
  | cons x ns =>
    obtain ⟨⟨h1, h2⟩, ⟨h3, h4⟩, h5⟩ := spanF_spec ns (x, x) (Int.le_refl _)
    show (ns.foldl spanStep (x, x)).1 ∈ x :: ns ∧ _
    refine ⟨?_, ?_, fun n hn => ?_⟩
    · rcases h1 with h1 | h1
      · rw [h1]; simp
      · simp [h1]
    · show (ns.foldl spanStep (x, x)).2 ∈ x :: ns
      rcases h2 with h2 | h2
      · rw [h2]; simp
      · simp [h2]
    · show (ns.foldl spanStep (x, x)).1 ≤ n ∧ n ≤ (ns.foldl spanStep (x, x)).2
      rcases List.mem_cons.1 hn with rfl | hn
      · exact ⟨h3, h4⟩
      · exact h5 n hn
theorem spanL_eq {ns : List Int} (h : ns ≠ []) {a b : Int} (ha : a ∈ ns) (hb : b ∈ ns) (h2 : ∀ n ∈ ns, a ≤ n ∧ n ≤ b) : spanL ns = (a, b) := by
  obtain ⟨h3, h4, h5⟩ := spanL_spec h
  have e1 : (spanL ns).1 = a := by have := (h2 _ h3).1; have := (h5 _ ha).1; omega
  have e2 : (spanL ns).2 = b := by have := (h2 _ h4).2; have := (h5 _ hb).2; omega
  exact Prod.ext e1 e2

theorem flat_two {β : Type} (F : Nat → List β) (h2 : ∀ k, (F k).length = 2) : ∀ (n f : Nat), f < n → ((List.range n).flatMap F)[2 * f]? = (F f)[0]? ∧ ((List.range n).flatMap F)[2 * f + 1]? = (F f)[1]?
  | 0, f, h => by omega
  | n + 1, f, h => by
    have hl : ((List.range n).flatMap F).length = 2 * n := by
      have key : ∀ n, ((List.range n).flatMap F).length = 2 * n := fun n => by
        induction n with
        | zero => rfl
        | succ n ih => rw [flat_take, List.length_append, ih, h2]; omega
      exact key n
    rw [flat_take]
    by_cases hf : f < n
    · have := flat_two F h2 n f hf
      rw [List.getElem?_append_left (by omega), List.getElem?_append_left (by omega)]
      exact this
    · have e : f = n := by omega
      subst e
      rw [List.getElem?_append_right (by omega), List.getElem?_append_right (by omega), hl]
      refine ⟨by congr 1; omega, by congr 1; omega⟩

/-- The ranges of the places of a frame. -/
theorem rngs_at {l : Lan} {ts : List Int} (h : gofE l ts = 0) {f : Nat} (hf : (f : Int) < l.fs) :
    (rngsL l ts)[2 * f]? = some (spanL ((gamesL l.ws (offS ts) f).map fun p => p.1)) ∧ (rngsL l ts)[2 * f + 1]? = some (spanL ((gamesL l.ws (offS ts) f).map fun p => p.2)) := by
  unfold rngsL rngL
  rw [List.getElem?_map, List.getElem?_map, gofL_ok h]
  have hl : (frmL l (offS ts)).length = l.fs.toNat := by unfold frmL; simp
  obtain ⟨h1, h2⟩ := flat_two (rngF (frmL l (offS ts))) (fun k => rfl) (frmL l (offS ts)).length f (by omega)
  have hg : (frmL l (offS ts)).getD f [] = gamesL l.ws (offS ts) f := by
    unfold frmL
    rw [List.getD_eq_getElem?_getD, List.getElem?_map, List.getElem?_range (by omega)]; rfl
  rw [h1, h2]
  unfold rngF
  rw [hg]
  exact ⟨rfl, rfl⟩
theorem rngsL_len {l : Lan} {ts : List Int} (h : gofE l ts = 0) : (rngsL l ts).length = 2 * l.fs.toNat := by
  unfold rngsL
  rw [List.length_map, rngL_len, gofL_ok h]
  unfold frmL; simp
theorem rngsL_no {l : Lan} {ts : List Int} (h : gofE l ts ≠ 0) : rngsL l ts = [] := by
  unfold rngsL; rw [gofL_no h]; rfl
theorem games_ne {l : Lan} {ts : List Int} (h : gofE l ts = 0) {f : Nat} (hf : (f : Int) < l.fs) : gamesL l.ws (offS ts) f ≠ [] := by
  have h1 := (gofE_zero h).2
  unfold possB at h1
  have := List.all_eq_true.1 h1 f (List.mem_range.2 (by omega))
  unfold someB at this
  intro e
  rw [e] at this
  simp at this

def toldF (ws : List Wd) (f : Int) : Bool := ws.any fun x => x.fr == f && x.ba == 1

theorem behind_math {ws : List Wd} {s : Int → Bool} {f : Int} (hne : gamesL ws s f ≠ []) :
    (spanL ((gamesL ws s f).map fun p => p.2)).1 ≤ (spanL ((gamesL ws s f).map fun p => p.1)).1 ∧ (spanL ((gamesL ws s f).map fun p => p.2)).2 ≤ (spanL ((gamesL ws s f).map fun p => p.1)).2 ∧ (toldF ws f = false → (spanL ((gamesL ws s f).map fun p => p.2)).1 = 0) := by
  have n1 : (gamesL ws s f).map (fun p => p.1) ≠ [] := by simpa using hne
  have n2 : (gamesL ws s f).map (fun p => p.2) ≠ [] := by simpa using hne
  obtain ⟨a1, a2, a3⟩ := spanL_spec n1
  obtain ⟨b1, b2, b3⟩ := spanL_spec n2
  refine ⟨?_, ?_, fun ht => ?_⟩
  · obtain ⟨p, hp, e⟩ := List.mem_map.1 a1
    have h1 := (b3 p.2 (List.mem_map.2 ⟨p, hp, rfl⟩)).1
    have h2 := (rolls_in (games_in hp).1).2.2.2
    try simp only at e
    omega
  · obtain ⟨p, hp, e⟩ := List.mem_map.1 b2
    have h1 := (a3 p.1 (List.mem_map.2 ⟨p, hp, rfl⟩)).2
    have h2 := (rolls_in (games_in hp).1).2.2.2
    try simp only at e
    omega
  · obtain ⟨p, hp, e⟩ := List.mem_map.1 b1
    obtain ⟨hr, hf⟩ := games_in hp
    have h0 := rolls_in hr
    have hmem : (p.1, (0 : Int)) ∈ gamesL ws s f := by
      unfold gamesL
      refine List.mem_filter.2 ⟨?_, ?_⟩
      · obtain ⟨a, ha⟩ : ∃ a : Nat, p.1 = (a : Int) := ⟨p.1.toNat, by omega⟩
        unfold rolls
        refine List.mem_flatMap.2 ⟨a, List.mem_range.2 (by omega), ?_⟩
        unfold rollsF
        exact List.mem_map.2 ⟨0, List.mem_range.2 (by omega), by rw [ha]; rfl⟩
      · unfold fitsB at hf ⊢
        simp only [Bool.and_eq_true] at hf ⊢
        refine ⟨hf.1, List.all_eq_true.2 fun x hx => ?_⟩
        unfold okW toldB
        have := (List.any_eq_false.1 ht) x hx
        rw [show (x.fr == f && x.ba == 1) = false by simpa using this]
        rfl
    have h1 := (b3 0 (List.mem_map.2 ⟨_, hmem, rfl⟩)).1
    try simp only at e
    omega

end Go.Proofs.Ytbbndcfnpfedpaa
