/- Of lanes with one word more, or with the same words: the mathematics. -/
import Derived.Test.YtbbndcfnpfedpaaYa
import Derived.Test.YtbbndcfnpfedpaaXa
set_option linter.unusedVariables false
set_option linter.unusedSimpArgs false
namespace Go.Proofs.Ytbbndcfnpfedpaa
open Go.RowKit Go.Shelf Go.Maps

theorem mem_rolls_iff {p q : Int} : (p, q) ∈ rolls ↔ 0 ≤ q ∧ q ≤ p ∧ p ≤ 10 := by
  constructor
  · intro h
    have : ∀ r ∈ rolls, 0 ≤ r.2 ∧ r.2 ≤ r.1 ∧ r.1 ≤ 10 := by decide +kernel
    exact this _ h
  · intro ⟨h1, h2, h3⟩
    unfold rolls rollsF
    refine List.mem_flatMap.2 ⟨p.toNat, List.mem_range.2 (by omega), List.mem_map.2 ⟨q.toNat, List.mem_range.2 (by omega), ?_⟩⟩
    rw [show ((p.toNat : Nat) : Int) = p by omega, show ((q.toNat : Nat) : Int) = q by omega]
theorem mem_games {ws : List Wd} {s : Int → Bool} {f p q : Int} : (p, q) ∈ gamesL ws s f ↔ (0 ≤ q ∧ q ≤ p ∧ p ≤ 10) ∧ ws.all (okW s f 0 p) = true ∧ ws.all (okW s f 1 q) = true := by
  unfold gamesL
  rw [List.mem_filter, mem_rolls_iff]
  show _ ∧ fitsB ws s f p q = true ↔ _
  unfold fitsB
  rw [Bool.and_eq_true]
theorem okW_conv {s : Int → Bool} {f b z1 z2 n : Int} {x : Wd} (h1 : okW s f b z1 x = true) (h2 : okW s f b z2 x = true) (hn : z1 ≤ n ∧ n ≤ z2) : okW s f b n x = true := by
  unfold okW at *
  cases ht : toldB s f b x with
  | false => rfl
  | true =>
    rw [ht] at h1 h2
    simp only [Bool.not_true, Bool.false_or, inB_iff] at h1 h2 ⊢
    omega
theorem all_conv {s : Int → Bool} {f b z1 z2 n : Int} {ws : List Wd} (h1 : ws.all (okW s f b z1) = true) (h2 : ws.all (okW s f b z2) = true) (hn : z1 ≤ n ∧ n ≤ z2) : ws.all (okW s f b n) = true :=
  List.all_eq_true.2 fun x hx => okW_conv (List.all_eq_true.1 h1 x hx) (List.all_eq_true.1 h2 x hx) hn
theorem games_app (ws : List Wd) (x : Wd) (s : Int → Bool) (f : Int) : gamesL (ws ++ [x]) s f = (gamesL ws s f).filter fun p => okW s f 0 p.1 x && okW s f 1 p.2 x := by
  unfold gamesL
  rw [List.filter_filter]
  refine List.filter_congr fun p _ => ?_
  unfold fitsB
  rw [List.all_append, List.all_append]
  simp only [List.all_cons, List.all_nil, Bool.and_true]
  cases ws.all (okW s f 0 p.1) <;> cases ws.all (okW s f 1 p.2) <;> cases okW s f 0 p.1 x <;> cases okW s f 1 p.2 x <;> rfl

/-- A lane's words, others in their place. -/
def withW (l : Lan) (ws : List Wd) : Lan := ⟨l.fs, l.wa, l.wc, ws⟩
theorem fault_with {l : Lan} {ws : List Wd} (h : faultW l = 0) (hn : ws.length ≤ 30) (hw : ∀ x ∈ ws, wrongW l.fs x = false) : faultW (withW l ws) = 0 := by
  have h0 := fault0 h
  unfold faultW
  rw [if_neg (by show ¬ 30 < ws.length; omega), if_pos]
  unfold validW
  have h1 : inB (withW l ws).fs 1 5 = true := inB_iff.2 ⟨h0.2.2.1, h0.2.2.2.1⟩
  rw [h1]
  have h2 : (withW l ws).ws.any (wrongW (withW l ws).fs) = false := by
    rw [List.any_eq_false]
    intro x hx
    show ¬ wrongW l.fs x = true
    rw [hw x hx]; simp
  rw [h2]; rfl
theorem wrong_no {fs : Int} {x : Wd} (h : (0 ≤ x.fr ∧ x.fr < fs) ∧ (0 ≤ x.ba ∧ x.ba ≤ 1) ∧ (0 ≤ x.te ∧ x.te ≤ 3) ∧ (0 ≤ x.le ∧ x.le ≤ x.mo) ∧ x.mo ≤ 10) : wrongW fs x = false := by
  unfold wrongW
  have h1 : inB x.fr 0 (fs - 1) = true := inB_iff.2 (by omega)
  have h2 : inB x.ba 0 1 = true := inB_iff.2 (by omega)
  have h3 : inB x.te 0 3 = true := inB_iff.2 (by omega)
  have h4 : inB x.le 0 x.mo = true := inB_iff.2 (by omega)
  rw [h1, h2, h3, h4]
  simp; omega
theorem fault_one {l : Lan} {x : Wd} (h : faultW l = 0) (hn : l.ws.length ≤ 29) (hx : wrongW l.fs x = false) : faultW (withW l (l.ws ++ [x])) = 0 := by
  refine fault_with h (by simp; omega) fun y hy => ?_
  rcases List.mem_append.1 hy with hy | hy
  · exact (fault0 h).2.2.2.2 y hy
  · obtain rfl : y = x := by simpa using hy
    exact hx

theorem poss_f {l : Lan} {s : Int → Bool} : possB l s = true ↔ ∀ f : Nat, (f : Int) < l.fs → gamesL l.ws s (f : Int) ≠ [] := by
  unfold possB
  rw [List.all_eq_true]
  constructor
  · intro h f hf e
    have := h f (List.mem_range.2 (by omega))
    unfold someB at this
    rw [e] at this
    simp at this
  · intro h f hf
    have h2 := h f (by have := List.mem_range.1 hf; omega)
    unfold someB
    cases e : gamesL l.ws s (f : Int) with
    | nil => exact absurd e h2
    | cons a b => rfl

/-- With one number told of a place more, somebody explains the words just if it is in the place's range. -/
theorem each_math {l : Lan} {ts : List Int} (hE : gofE l ts = 0) (hn29 : l.ws.length ≤ 29) {k : Nat} {r : Int × Int} (hr : (rngsL l ts)[k]? = some r) {t n : Int} (ht : 0 ≤ t ∧ t ≤ 3) (hto : offS ts t = false) (hn : 0 ≤ n ∧ n ≤ 10) :
    explB (withW l (l.ws ++ [⟨((k / 2 : Nat) : Int), ((k % 2 : Nat) : Int), t, n, n⟩])) ts = inB n r.1 r.2 ∧ chkE (withW l (l.ws ++ [⟨((k / 2 : Nat) : Int), ((k % 2 : Nat) : Int), t, n, n⟩])) ts = 0 := by
  obtain ⟨hc, hp⟩ := gofE_zero hE
  have hF := (chkE_zero hc).1
  have hkl : k < 2 * l.fs.toNat := by rw [← rngsL_len hE]; exact (List.getElem?_eq_some_iff.1 hr).1
  have hfs := (fault0 hF).2.2
  have hfk : ((k / 2 : Nat) : Int) < l.fs := by omega
  have hF2 := fault_one (x := ⟨((k / 2 : Nat) : Int), ((k % 2 : Nat) : Int), t, n, n⟩) hF hn29 (wrong_no ⟨⟨by simp; omega, hfk⟩, ⟨by simp; omega, by simp; omega⟩, ht, ⟨hn.1, Int.le_refl _⟩, hn.2⟩)
  have hc2 : chkE (withW l (l.ws ++ [⟨((k / 2 : Nat) : Int), ((k % 2 : Nat) : Int), t, n, n⟩])) ts = 0 := by
    have hri : riseIn 0 3 ts = true := by
      unfold chkE at hc
      rw [if_pos hF] at hc
      cases h : riseIn 0 3 ts with
      | true => rfl
      | false => rw [h] at hc; simp at hc
    exact chkE_ok hF2 hri
  refine ⟨?_, hc2⟩
  unfold explB
  rw [hc2]
  simp only [decide_true, Bool.true_and]
  obtain ⟨a1, a2⟩ := rngs_at hE hfk
  have hne := games_ne hE hfk
  have far : ∀ f : Nat, (f : Int) < l.fs → f ≠ k / 2 → gamesL (l.ws ++ [⟨((k / 2 : Nat) : Int), ((k % 2 : Nat) : Int), t, n, n⟩]) (offS ts) (f : Int) ≠ [] := fun f hf hne2 => by
    rw [games_app]
    have : ∀ b z, okW (offS ts) (f : Int) b z ⟨((k / 2 : Nat) : Int), ((k % 2 : Nat) : Int), t, n, n⟩ = true := fun b z => okW_far (by
      have : (((k / 2 : Nat) : Int) == (f : Int)) = false := by simp; omega
      rw [this]; rfl)
    simp only [this, Bool.and_self]
    rw [List.filter_eq_self.2 (fun _ _ => rfl)]
    exact poss_f.1 hp f hf
  have near : (gamesL (l.ws ++ [⟨((k / 2 : Nat) : Int), ((k % 2 : Nat) : Int), t, n, n⟩]) (offS ts) ((k / 2 : Nat) : Int) ≠ []) ↔ inB n r.1 r.2 = true := by
    rw [games_app]
    rcases Nat.mod_two_eq_zero_or_one k with hm | hm
    · have e2 : 2 * (k / 2) = k := by omega
      rw [e2] at a1
      rw [a1] at hr
      cases hr
      have ok0 : ∀ z, okW (offS ts) ((k / 2 : Nat) : Int) 0 z ⟨((k / 2 : Nat) : Int), ((k % 2 : Nat) : Int), t, n, n⟩ = inB z n n := fun z => okW_near (by rw [hm]; simp) hto
      have ok1 : ∀ z, okW (offS ts) ((k / 2 : Nat) : Int) 1 z ⟨((k / 2 : Nat) : Int), ((k % 2 : Nat) : Int), t, n, n⟩ = true := fun z => okW_far (by rw [hm]; simp)
      simp only [ok0, ok1, Bool.and_true]
      have hne3 : ((gamesL l.ws (offS ts) ((k / 2 : Nat) : Int)).map fun p => p.1) ≠ [] := by simpa using hne
      obtain ⟨s1, s2, s3⟩ := spanL_spec hne3
      rw [inB_iff]
      constructor
      · intro h
        obtain ⟨p, hp2⟩ := List.exists_mem_of_ne_nil _ h
        obtain ⟨m1, m2⟩ := List.mem_filter.1 hp2
        have := inB_iff.1 m2
        have h3 := s3 p.1 (List.mem_map.2 ⟨p, m1, rfl⟩)
        omega
      · intro ⟨h1, h2⟩ h
        obtain ⟨⟨p1, q1⟩, m1, e1⟩ := List.mem_map.1 s1
        obtain ⟨⟨p2, q2⟩, m2, e2'⟩ := List.mem_map.1 s2
        simp only at e1 e2'
        rw [mem_games] at m1 m2
        have hm : (n, q1) ∈ gamesL l.ws (offS ts) ((k / 2 : Nat) : Int) := mem_games.2 ⟨by omega, all_conv m1.2.1 m2.2.1 (by omega), m1.2.2⟩
        have : (n, q1) ∈ ([] : List (Int × Int)) := by rw [← h]; exact List.mem_filter.2 ⟨hm, inB_iff.2 (by omega)⟩
        cases this
    · have e2 : 2 * (k / 2) + 1 = k := by omega
      rw [e2] at a2
      rw [a2] at hr
      cases hr
      have ok0 : ∀ z, okW (offS ts) ((k / 2 : Nat) : Int) 1 z ⟨((k / 2 : Nat) : Int), ((k % 2 : Nat) : Int), t, n, n⟩ = inB z n n := fun z => okW_near (by rw [hm]; simp) hto
      have ok1 : ∀ z, okW (offS ts) ((k / 2 : Nat) : Int) 0 z ⟨((k / 2 : Nat) : Int), ((k % 2 : Nat) : Int), t, n, n⟩ = true := fun z => okW_far (by rw [hm]; simp)
      simp only [ok0, ok1, Bool.true_and]
      have hne3 : ((gamesL l.ws (offS ts) ((k / 2 : Nat) : Int)).map fun p => p.2) ≠ [] := by simpa using hne
      obtain ⟨s1, s2, s3⟩ := spanL_spec hne3
      rw [inB_iff]
      constructor
      · intro h
        obtain ⟨p, hp2⟩ := List.exists_mem_of_ne_nil _ h
        obtain ⟨m1, m2⟩ := List.mem_filter.1 hp2
        have := inB_iff.1 m2
        have h3 := s3 p.2 (List.mem_map.2 ⟨p, m1, rfl⟩)
        omega
      · intro ⟨h1, h2⟩ h
        obtain ⟨⟨p1, q1⟩, m1, e1⟩ := List.mem_map.1 s1
        obtain ⟨⟨p2, q2⟩, m2, e2'⟩ := List.mem_map.1 s2
        simp only at e1 e2'
        rw [mem_games] at m1 m2
        have hm : (p2, n) ∈ gamesL l.ws (offS ts) ((k / 2 : Nat) : Int) := mem_games.2 ⟨by omega, m2.2.1, all_conv m1.2.2 m2.2.2 (by omega)⟩
        have : (p2, n) ∈ ([] : List (Int × Int)) := by rw [← h]; exact List.mem_filter.2 ⟨hm, inB_iff.2 (by omega)⟩
        cases this
  rw [Bool.eq_iff_iff, poss_f]
  constructor
  · intro h
    exact near.1 (h (k / 2) hfk)
  · intro h f hf
    by_cases e : f = k / 2
    · subst e; exact near.2 h
    · exact far f hf e

end Go.Proofs.Ytbbndcfnpfedpaa
