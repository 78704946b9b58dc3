/- What RackWider asks, in plain words of sets: wider ranges, one link more, a greater reach, a link that becomes sure. -/
import Derived.Test.YtaloffdkadhhnaaDoorSr
set_option linter.unusedVariables false
set_option linter.unusedSimpArgs false
namespace Go.Proofs.YtaloffdkadhhnaaDoor
open Go.RowKit

theorem choices_mem : ∀ (ball : List Rg) (bs : List Int), bs ∈ choices ball → bs.length = ball.length ∧ ∀ i, i < ball.length → (ball.getD i ⟨0, 0⟩).lo ≤ bs.getD i 0 ∧ bs.getD i 0 ≤ (ball.getD i ⟨0, 0⟩).hi
  | [], bs, h => by
    have : bs = [] := by simpa [choices] using h
    subst this
    exact ⟨rfl, fun i hi => by simp at hi⟩
  | b :: ball, bs, h => by
    unfold choices at h
    obtain ⟨j, hj, h⟩ := List.mem_flatMap.1 h
    obtain ⟨q, hq, rfl⟩ := List.mem_map.1 h
    have hj := List.mem_range.1 hj
    unfold spanN at hj
    obtain ⟨h1, h2⟩ := choices_mem ball q hq
    refine ⟨by simp [h1], fun i hi => ?_⟩
    match i with
    | 0 => simp; omega
    | i + 1 =>
      have := h2 i (by simpa using hi)
      simpa using this

theorem within_els {a b : Nat} (h : Sub a b) : withinI (els a) (els b) = true := by
  unfold withinI
  rw [List.all_eq_true]
  intro x hx
  obtain ⟨h0, h1, h2⟩ := (mem_els _ _).1 hx
  exact hasI_iff.2 ((mem_els _ _).2 ⟨h0, h1, h _ h2⟩)

theorem low_le {r : Rk} {xs : List Int} {ball : List Rg} {c : List Int} (hc : c ∈ choices ball) : lowN r ball (setN xs) xs.length ≤ (sizeN (hitN r (toCs c) (fun _ => true) (setN xs)) : Nat) :=
  (min_fold (fun x => sizeN x) (leavesL r ball (fun _ => true) (setN xs)) (xs.length : Nat)).1 _ (List.mem_map.2 ⟨c, hc, rfl⟩)
theorem top_ge {r : Rk} {xs : List Int} {ball : List Rg} {c : List Int} (hc : c ∈ choices ball) : ((sizeN (hitN r (toCs c) (fun l => l.sr) (setN xs)) : Nat) : Int) ≤ topN r ball (setN xs) :=
  (max_fold (fun x => sizeN x) (leavesL r ball (fun l => l.sr) (setN xs)) 0).1 _ (List.mem_map.2 ⟨c, hc, rfl⟩)

/-- Where more can be, no more surely falls, and no fewer may. -/
theorem wide_worse {r r' : Rk} {xs : List Int} {ball ball' : List Rg} (hS : setN xs < 65536)
    (h : ∀ c ∈ choices ball, c ∈ choices ball' ∧ Sub (hitN r (toCs c) (fun l => l.sr) (setN xs)) (hitN r' (toCs c) (fun l => l.sr) (setN xs)) ∧ Sub (hitN r' (toCs c) (fun _ => true) (setN xs)) (hitN r (toCs c) (fun _ => true) (setN xs))) :
    withinI (els (sureN r' ball' (setN xs))) (els (sureN r ball (setN xs))) = true ∧ withinI (els (dif (setN xs) (stayN r ball (setN xs)))) (els (dif (setN xs) (stayN r' ball' (setN xs)))) = true ∧
    lowN r' ball' (setN xs) xs.length ≤ lowN r ball (setN xs) xs.length ∧ topN r ball (setN xs) ≤ topN r' ball' (setN xs) := by
  refine ⟨within_els fun i hi => ?_, within_els fun i hi => ?_, ?_, ?_⟩
  · obtain ⟨h1, h2⟩ := (fold_dif_bit _ _ _).1 hi
    refine (fold_dif_bit _ _ _).2 ⟨h1, fun y hy => ?_⟩
    obtain ⟨c, hc, rfl⟩ := List.mem_map.1 hy
    obtain ⟨k1, k2, k3⟩ := h c hc
    have := h2 _ (List.mem_map.2 ⟨c, k1, rfl⟩)
    cases hh : (hitN r (toCs c) (fun l => l.sr) (setN xs)).testBit i
    · rfl
    · rw [k2 i hh] at this; cases this
  · rw [dif_bit, Bool.and_eq_true] at hi ⊢
    refine ⟨hi.1, ?_⟩
    cases hh : (stayN r' ball' (setN xs)).testBit i
    · rfl
    · exfalso
      have hall := ((fold_and_bit _ _ _).1 hh).2
      have : (stayN r ball (setN xs)).testBit i = true := (fold_and_bit _ _ _).2 ⟨hi.1, fun y hy => by
        obtain ⟨c, hc, rfl⟩ := List.mem_map.1 hy
        obtain ⟨k1, k2, k3⟩ := h c hc
        exact k3 i (hall _ (List.mem_map.2 ⟨c, k1, rfl⟩))⟩
      rw [this] at hi; simp at hi
  · obtain ⟨a1, a2, a3⟩ := min_fold (fun x => sizeN x) (leavesL r ball (fun _ => true) (setN xs)) (xs.length : Nat)
    have b2 := (min_fold (fun x => sizeN x) (leavesL r' ball' (fun _ => true) (setN xs)) (xs.length : Nat)).2.1
    have hl : lowN r' ball' (setN xs) xs.length ≤ (xs.length : Nat) := b2
    have ha : lowN r ball (setN xs) xs.length = (xs.length : Nat) ∨ ∃ x ∈ leavesL r ball (fun _ => true) (setN xs), lowN r ball (setN xs) xs.length = (sizeN x : Nat) := a3
    rcases ha with ha | ⟨y, hy, ha⟩
    · omega
    · obtain ⟨c, hc, rfl⟩ := List.mem_map.1 hy
      obtain ⟨k1, k2, k3⟩ := h c hc
      have h1 := low_le (r := r') (xs := xs) k1
      have h2 := els_mono k3 ((show Sub (hitN r (toCs c) (fun _ => true) (setN xs)) (setN xs) from leftN_le _ _ _ _).lt hS)
      omega
  · obtain ⟨a1, a2, a3⟩ := max_fold (fun x => sizeN x) (leavesL r ball (fun l => l.sr) (setN xs)) 0
    have b2 := (max_fold (fun x => sizeN x) (leavesL r' ball' (fun l => l.sr) (setN xs)) 0).2.1
    have hl : 0 ≤ topN r' ball' (setN xs) := b2
    have ha : topN r ball (setN xs) = 0 ∨ ∃ x ∈ leavesL r ball (fun l => l.sr) (setN xs), topN r ball (setN xs) = (sizeN x : Nat) := a3
    rcases ha with ha | ⟨y, hy, ha⟩
    · omega
    · obtain ⟨c, hc, rfl⟩ := List.mem_map.1 hy
      obtain ⟨k1, k2, k3⟩ := h c hc
      have h1 := top_ge (r := r') (xs := xs) k1
      have h2 := els_mono k2 ((show Sub (hitN r' (toCs c) (fun l => l.sr) (setN xs)) (setN xs) from leftN_le _ _ _ _).lt hS)
      omega

/-- Where more surely falls. -/
theorem wide_better {r r' : Rk} {xs : List Int} {ball : List Rg} (hS : setN xs < 65536) (hne : choices ball ≠ []) (hlk : LinksOk r'.ls)
    (h : ∀ c ∈ choices ball, Sub (hitN r' (toCs c) (fun l => l.sr) (setN xs)) (hitN r (toCs c) (fun l => l.sr) (setN xs))) :
    withinI (els (sureN r ball (setN xs))) (els (sureN r' ball (setN xs))) = true ∧ lowN r' ball (setN xs) xs.length ≤ topN r' ball (setN xs) ∧ topN r' ball (setN xs) ≤ topN r ball (setN xs) := by
  refine ⟨within_els fun i hi => ?_, ?_, ?_⟩
  · obtain ⟨h1, h2⟩ := (fold_dif_bit _ _ _).1 hi
    refine (fold_dif_bit _ _ _).2 ⟨h1, fun y hy => ?_⟩
    obtain ⟨c, hc, rfl⟩ := List.mem_map.1 hy
    have := h2 _ (List.mem_map.2 ⟨c, hc, rfl⟩)
    cases hh : (hitN r' (toCs c) (fun l => l.sr) (setN xs)).testBit i
    · rfl
    · rw [h c hc i hh] at this; cases this
  · obtain ⟨c, hc⟩ := List.exists_mem_of_ne_nil _ hne
    have h1 := low_le (r := r') (xs := xs) hc
    have h2 := top_ge (r := r') (xs := xs) hc
    have h3 : Sub (hitN r' (toCs c) (fun _ => true) (setN xs)) (hitN r' (toCs c) (fun l => l.sr) (setN xs)) := left_anti hlk hlk hS (fun l hl _ => ⟨hl, rfl⟩) (fun i h _ => h)
    have h4 := els_mono h3 ((show Sub (hitN r' (toCs c) (fun l => l.sr) (setN xs)) (setN xs) from leftN_le _ _ _ _).lt hS)
    omega
  · obtain ⟨a1, a2, a3⟩ := max_fold (fun x => sizeN x) (leavesL r' ball (fun l => l.sr) (setN xs)) 0
    have b2 := (max_fold (fun x => sizeN x) (leavesL r ball (fun l => l.sr) (setN xs)) 0).2.1
    have hl : 0 ≤ topN r ball (setN xs) := b2
    have ha : topN r' ball (setN xs) = 0 ∨ ∃ x ∈ leavesL r' ball (fun l => l.sr) (setN xs), topN r' ball (setN xs) = (sizeN x : Nat) := a3
    rcases ha with ha | ⟨y, hy, ha⟩
    · omega
    · obtain ⟨c, hc, rfl⟩ := List.mem_map.1 hy
      have h1 := top_ge (r := r) (xs := xs) hc
      have h2 := els_mono (h c hc) ((show Sub (hitN r (toCs c) (fun l => l.sr) (setN xs)) (setN xs) from leftN_le _ _ _ _).lt hS)
      omega

/-- A range that is wider. -/
theorem wd_range {r : Rk} {xs : List Int} {ball : List Rg} {k : Nat} {b b' : Rg} (hS : setN xs < 65536) (hk : ball[k]? = some b) (h1 : b'.lo ≤ b.lo) (h2 : b.hi ≤ b'.hi) :
    ∀ c ∈ choices ball, c ∈ choices (ball.set k b') ∧ Sub (hitN r (toCs c) (fun l => l.sr) (setN xs)) (hitN r (toCs c) (fun l => l.sr) (setN xs)) ∧ Sub (hitN r (toCs c) (fun _ => true) (setN xs)) (hitN r (toCs c) (fun _ => true) (setN xs)) := fun c hc => by
  obtain ⟨e1, e2⟩ := choices_mem _ _ hc
  refine ⟨mem_choices _ _ (by simpa using e1) fun i hi => ?_, Sub.refl _, Sub.refl _⟩
  have hi' : i < ball.length := by simpa using hi
  have := e2 i hi'
  by_cases e : k = i
  · subst e
    rw [getD_of hk] at this
    rw [getD_of (show (ball.set k b')[k]? = some b' by rw [List.getElem?_set_self (by omega)])]
    omega
  · rw [List.getD_eq_getElem?_getD, List.getElem?_set_ne e, ← List.getD_eq_getElem?_getD]
    exact this
/-- One link more, that is not sure. -/
theorem wd_link {r r' : Rk} {xs : List Int} {ball : List Rg} {q : Lk} (hS : setN xs < 65536) (h0 : q.sr = false) (hl : r'.ls = r.ls ++ [q]) (ht : ∀ c, touchN r' c (setN xs) = touchN r c (setN xs)) (k1 : LinksOk r.ls) (k2 : LinksOk r'.ls) :
    ∀ c ∈ choices ball, c ∈ choices ball ∧ Sub (hitN r (toCs c) (fun l => l.sr) (setN xs)) (hitN r' (toCs c) (fun l => l.sr) (setN xs)) ∧ Sub (hitN r' (toCs c) (fun _ => true) (setN xs)) (hitN r (toCs c) (fun _ => true) (setN xs)) := fun c hc => by
  refine ⟨hc, ?_, ?_⟩
  · unfold hitN
    refine left_anti k2 k1 hS (fun l hm hs => ⟨?_, hs⟩) (fun i h _ => by rwa [ht] at h)
    rw [hl] at hm
    rcases List.mem_append.1 hm with hm | hm
    · exact hm
    · have : l = q := by simpa using hm
      rw [this, h0] at hs; cases hs
  · unfold hitN
    exact left_anti k1 k2 hS (fun l hm _ => ⟨by rw [hl]; exact List.mem_append.2 (.inl hm), rfl⟩) (fun i h _ => by rwa [ht])
/-- A greater reach. -/
theorem wd_reach {r r' : Rk} {xs : List Int} {ball : List Rg} (hS : setN xs < 65536) (hl : r'.ls = r.ls) (h0 : r.reach ≤ r'.reach) (hb : ∀ p, boardN r' p = boardN r p) (k1 : LinksOk r.ls) :
    ∀ c ∈ choices ball, Sub (hitN r' (toCs c) (fun l => l.sr) (setN xs)) (hitN r (toCs c) (fun l => l.sr) (setN xs)) := fun c hc => by
  unfold hitN
  rw [hl]
  refine left_anti k1 k1 hS (fun l hm hs => ⟨hm, hs⟩) fun i h _ => ?_
  obtain ⟨t1, t2, t3⟩ := touch_iff.1 h
  refine touch_iff.2 ⟨t1, t2, ?_⟩
  unfold reachB at t3 ⊢
  rw [hb]
  simp only [decide_eq_true_eq] at t3 ⊢
  omega
/-- A link that becomes sure. -/
theorem wd_sure {r r' : Rk} {xs : List Int} {ball : List Rg} {k : Nat} {q : Lk} (hS : setN xs < 65536) (hq : r.ls[k]? = some q) (hl : r'.ls = r.ls.set k { q with sr := true }) (ht : ∀ c, touchN r' c (setN xs) = touchN r c (setN xs)) (k1 : LinksOk r.ls) (k2 : LinksOk r'.ls) :
    ∀ c ∈ choices ball, Sub (hitN r' (toCs c) (fun l => l.sr) (setN xs)) (hitN r (toCs c) (fun l => l.sr) (setN xs)) := fun c hc => by
  unfold hitN
  refine left_anti k1 k2 hS (fun l hm hs => ⟨?_, hs⟩) (fun i h _ => by rwa [ht])
  rw [hl]
  obtain ⟨i, hi, e⟩ := List.getElem_of_mem hm
  have hg : r.ls[i]? = some l := by rw [List.getElem?_eq_getElem hi, e]
  by_cases ek : k = i
  · subst ek
    rw [hq] at hg
    have : q = l := Option.some.inj hg
    subst this
    refine List.mem_of_getElem? (i := k) ?_
    rw [List.getElem?_set_self hi]
    obtain ⟨fr, to, sr⟩ := q
    simp only at hs
    subst hs
    rfl
  · refine List.mem_of_getElem? (i := i) ?_
    rw [List.getElem?_set_ne ek]
    exact hg

end Go.Proofs.YtaloffdkadhhnaaDoor
