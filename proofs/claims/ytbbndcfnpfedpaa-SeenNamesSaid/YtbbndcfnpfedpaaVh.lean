/- What the reference's Ranges counts, frame by frame: the program's ranges; and what it stands on. -/
import Derived.Test.YtbbndcfnpfedpaaVg
set_option linter.unusedVariables false
set_option linter.unusedSimpArgs false
namespace Go.Proofs.Ytbbndcfnpfedpaa
open Go.RowKit Go.Shelf Go.Maps

attribute [local go_sem] Oper.semAt_some

theorem spanL_perm {a b : List Int} (h : a.Perm b) : spanL a = spanL b := by
  by_cases hb : b = []
  · subst hb; rw [List.Perm.eq_nil h]
  · obtain ⟨h1, h2, h3⟩ := spanL_spec hb
    have ha : a ≠ [] := fun e => hb (by subst e; exact List.nil_perm.1 h)
    have := spanL_eq ha (h.mem_iff.2 h1) (h.mem_iff.2 h2) (fun n hn => h3 n (h.mem_iff.1 hn))
    rw [this]

/-- A span that begins with (10, 0). -/
def spanZ (ns : List Int) : Int × Int := ns.foldl spanStep (10, 0)
theorem spanZ_snoc (ns : List Int) (x : Int) : spanZ (ns ++ [x]) = spanStep (spanZ ns) x := by unfold spanZ; rw [List.foldl_append]; rfl
theorem spanZ_eq {ns : List Int} (hn : ns ≠ []) (h : ∀ n ∈ ns, 0 ≤ n ∧ n ≤ 10) : spanZ ns = spanL ns := by
  cases ns with
  | nil => exact absurd rfl hn
  | cons x ns =>
    have := h x (by simp)
    have e : spanStep (10, 0) x = (x, x) := by unfold spanStep; simp only; congr 1 <;> omega
    show ns.foldl spanStep (spanStep (10, 0) x) = _
    rw [e]; rfl

theorem gamesR_in {ws : List Wd} {ts : List Int} {k : Int} (hb : ∀ x ∈ ws, 0 ≤ x.ba ∧ x.ba ≤ 1) {row : List Int} (h : row ∈ gamesR ws ts k) : (0 ≤ behN row 0 ∧ behN row 0 ≤ 10) ∧ 0 ≤ behN row 1 ∧ behN row 1 ≤ 10 := by
  have h1 : pq row ∈ gamesL ws (offS ts) k := (gamesR_perm hb).mem_iff.1 (List.mem_map.2 ⟨row, h, rfl⟩)
  have h2 := rolls_in (games_in h1).1
  unfold pq at h2
  simp only at h2
  omega
theorem spanZ_0 {ws : List Wd} {ts : List Int} {k : Int} (hb : ∀ x ∈ ws, 0 ≤ x.ba ∧ x.ba ≤ 1) (hne : gamesL ws (offS ts) k ≠ []) : spanZ ((gamesR ws ts k).map fun r => behN r 0) = spanL ((gamesL ws (offS ts) k).map fun p => p.1) := by
  have hp : ((gamesR ws ts k).map fun r => behN r 0).Perm ((gamesL ws (offS ts) k).map fun p => p.1) := by
    have := (gamesR_perm (ts := ts) (k := k) hb).map (fun p : Int × Int => p.1)
    rwa [List.map_map] at this
  rw [spanZ_eq, spanL_perm hp]
  · intro e; rw [e] at hp; exact hne (by simpa using hp.symm.eq_nil)
  · intro n hn
    obtain ⟨r, hr, rfl⟩ := List.mem_map.1 hn
    exact (gamesR_in hb hr).1
theorem spanZ_1 {ws : List Wd} {ts : List Int} {k : Int} (hb : ∀ x ∈ ws, 0 ≤ x.ba ∧ x.ba ≤ 1) (hne : gamesL ws (offS ts) k ≠ []) : spanZ ((gamesR ws ts k).map fun r => behN r 1) = spanL ((gamesL ws (offS ts) k).map fun p => p.2) := by
  have hp : ((gamesR ws ts k).map fun r => behN r 1).Perm ((gamesL ws (offS ts) k).map fun p => p.2) := by
    have := (gamesR_perm (ts := ts) (k := k) hb).map (fun p : Int × Int => p.2)
    rwa [List.map_map] at this
  rw [spanZ_eq, spanL_perm hp]
  · intro e; rw [e] at hp; exact hne (by simpa using hp.symm.eq_nil)
  · intro n hn
    obtain ⟨r, hr, rfl⟩ := List.mem_map.1 hn
    exact (gamesR_in hb hr).2

theorem fell_span {gs : List (Int × Int)} (h : gs ≠ []) : fellL gs = (10 - (spanL (gs.map fun p => p.2)).2, 10 - (spanL (gs.map fun p => p.2)).1) := by
  have n1 : gs.map (fun p => p.2) ≠ [] := by simpa using h
  obtain ⟨h1, h2, h3⟩ := spanL_spec n1
  unfold fellL
  refine spanL_eq (by simpa using h) ?_ ?_ ?_
  · obtain ⟨p, hp, e⟩ := List.mem_map.1 h2
    exact List.mem_map.2 ⟨p, hp, by rw [← e]⟩
  · obtain ⟨p, hp, e⟩ := List.mem_map.1 h1
    exact List.mem_map.2 ⟨p, hp, by rw [← e]⟩
  · intro n hn
    obtain ⟨p, hp, rfl⟩ := List.mem_map.1 hn
    have := h3 p.2 (List.mem_map.2 ⟨p, hp, rfl⟩)
    omega

/-- The first n frames' ranges and count. -/
def refF (l : Lan) (ts : List Int) (f : Nat) : List (Int × Int) := [spanZ ((gamesR l.ws ts f).map fun r => behN r 0), spanZ ((gamesR l.ws ts f).map fun r => behN r 1)]
def refG (l : Lan) (ts : List Int) (n : Nat) : List (Int × Int) := (List.range n).flatMap fun f => refF l ts f
def refC (l : Lan) (ts : List Int) (n : Nat) : Int × Int := (List.range n).foldl (fun c (f : Nat) => (c.1 + 10 - (spanZ ((gamesR l.ws ts f).map fun r => behN r 1)).2, c.2 + 10 - (spanZ ((gamesR l.ws ts f).map fun r => behN r 1)).1)) (0, 0)
theorem refG_succ (l : Lan) (ts : List Int) (n : Nat) : refG l ts (n + 1) = (refG l ts n ++ [spanZ ((gamesR l.ws ts n).map fun r => behN r 0)]) ++ [spanZ ((gamesR l.ws ts n).map fun r => behN r 1)] := by
  unfold refG; rw [List.range_succ, List.flatMap_append]; simp [refF]
theorem refC_succ (l : Lan) (ts : List Int) (n : Nat) : refC l ts (n + 1) = ((refC l ts n).1 + 10 - (spanZ ((gamesR l.ws ts n).map fun r => behN r 1)).2, (refC l ts n).2 + 10 - (spanZ ((gamesR l.ws ts n).map fun r => behN r 1)).1) := by
  unfold refC; rw [List.range_succ, List.foldl_append]; rfl

theorem refG_len (l : Lan) (ts : List Int) (n : Nat) : (refG l ts n).length = 2 * n := by
  induction n with
  | zero => rfl
  | succ n ih => rw [refG_succ]; simp [ih]; omega

theorem spanZ_in (ns : List Int) (h : ∀ n ∈ ns, 0 ≤ n ∧ n ≤ 10) : (0 ≤ (spanZ ns).1 ∧ (spanZ ns).1 ≤ 10) ∧ 0 ≤ (spanZ ns).2 ∧ (spanZ ns).2 ≤ 10 := by
  have key : ∀ (ns : List Int) (r : Int × Int), (∀ n ∈ ns, 0 ≤ n ∧ n ≤ 10) → ((0 ≤ r.1 ∧ r.1 ≤ 10) ∧ 0 ≤ r.2 ∧ r.2 ≤ 10) → ((0 ≤ (ns.foldl spanStep r).1 ∧ (ns.foldl spanStep r).1 ≤ 10) ∧ 0 ≤ (ns.foldl spanStep r).2 ∧ (ns.foldl spanStep r).2 ≤ 10) := by
    intro ns
    induction ns with
    | nil => intro r _ h; exact h
    | cons x ns ih =>
      intro r h1 h2
      have := h1 x (by simp)
      refine ih _ (fun n hn => h1 n (by simp [hn])) ?_
      unfold spanStep
      simp only
      omega
  exact key ns (10, 0) h (by simp)
theorem refC_in (l : Lan) (ts : List Int) (hb : ∀ x ∈ l.ws, 0 ≤ x.ba ∧ x.ba ≤ 1) (n : Nat) : (0 ≤ (refC l ts n).1 ∧ (refC l ts n).1 ≤ 10 * (n : Int)) ∧ 0 ≤ (refC l ts n).2 ∧ (refC l ts n).2 ≤ 10 * (n : Int) := by
  induction n with
  | zero => simp [refC]
  | succ n ih =>
    have := spanZ_in ((gamesR l.ws ts n).map fun r => behN r 1) (fun m hm => by
      obtain ⟨r, hr, rfl⟩ := List.mem_map.1 hm
      exact (gamesR_in hb hr).2)
    rw [refC_succ]
    simp only
    push_cast
    omega

theorem ref_rngs {l : Lan} {ts : List Int} (h : gofE l ts = 0) (hb : ∀ x ∈ l.ws, 0 ≤ x.ba ∧ x.ba ≤ 1) : refG l ts l.fs.toNat = rngsL l ts := by
  apply List.ext_getElem?
  intro i
  by_cases hi : i < 2 * l.fs.toNat
  · have hf : ((i / 2 : Nat) : Int) < l.fs := by omega
    obtain ⟨a1, a2⟩ := rngs_at h (f := i / 2) hf
    obtain ⟨b1, b2⟩ := flat_two (refF l ts) (fun k => rfl) l.fs.toNat (i / 2) (by omega)
    have hne := games_ne h hf
    rw [← spanZ_0 hb hne] at a1
    rw [← spanZ_1 hb hne] at a2
    have hdm : i = 2 * (i / 2) + i % 2 := by omega
    rcases Nat.mod_two_eq_zero_or_one i with e | e
    · generalize i / 2 = j at *
      obtain rfl : i = 2 * j := by omega
      rw [a1]; exact b1
    · generalize i / 2 = j at *
      obtain rfl : i = 2 * j + 1 := by omega
      rw [a2]; exact b2
  · rw [List.getElem?_eq_none (by rw [refG_len]; omega), List.getElem?_eq_none (by rw [rngsL_len h]; omega)]
theorem ref_cnt {l : Lan} {ts : List Int} (h : gofE l ts = 0) (hb : ∀ x ∈ l.ws, 0 ≤ x.ba ∧ x.ba ≤ 1) : refC l ts l.fs.toNat = cntL (gofL l ts) := by
  rw [gofL_ok h]
  unfold frmL
  have key : ∀ n : Nat, (n : Int) ≤ l.fs ∨ n = 0 → refC l ts n = cntL ((List.range n).map fun (f : Nat) => gamesL l.ws (offS ts) (f : Int)) := by
    intro n
    induction n with
    | zero => intro _; rfl
    | succ n ih =>
      intro hn
      have hne := games_ne h (f := n) (by omega)
      rw [refC_succ, ih (by omega), List.range_succ, List.map_append]
      show _ = cntL (_ ++ [_])
      rw [cntL_snoc]
      unfold cntStep
      rw [fell_span hne, spanZ_1 hb hne]
      congr 1 <;> omega
  exact key _ (by omega)

theorem ownsRow_own {W W' : World} {base : Nat} {e : TypeId} {size : Nat} {v : Value} {n : Nat} {xs : List Value} {p : Nat → Prop} (h : W.ownsRow base e size v n xs) (ha : Alt p W W') (hp : ∀ g, v.ownBlock = some g → ¬ p g) : W'.ownsRow base e size v n xs := by
  obtain ⟨h1, h2⟩ := h
  refine ⟨h1, ?_⟩
  rcases h2 with h2 | ⟨g, cap, cur, e1, e2, e3, e4⟩
  · exact .inl h2
  · exact .inr ⟨g, cap, cur, e1, e2, ha.obj e3 (hp g (by rw [e1]; rfl)), e4⟩
theorem own_ltS {W : World} {base : Nat} {e : TypeId} {size : Nat} {v : Value} {n : Nat} {xs : List Value} (h : W.ownsRow base e size v n xs) {g : Nat} (hg : v.ownBlock = some g) : base ≤ g ∧ g < W.heap.size := by
  rcases h.2 with ⟨rfl, _⟩ | ⟨g', cap, cur, rfl, hb, h3, _⟩
  · simp [Value.ownBlock] at hg
  · obtain rfl : g' = g := by simpa [Value.ownBlock] using hg
    exact ⟨hb, (Array.getElem?_eq_some_iff.1 h3).1⟩

/-- What the reference's Ranges stands on. -/
structure RR (l : Lan) (w W : World) (v : Value) (xs : List (Int × Int)) (cn : Int × Int) : Prop where
  bx : BX l w W
  b1 : Blk W (w.heap.size + 1) #[.int .i64 0, .int .i64 0] 45
  b2 : Blk W (w.heap.size + 1 + 1) #[.int .i64 cn.1, .int .i64 cn.2] 45
  ow : W.ownsRow (w.heap.size + 3) 45 2 v xs.length (p2Cells xs)
theorem RR.far {l : Lan} {w W W' : World} {v : Value} {xs : List (Int × Int)} {cn : Int × Int} {p : Nat → Prop} (h : RR l w W v xs cn) (ha : Alt p W W') (h1 : ∀ k, p k → w.heap.size + 3 ≤ k) (h2 : ∀ g, v.ownBlock = some g → ¬ p g) : RR l w W' v xs cn :=
  ⟨⟨Blk.alt h.bx.b ha (fun e => by have := h1 _ e; omega), (((Alt.of_below (p := fun k => w.heap.size ≤ k) h.bx.bl (fun k _ e => e)).trans (ha.mono fun k _ e => by have := h1 _ e; omega)).below (Nat.le_refl _) fun _ e => e)⟩,
    Blk.alt h.b1 ha (fun e => by have := h1 _ e; omega), Blk.alt h.b2 ha (fun e => by have := h1 _ e; omega), ownsRow_own h.ow ha h2⟩
theorem RR.lo {l : Lan} {w W W' : World} {v : Value} {xs : List (Int × Int)} {cn : Int × Int} (h : RR l w W v xs cn) (hb : Below W.heap.size W W') : RR l w W' v xs cn :=
  h.far (p := fun _ => False) (Alt.of_below hb (fun k hk e => by omega)) (fun _ h => h.elim) (fun _ _ => id)
theorem RR.size {l : Lan} {w W : World} {v : Value} {xs : List (Int × Int)} {cn : Int × Int} (h : RR l w W v xs cn) : w.heap.size + 3 ≤ W.heap.size := by have := h.b2.lt; omega

end Go.Proofs.Ytbbndcfnpfedpaa
