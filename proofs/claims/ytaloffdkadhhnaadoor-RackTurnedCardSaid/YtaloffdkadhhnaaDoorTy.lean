/- Where RackTurned stands while it turns the rack and the ball. -/
import Derived.Test.YtaloffdkadhhnaaDoorTw
import Derived.Test.YtaloffdkadhhnaaDoorGk
import Derived.Test.YtaloffdkadhhnaaDoorLl
set_option linter.unusedVariables false
set_option linter.unusedSimpArgs false
namespace Go.Proofs.YtaloffdkadhhnaaDoor
open Go.RowKit

theorem info91t : (Tryd.prog.info? 91).map (fun i => (i.zero, i.size, i.bytes)) = some (some (.agg #[.int .i64 0, .int .i64 0, .bool false]), 3, 24) := by kernel_rfl
theorem info93t : (Tryd.prog.info? 93).map (fun i => (i.zero, i.size, i.bytes)) = some (some (.agg #[.int .i64 0, .int .i64 0]), 2, 16) := by kernel_rfl

theorem own_links91 {W : World} {base : Nat} {v : Value} {L : List Lk} (h : W.ownsRow base 91 3 v L.length (lkCells L)) : ∃ a c, v = .slice a L.length c ∧ LinksAt W a L ∧ ∀ g o, a = some ⟨g, o, none⟩ → base ≤ g ∧ g < W.heap.size := by
  by_cases h0 : 0 < L.length
  · obtain ⟨g, cap, rfl, hb, hl⟩ := h.form h0
    refine ⟨some ⟨g, 0, none⟩, cap, rfl, ?_, fun g' o e => by cases e; exact ⟨hb, hl⟩⟩
    intro i l hi
    obtain ⟨k1, k2, k3⟩ := lkCells_at L i l hi
    have hc : ∀ j u, (lkCells L)[j]? = some u → W.cell? ⟨g, j, none⟩ = some u := fun j u hj => (h.cellAt j (by have := (List.getElem?_eq_some_iff.1 hj).1; have := h.1; omega)).trans hj
    exact ⟨g, 0, rfl, by rw [Nat.zero_add]; exact hc _ _ k1, by rw [Nat.zero_add]; exact hc _ _ k2, by rw [Nat.zero_add]; exact hc _ _ k3⟩
  · have : L = [] := List.eq_nil_of_length_eq_zero (by omega)
    subst this
    rcases h.2 with ⟨rfl, _⟩ | ⟨g, cap, cur, rfl, hb, hg, _⟩
    · exact ⟨none, 0, rfl, fun i l h => by simp at h, fun g o e => by cases e⟩
    · refine ⟨some ⟨g, 0, none⟩, cap, rfl, fun i l h => by simp at h, fun g' o e => by cases e; exact ⟨hb, (Array.getElem?_eq_some_iff.1 hg).1⟩⟩

/-- The rack, and the one that is turned over, whose links grow. -/
structure TX (r : Rk) (w : World) (gX : Nat) (W : World) (v : Value) (L : List Lk) : Prop where
  st : St r w W
  bX : Blk W gX #[.int .i64 r.rows, .int .i64 r.mid, .int .i64 r.gap, .int .i64 r.reach, v] 24
  ow : W.ownsRow (gX + 1) 91 3 v L.length (lkCells L)
  h : w.heap.size < gX
  sz : gX + 1 ≤ W.heap.size
theorem TX.go {r : Rk} {w W W' : World} {gX : Nat} {v : Value} {L : List Lk} (h : TX r w gX W v L) (hb : Below W.heap.size W W') : TX r w gX W' v L :=
  ⟨h.st.go hb, Blk.alt h.bX (Alt.of_below (p := fun k => W.heap.size ≤ k) hb (fun k _ e => e)) (by have := h.bX.lt; omega), h.ow.kept (below_row hb) (by cases hk : v.ownBlock with | none => exact .inl rfl | some k => exact .inr (fun e => by cases e)), h.h, Nat.le_trans h.sz hb.size⟩
theorem TX.step {r : Rk} {w W W1 : World} {gX gg cap n : Nat} {v : Value} {L : List Lk} {l : Lk} (h : TX r w gX W v L) (hg : W.grownBy W1 v.ownBlock)
    (ho : W1.ownsRow (gX + 1) 91 3 (.slice (some ⟨gg, 0, none⟩) n cap) (L.length + 1) (lkCells L ++ [.int .i64 l.fr, .int .i64 l.to, .bool l.sr])) :
    TX r w gX (W1.setCell ⟨gX, 4, none⟩ (.slice (some ⟨gg, 0, none⟩) n cap)) (.slice (some ⟨gg, 0, none⟩) n cap) (L ++ [l]) ∧ St r w W1 ∧ W1.cell? ⟨gX, 4, none⟩ = some v ∧ W1.frozen? ⟨gX, 4, none⟩ = false := by
  have hh := h.h
  have hA : Alt (fun k => gX + 1 ≤ k) W W1 := (Alt.refl _ W).grown hg fun k e => own_base h.ow e
  have hS : Alt (fun k => k = gX) W1 (W1.setCell ⟨gX, 4, none⟩ (.slice (some ⟨gg, 0, none⟩) n cap)) := (Alt.refl (fun k => k = gX) W1).setCell (q := ⟨gX, 4, none⟩) rfl _
  have b1 : Blk W1 gX #[.int .i64 r.rows, .int .i64 r.mid, .int .i64 r.gap, .int .i64 r.reach, v] 24 := h.bX.alt hA (by omega)
  have bl1 : Below w.heap.size w W1 := below_grow h.st.bl hg (fun k e => by have := own_base h.ow e; omega)
  have st1 : St r w W1 := ⟨bl1, h.st.bK.alt hA (by omega)⟩
  refine ⟨⟨⟨?_, (h.st.bK.alt hA (by omega)).alt hS (by omega)⟩, Blk.setAt b1 4 _, ?_, hh, ?_⟩, st1, b1.cell 4 rfl, b1.fr 4⟩
  · exact ((Alt.of_below (p := fun k => w.heap.size ≤ k) bl1 (fun k _ e => e)).trans (hS.mono fun k _ e => by omega)).below (Nat.le_refl _) fun k e => e
  · rw [lkCells_snoc, List.length_append]
    exact ownsRow_alt ho hS (fun g hgb e => by omega)
  · exact Nat.le_trans (Nat.le_trans h.sz hg.size) hS.size

theorem choice_bd2 {ball : List Rg} {bs : List Int} (hw : ∀ b ∈ ball, wrongG b = false) (h : bs ∈ choices ball) : ∀ b ∈ bs, -1000 ≤ b ∧ b ≤ 1000 := fun b hb => by
  obtain ⟨i, hi, rfl⟩ := List.getElem_of_mem hb
  have h1 := toCs_ok ball bs hw h i
  rw [List.getD_eq_getElem?_getD, List.getElem?_eq_getElem hi] at h1
  simp only [Option.getD_some] at h1
  omega

/-- A ball's ranges, turned over, while they grow. -/
structure OwnH (w W : World) (v : Value) (zs : List Rg) : Prop where
  ow : W.ownsRow w.heap.size 93 2 v zs.length (rgCells zs)
  bl : Below w.heap.size w W
theorem OwnH.nil (w : World) : OwnH w w (.slice none 0 0) [] := ⟨⟨rfl, .inl ⟨rfl, rfl⟩⟩, Below.refl _ _⟩
theorem OwnH.lo {w W W' : World} {v : Value} {zs : List Rg} (h : OwnH w W v zs) (hb : Below W.heap.size W W') : OwnH w W' v zs :=
  ⟨h.ow.kept (below_row hb) (by cases hk : v.ownBlock with | none => exact .inl rfl | some k => exact .inr (fun e => by cases e)), below_go h.bl hb⟩
theorem OwnH.push {w W W1 : World} {v v' : Value} {zs : List Rg} {b : Rg} (h : OwnH w W v zs) (hg : W.grownBy W1 v.ownBlock)
    (ho : W1.ownsRow w.heap.size 93 2 v' (zs.length + 1) (rgCells zs ++ [.int .i64 b.lo, .int .i64 b.hi])) : OwnH w W1 v' (zs ++ [b]) :=
  ⟨by rw [rgCells_snoc]; simpa using ho, below_grow h.bl hg (fun k e => own_base h.ow e)⟩
theorem OwnH.out {w W : World} {v : Value} {zs : List Rg} (h : OwnH w W v zs) : ∃ a c, v = .slice a zs.length c ∧ RgsAt W a zs := by
  have h := h.ow
  by_cases h0 : 0 < zs.length
  · obtain ⟨g, cap, rfl, hb, hl⟩ := h.form h0
    refine ⟨some ⟨g, 0, none⟩, cap, rfl, ?_⟩
    intro i b hi
    obtain ⟨k1, k2⟩ := rgCells_at zs i b hi
    have hc : ∀ j u, (rgCells zs)[j]? = some u → W.cell? ⟨g, j, none⟩ = some u := fun j u hj => (h.cellAt j (by have := (List.getElem?_eq_some_iff.1 hj).1; have := h.1; omega)).trans hj
    exact ⟨g, 0, rfl, by rw [Nat.zero_add]; exact hc _ _ k1, by rw [Nat.zero_add]; exact hc _ _ k2⟩
  · have : zs = [] := List.eq_nil_of_length_eq_zero (by omega)
    subst this
    rcases h.2 with ⟨rfl, _⟩ | ⟨g, cap, cur, rfl, hb, hg, _⟩
    · exact ⟨none, 0, rfl, fun i l h => by simp at h⟩
    · exact ⟨some ⟨g, 0, none⟩, cap, rfl, fun i l h => by simp at h⟩

/-- One link more behind the turned rack's own. -/
theorem app_link {bo : Nat} {W : World} {v : Value} {L : List Lk} (hO : W.ownsRow bo 91 3 v L.length (lkCells L)) (l : Lk) (B : Nat) (hB : Blk W B #[.int .i64 l.fr, .int .i64 l.to, .bool l.sr] 91) (hbo : bo ≤ W.heap.size) (hn : L.length ≤ 1000) :
    ∃ g c w2, (Builtin.append_ #[22, 22] 22 #[v, .slice (some ⟨B, 0, none⟩) 1 1]).run Tryd.prog W = .ok (.slice (some ⟨g, 0, none⟩) (L.length + 1) c) w2 ∧
      w2.ownsRow bo 91 3 (.slice (some ⟨g, 0, none⟩) (L.length + 1) c) (L.length + 1) (lkCells L ++ [.int .i64 l.fr, .int .i64 l.to, .bool l.sr]) ∧ W.grownBy w2 v.ownBlock := by
  obtain ⟨i91, hi91, hx0, hx1, hx2⟩ := info_parts info91t
  obtain ⟨g, cap, w', hr, ho, hgr, _, _⟩ := run_append_lies (P := Tryd.prog) (w := W) 22 22 bo 91 i91 (.agg #[.int .i64 0, .int .i64 0, .bool false]) 3 24 Tryd.underlying22 hi91 hx0 hx1 hx2 rfl (by decide) v L.length (lkCells L) hO ⟨B, 0, none⟩ 1 1 [.int .i64 l.fr, .int .i64 l.to, .bool l.sr] rfl (World.news_of_block (cs := #[.int .i64 l.fr, .int .i64 l.to, .bool l.sr]) hB) (by intro u hu; simp at hu; rcases hu with rfl | rfl | rfl <;> rfl) (by decide) (by unfold maxLen; omega) (by omega) hbo W.heap.size rfl
  exact ⟨g, cap, w', hr, ho, hgr⟩
/-- One range more. -/
theorem app_range {bo : Nat} {W : World} {v : Value} {L : List Rg} (hO : W.ownsRow bo 93 2 v L.length (rgCells L)) (b : Rg) (B : Nat) (hB : Blk W B #[.int .i64 b.lo, .int .i64 b.hi] 93) (hbo : bo ≤ W.heap.size) (hn : L.length ≤ 1000) :
    ∃ g c w2, (Builtin.append_ #[47, 47] 47 #[v, .slice (some ⟨B, 0, none⟩) 1 1]).run Tryd.prog W = .ok (.slice (some ⟨g, 0, none⟩) (L.length + 1) c) w2 ∧
      w2.ownsRow bo 93 2 (.slice (some ⟨g, 0, none⟩) (L.length + 1) c) (L.length + 1) (rgCells L ++ [.int .i64 b.lo, .int .i64 b.hi]) ∧ W.grownBy w2 v.ownBlock := by
  obtain ⟨i93, hi93, hx0, hx1, hx2⟩ := info_parts info93t
  obtain ⟨g, cap, w', hr, ho, hgr, _, _⟩ := run_append_lies (P := Tryd.prog) (w := W) 47 47 bo 93 i93 (.agg #[.int .i64 0, .int .i64 0]) 2 16 Tryd.underlying47 hi93 hx0 hx1 hx2 rfl (by decide) v L.length (rgCells L) hO ⟨B, 0, none⟩ 1 1 [.int .i64 b.lo, .int .i64 b.hi] rfl (World.news_of_block (cs := #[.int .i64 b.lo, .int .i64 b.hi]) hB) (by intro u hu; simp at hu; rcases hu with rfl | rfl <;> rfl) (by decide) (by unfold maxLen; omega) (by omega) hbo W.heap.size rfl
  exact ⟨g, cap, w', hr, ho, hgr⟩

end Go.Proofs.YtaloffdkadhhnaaDoor
