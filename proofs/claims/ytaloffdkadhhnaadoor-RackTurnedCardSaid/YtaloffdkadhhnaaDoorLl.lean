/- Lists of lists: how they lie in memory, and how they grow. -/
import Derived.Test.YtaloffdkadhhnaaDoorFw2
set_option linter.unusedVariables false
set_option linter.unusedSimpArgs false
namespace Go.Proofs.YtaloffdkadhhnaaDoor
open Go.RowKit

theorem info25 : (Tryd.prog.info? 25).map (fun i => (i.zero, i.size, i.bytes)) = some (some (.slice none 0 0), 1, 24) := by kernel_rfl
theorem info48 : (Tryd.prog.info? 48).map (fun i => (i.zero, i.size, i.bytes)) = some (some (.slice none 0 0), 1, 24) := by kernel_rfl

theorem add_pl (b o i : Nat) : (⟨b, o, none⟩ : Addr).add i = ⟨b, o + i, none⟩ := by unfold Addr.add; split <;> simp_all

/-- A row's elements, in blocks from base on. -/
def RowV (base : Nat) (W : World) (a : Option Addr) (l : List Value) : Prop := ∀ (j : Nat) (u : Value), l[j]? = some u → ∃ (g o : Nat), a = some ⟨g, o, none⟩ ∧ W.cell? ⟨g, o + j, none⟩ = some u ∧ base ≤ g
theorem RowV.lo {base : Nat} {W W' : World} {a : Option Addr} {l : List Value} (h : RowV base W a l) (hb : Below W.heap.size W W') : RowV base W' a l := fun j u hu => by
  obtain ⟨g, o, e, h1, h2⟩ := h j u hu
  exact ⟨g, o, e, cell_lo hb h1, h2⟩
theorem RowV.mono {base base' : Nat} {W : World} {a : Option Addr} {l : List Value} (h : RowV base W a l) (hb : base' ≤ base) : RowV base' W a l := fun j u hu => by
  obtain ⟨g, o, e, h1, h2⟩ := h j u hu
  exact ⟨g, o, e, h1, by omega⟩
theorem RowV.ints {base : Nat} {W : World} {a : Option Addr} {xs : List Int} (h : RowV base W a (xs.map (Value.int .i64))) : IntsAt W a xs := fun j x hx => by
  obtain ⟨g, o, e, h1, _⟩ := h j (.int .i64 x) (by rw [List.getElem?_map, hx]; rfl)
  exact ⟨g, o, e, h1⟩
theorem RowV.bools {base : Nat} {W : World} {a : Option Addr} {xs : List Bool} (h : RowV base W a (xs.map Value.bool)) : BoolsAt W a xs := fun j x hx => by
  obtain ⟨g, o, e, h1, _⟩ := h j (.bool x) (by rw [List.getElem?_map, hx]; rfl)
  exact ⟨g, o, e, h1⟩
theorem RowV.nil (base : Nat) (W : World) (a : Option Addr) : RowV base W a [] := fun j u h => by simp at h
theorem RowV.own {bo base n : Nat} {W : World} {a : Option Addr} {c : Nat} {e : TypeId} {l : List Value} (h : W.ownsRow bo e 1 (.slice a n c) n l) (hb : base ≤ bo) : RowV base W a l := fun j u hu => by
  rcases h.2 with ⟨h1, h2⟩ | ⟨g, cap, cur, h1, h2, _⟩
  · have := h.1
    have hl : l = [] := List.eq_nil_of_length_eq_zero (by omega)
    subst hl; simp at hu
  · simp only [Value.slice.injEq] at h1
    obtain ⟨rfl, _, _⟩ := h1
    have := h.cells (g := g) rfl j u hu
    rw [add_pl] at this
    exact ⟨g, 0, rfl, this, by omega⟩

/-- Rows that lie one behind the other. -/
def LLAt (base : Nat) (W : World) (a : Option Addr) (L : List (List Value)) : Prop := ∀ (i : Nat) (l : List Value), L[i]? = some l → ∃ (g o : Nat) (a' : Option Addr) (c' : Nat), a = some ⟨g, o, none⟩ ∧ W.cell? ⟨g, o + i, none⟩ = some (Value.slice a' l.length c') ∧ RowV base W a' l
theorem LLAt.lo {base : Nat} {W W' : World} {a : Option Addr} {L : List (List Value)} (h : LLAt base W a L) (hb : Below W.heap.size W W') : LLAt base W' a L := fun i l hl => by
  obtain ⟨g, o, a', c', e, h1, h2⟩ := h i l hl
  exact ⟨g, o, a', c', e, cell_lo hb h1, h2.lo hb⟩

/-- Heads of rows. -/
def RowsOk (base : Nat) (W : World) (ob : Option Nat) (L : List (List Value)) (hs : List Value) : Prop :=
  ∀ (i : Nat) (l : List Value), L[i]? = some l → ∃ (a : Option Addr) (c : Nat), hs[i]? = some (Value.slice a l.length c) ∧ ∀ (j : Nat) (u : Value), l[j]? = some u → ∃ g o, a = some ⟨g, o, none⟩ ∧ W.cell? ⟨g, o + j, none⟩ = some u ∧ base ≤ g ∧ ob ≠ some g
theorem RowsOk.lo {base : Nat} {W W' : World} {ob : Option Nat} {L : List (List Value)} {hs : List Value} (h : RowsOk base W ob L hs) (hb : Below W.heap.size W W') : RowsOk base W' ob L hs := fun i l hl => by
  obtain ⟨a, c, e1, e2⟩ := h i l hl
  exact ⟨a, c, e1, fun j u hu => by
    obtain ⟨g, o, x1, x2, x3, x4⟩ := e2 j u hu
    exact ⟨g, o, x1, cell_lo hb x2, x3, x4⟩⟩
theorem RowsOk.mono {base base' : Nat} {W : World} {ob : Option Nat} {L : List (List Value)} {hs : List Value} (h : RowsOk base W ob L hs) (hb : base' ≤ base) : RowsOk base' W ob L hs := fun i l hl => by
  obtain ⟨a, c, e1, e2⟩ := h i l hl
  exact ⟨a, c, e1, fun j u hu => by
    obtain ⟨g, o, x1, x2, x3, x4⟩ := e2 j u hu
    exact ⟨g, o, x1, x2, by omega, x4⟩⟩
theorem RowsOk.one {base : Nat} {W : World} {ob : Option Nat} {a : Option Addr} {c : Nat} {l : List Value} (h : RowV base W a l) (ho : ∀ k, ob = some k → ∀ g o, a = some ⟨g, o, none⟩ → k ≠ g) : RowsOk base W ob [l] [Value.slice a l.length c] := fun i l' hl => by
  cases i with
  | zero =>
    cases hl
    exact ⟨a, c, rfl, fun j u hu => by
      obtain ⟨g, o, e, h1, h2⟩ := h j u hu
      exact ⟨g, o, e, h1, h2, fun he => ho g he g o e rfl⟩⟩
  | succ i => simp at hl

/-- A list of lists in a block from bo on, that may grow; its rows lie from br on. -/
def OwnLL (e : TypeId) (bo br : Nat) (W : World) (v : Value) (L : List (List Value)) : Prop := ∃ hs, W.ownsRow bo e 1 v L.length hs ∧ RowsOk br W v.ownBlock L hs
theorem OwnLL.nil (e : TypeId) (bo br : Nat) (W : World) : OwnLL e bo br W (Value.slice none 0 0) [] := ⟨[], ⟨rfl, .inl ⟨rfl, rfl⟩⟩, fun i l h => by simp at h⟩
theorem OwnLL.lo {e : TypeId} {bo br : Nat} {W W' : World} {v : Value} {L : List (List Value)} (h : OwnLL e bo br W v L) (hb : Below W.heap.size W W') : OwnLL e bo br W' v L := by
  obtain ⟨hs, h1, h2⟩ := h
  exact ⟨hs, h1.kept (below_row hb) (by cases hk : v.ownBlock with | none => exact .inl rfl | some k => exact .inr (fun e => by cases e)), h2.lo hb⟩
theorem OwnLL.mono {e : TypeId} {bo br bo' br' : Nat} {W : World} {v : Value} {L : List (List Value)} (h : OwnLL e bo br W v L) (h1 : bo' ≤ bo) (h2 : br' ≤ br) : OwnLL e bo' br' W v L := by
  obtain ⟨hs, g1, g2⟩ := h
  exact ⟨hs, own_mono g1 h1, fun i l hl => by
    obtain ⟨a, c, e1, e2⟩ := g2 i l hl
    exact ⟨a, c, e1, fun j u hu => by
      obtain ⟨g, o, x1, x2, x3, x4⟩ := e2 j u hu
      exact ⟨g, o, x1, x2, by omega, x4⟩⟩⟩
theorem OwnLL.push {e : TypeId} {bo br : Nat} {W0 W1 : World} {v v' : Value} {L L' : List (List Value)} {hs hs' : List Value} (ho0 : W0.ownsRow bo e 1 v L.length hs) (hr : RowsOk br W0 v.ownBlock L hs) (hr' : RowsOk br W0 v.ownBlock L' hs')
    (hg : W0.grownBy W1 v.ownBlock) (ho : W1.ownsRow bo e 1 v' (L.length + L'.length) (hs ++ hs')) (hat : v'.ownBlock = v.ownBlock ∨ v'.ownBlock = some W0.heap.size) : OwnLL e bo br W1 v' (L ++ L') := by
  have hlen : hs.length = L.length := by have := ho0.1; omega
  have keep : ∀ g o u, W0.cell? ⟨g, o, none⟩ = some u → v.ownBlock ≠ some g → W1.cell? ⟨g, o, none⟩ = some u ∧ v'.ownBlock ≠ some g := fun g o u h hne => by
    have hlt : g < W0.heap.size := cell_lt h
    refine ⟨(hg.cell_far ⟨g, o, none⟩ hlt (Ne.symm hne)).trans h, ?_⟩
    rcases hat with e | e
    · rw [e]; exact hne
    · rw [e]; intro e'; cases e'; exact absurd hlt (Nat.lt_irrefl _)
  refine ⟨hs ++ hs', by rw [List.length_append]; exact ho, fun i l hl => ?_⟩
  by_cases hi : i < L.length
  · rw [List.getElem?_append_left hi] at hl
    obtain ⟨a, c, e1, e2⟩ := hr i l hl
    refine ⟨a, c, by rw [List.getElem?_append_left (by omega)]; exact e1, fun j u hu => ?_⟩
    obtain ⟨g, o, x1, x2, x3, x4⟩ := e2 j u hu
    have k := keep g (o + j) u x2 x4
    exact ⟨g, o, x1, k.1, x3, k.2⟩
  · rw [List.getElem?_append_right (by omega)] at hl
    obtain ⟨a, c, e1, e2⟩ := hr' _ l hl
    refine ⟨a, c, by rw [List.getElem?_append_right (by omega), hlen]; exact e1, fun j u hu => ?_⟩
    obtain ⟨g, o, x1, x2, x3, x4⟩ := e2 j u hu
    have k := keep g (o + j) u x2 x4
    exact ⟨g, o, x1, k.1, x3, k.2⟩
theorem OwnLL.out {e : TypeId} {bo br : Nat} {W : World} {v : Value} {L : List (List Value)} (h : OwnLL e bo br W v L) : ∃ a c, v = .slice a L.length c ∧ LLAt br W a L ∧ (∀ g o, a = some ⟨g, o, none⟩ → bo ≤ g ∧ g < W.heap.size) := by
  obtain ⟨hs, h1, h2⟩ := h
  have hlt := h1.lt
  rcases h1.2 with ⟨e1, e2⟩ | ⟨g, cap, cur, e1, e2, e3, e4⟩
  · refine ⟨none, 0, by rw [e1, e2], fun i l hl => ?_, fun g o e => by cases e⟩
    have : L = [] := List.eq_nil_of_length_eq_zero e2
    subst this; simp at hl
  · refine ⟨some ⟨g, 0, none⟩, cap, e1, fun i l hl => ?_, fun g' o e => ?_⟩
    · obtain ⟨a, c, x1, x2⟩ := h2 i l hl
      have := h1.cells (g := g) (by rw [e1]; rfl) i _ x1
      rw [add_pl] at this
      refine ⟨g, 0, a, c, rfl, this, fun j u hu => ?_⟩
      obtain ⟨g', o, y1, y2, y3, _⟩ := x2 j u hu
      exact ⟨g', o, y1, y2, y3⟩
    · cases e
      exact hlt g (by rw [e1]; rfl)

/-- The heads of rows that lie one behind the other. -/
theorem LLAt.heads {base : Nat} {W : World} {g o : Nat} {L : List (List Value)} (h : LLAt base W (some ⟨g, o, none⟩) L) (ob : Option Nat) (hob : ∀ k, base ≤ k → ob ≠ some k) :
    ∃ hs, hs.length = L.length * 1 ∧ (∀ j u, hs[j]? = some u → W.cell? ((⟨g, o, none⟩ : Addr).add j) = some u) ∧ (∀ u ∈ hs, u.oneCell' = true) ∧ RowsOk base W ob L hs := by
  have key : ∀ i, i < L.length → ∃ a c l, L[i]? = some l ∧ W.cell? ⟨g, o + i, none⟩ = some (Value.slice a l.length c) ∧ RowV base W a l := fun i hi => by
    obtain ⟨g', o', a, c, e, h1, h2⟩ := h i _ (List.getElem?_eq_getElem hi)
    cases e
    exact ⟨a, c, _, List.getElem?_eq_getElem hi, h1, h2⟩
  refine ⟨(List.range L.length).map fun i => (W.cell? ⟨g, o + i, none⟩).getD (.bool false), by simp, fun j u hu => ?_, fun u hu => ?_, fun i l hl => ?_⟩
  · rw [List.getElem?_map] at hu
    by_cases hj : j < L.length
    · rw [List.getElem?_range hj] at hu
      obtain ⟨a, c, l, _, h1, _⟩ := key j hj
      simp only [Option.map_some, h1, Option.getD_some, Option.some.injEq] at hu
      rw [add_pl, h1, hu]
    · rw [List.getElem?_eq_none (by simp; omega)] at hu; cases hu
  · obtain ⟨i, hi, rfl⟩ := List.mem_map.1 hu
    obtain ⟨a, c, l, _, h1, _⟩ := key i (List.mem_range.1 hi)
    rw [h1]; rfl
  · have hi : i < L.length := (List.getElem?_eq_some_iff.1 hl).1
    obtain ⟨a, c, l', e, h1, h2⟩ := key i hi
    rw [hl] at e; cases e
    refine ⟨a, c, by rw [List.getElem?_map, List.getElem?_range hi]; simp [h1], fun j u hu => ?_⟩
    obtain ⟨g', o', y1, y2, y3⟩ := h2 j u hu
    exact ⟨g', o', y1, y2, y3, hob g' y3⟩

/-- A list is copied behind an empty one of the call's own. -/
theorem app_copy (t e : TypeId) (i : TypeInfo) (z : Value) (bytes : Nat) (ht : Tryd.prog.underlying t = some (.slice e)) (hi : Tryd.prog.info? e = some i) (hz : i.zero = some z) (hs : i.size = 1) (hby : i.bytes = bytes) (hb8 : bytes ≤ 8) (hzs : z.cells.size = 1)
    (p : List Value) (h1 : ∀ u ∈ p, u.oneCell' = true) (a : Option Addr) (c base : Nat) (W : World) (g : Nat) (hB : Blk W g #[] e) (hg : base ≤ g) (hbase : base ≤ W.heap.size) (hp : RowV 0 W a p) (ha : a = none → p = [] ∧ c = 0) (hn : p.length ≤ 1000) :
    ∃ v1 w1, (Builtin.append_ #[t, t] t #[.slice (some ⟨g, 0, none⟩) 0 0, .slice a p.length c]).run Tryd.prog W = .ok v1 w1 ∧ w1.ownsRow base e 1 v1 p.length p ∧ W.grownBy w1 (some g) := by
  have HO : W.ownsRow base e 1 (.slice (some ⟨g, 0, none⟩) 0 0) 0 [] := ⟨rfl, .inr ⟨g, 0, #[], rfl, hg, hB, Nat.le_refl _, by unfold maxLen; omega, rfl, rfl⟩⟩
  cases a with
  | none =>
    obtain ⟨rfl, rfl⟩ := ha rfl
    refine ⟨.slice (some ⟨g, 0, none⟩) 0 0, W, ?_, HO, ⟨rfl, rfl, rfl, Nat.le_refl _, fun _ _ _ => rfl⟩⟩
    have hu := run_underlying (P := Tryd.prog) (w := W) ht
    simp [Builtin.append_, hu, sizeOf, typeInfo, hi, go_sem]
  | some ad =>
    have hnews : ∀ j u, p[j]? = some u → W.cell? (ad.add j) = some u := fun j u hj => by
      obtain ⟨g', o', e', hc, _⟩ := hp j u hj
      cases e'
      rw [add_pl]; exact hc
    obtain ⟨v', w', hr, ho, hgr, _, _⟩ := run_append_own_at (P := Tryd.prog) (w := W) base t t e i z 1 bytes ht hi hz hs hby hzs (by decide) (.slice (some ⟨g, 0, none⟩) 0 0) 0 [] HO ad p.length c p (by simp) hnews h1 (by unfold maxLen; omega) (by rw [Nat.zero_add]; exact Nat.le_trans (Nat.mul_le_mul hn hb8) (by decide)) hbase
    rw [Nat.zero_add, List.nil_append] at ho
    exact ⟨v', w', hr, ho, hgr⟩

/-- One element more. -/
theorem app_one (t e : TypeId) (i : TypeInfo) (z : Value) (bytes : Nat) (ht : Tryd.prog.underlying t = some (.slice e)) (hi : Tryd.prog.info? e = some i) (hz : i.zero = some z) (hs : i.size = 1) (hby : i.bytes = bytes) (hb8 : bytes ≤ 8) (hzs : z.cells.size = 1)
    (p : List Value) (u : Value) (h1 : u.oneCell' = true) (v : Value) (base : Nat) (W : World) (hO : W.ownsRow base e 1 v p.length p) (B : Nat) (hB : Blk W B #[u] e) (hbase : base ≤ W.heap.size) (hn : p.length ≤ 1000) :
    ∃ g c w2, (Builtin.append_ #[t, t] t #[v, .slice (some ⟨B, 0, none⟩) 1 1]).run Tryd.prog W = .ok (.slice (some ⟨g, 0, none⟩) (p.length + 1) c) w2 ∧ RowV base w2 (some ⟨g, 0, none⟩) (p ++ [u]) ∧ W.grownBy w2 v.ownBlock := by
  obtain ⟨g, cap, w', hr, ho, hgr, _, _⟩ := run_append_lies (P := Tryd.prog) (w := W) t t base e i z 1 bytes ht hi hz hs hby hzs (by decide) v p.length p hO ⟨B, 0, none⟩ 1 1 [u] rfl (World.news_of_block (cs := #[u]) hB) (by intro x hx; rw [List.mem_singleton.1 hx]; exact h1) (by decide) (by unfold maxLen; omega) (Nat.le_trans (Nat.mul_le_mul (show p.length + 1 ≤ 1001 by omega) hb8) (by decide)) hbase W.heap.size rfl
  exact ⟨g, cap, w', hr, RowV.own ho (Nat.le_refl _), hgr⟩

theorem below_grow {w W W' : World} {ob : Option Nat} (hB : Below w.heap.size w W) (hg : W.grownBy W' ob) (ho : ∀ k, ob = some k → w.heap.size ≤ k) : Below w.heap.size w W' := hB.grown hg hB.size ho

/-- A list with one element more, made anew: in the order of the text. -/
theorem copy_one (t e : TypeId) (i : TypeInfo) (z : Value) (bytes : Nat) (ht : Tryd.prog.underlying t = some (.slice e)) (hi : Tryd.prog.info? e = some i) (hz : i.zero = some z) (hs : i.size = 1) (hby : i.bytes = bytes) (hb8 : bytes ≤ 8) (hzs : z.cells.size = 1)
    (p : List Value) (h1 : ∀ u ∈ p, u.oneCell' = true) (u : Value) (h2 : u.oneCell' = true) (a : Option Addr) (c : Nat) (W : World) (hp : RowV 0 W a p) (ha : a = none → p = [] ∧ c = 0) (hn : p.length ≤ 1000) :
    ∃ v1 w1 g2 c2 w2, (Builtin.append_ #[t, t] t #[.slice (some ⟨W.heap.size, 0, none⟩) 0 0, .slice a p.length c]).run Tryd.prog (W.alloc (.cells #[] e)) = .ok v1 w1 ∧
      (Builtin.append_ #[t, t] t #[v1, .slice (some ⟨w1.heap.size, 0, none⟩) 1 1]).run Tryd.prog (w1.alloc (.cells #[u] e)) = .ok (.slice (some ⟨g2, 0, none⟩) (p.length + 1) c2) w2 ∧
      RowV W.heap.size w2 (some ⟨g2, 0, none⟩) (p ++ [u]) ∧ Below W.heap.size W w2 ∧ Below W.heap.size W w1 := by
  have bA := below_al W (.cells #[] e)
  obtain ⟨v1, w1, hr, ho, hg⟩ := app_copy t e i z bytes ht hi hz hs hby hb8 hzs p h1 a c W.heap.size (W.alloc (.cells #[] e)) W.heap.size (Blk.new W #[] e) (Nat.le_refl _) bA.size (hp.lo bA) ha hn
  have b1 := below_grow bA hg (fun k e => by cases e; exact Nat.le_refl _)
  have b2 := below_al2 b1 (.cells #[u] e)
  obtain ⟨g2, c2, w2, hr2, hR, hg2⟩ := app_one t e i z bytes ht hi hz hs hby hb8 hzs p u h2 v1 W.heap.size (w1.alloc (.cells #[u] e)) (ho.alloc _) w1.heap.size (Blk.new w1 _ _) b2.size hn
  exact ⟨v1, w1, g2, c2, w2, hr, hr2, hR, below_grow b2 hg2 (fun k e => (ho.lt k e).1), b1⟩
/-- The new element is made ahead of the copy. -/
theorem copy_one2 (t e : TypeId) (i : TypeInfo) (z : Value) (bytes : Nat) (ht : Tryd.prog.underlying t = some (.slice e)) (hi : Tryd.prog.info? e = some i) (hz : i.zero = some z) (hs : i.size = 1) (hby : i.bytes = bytes) (hb8 : bytes ≤ 8) (hzs : z.cells.size = 1)
    (p : List Value) (h1 : ∀ u ∈ p, u.oneCell' = true) (u : Value) (h2 : u.oneCell' = true) (a : Option Addr) (c : Nat) (W W2 : World) (gE gU : Nat) (hE : Blk W2 gE #[] e) (hU : Blk W2 gU #[u] e) (hne : gE ≠ gU) (hgE : W.heap.size ≤ gE) (hB : Below W.heap.size W W2) (hp : RowV 0 W a p) (ha : a = none → p = [] ∧ c = 0) (hn : p.length ≤ 1000) :
    ∃ v1 w1 g2 c2 w2, (Builtin.append_ #[t, t] t #[.slice (some ⟨gE, 0, none⟩) 0 0, .slice a p.length c]).run Tryd.prog W2 = .ok v1 w1 ∧
      (Builtin.append_ #[t, t] t #[v1, .slice (some ⟨gU, 0, none⟩) 1 1]).run Tryd.prog w1 = .ok (.slice (some ⟨g2, 0, none⟩) (p.length + 1) c2) w2 ∧
      RowV W.heap.size w2 (some ⟨g2, 0, none⟩) (p ++ [u]) ∧ Below W.heap.size W w2 ∧ Below W.heap.size W w1 := by
  obtain ⟨v1, w1, hr, ho, hg⟩ := app_copy t e i z bytes ht hi hz hs hby hb8 hzs p h1 a c W.heap.size W2 gE hE hgE hB.size (hp.lo hB) ha hn
  have b1 := below_grow hB hg (fun k e => by cases e; exact hgE)
  have hU1 : Blk w1 gU #[u] e := (hg.block gU hU.lt (fun e => hne (by cases e; rfl))).trans hU
  obtain ⟨g2, c2, w2, hr2, hR, hg2⟩ := app_one t e i z bytes ht hi hz hs hby hb8 hzs p u h2 v1 W.heap.size w1 ho gU hU1 b1.size hn
  exact ⟨v1, w1, g2, c2, w2, hr, hr2, hR, below_grow b1 hg2 (fun k e => (ho.lt k e).1), b1⟩

/-- An append whose run is known: at the operation, and where it stands in a region. -/
theorem wp_run2 {P : Program} {o : Oper} {a : Act} {w : World} {K : Act → World → Prop} {Q : Exit → Act → World → Prop} (s x : Operand) (t : TypeId)
    (ho : o.op = .call { callee := .builtin .append, args := #[s, x], argTypes := #[t, t] }) (v1 v2 v' : Value) (w' : World) (hs : a.eval s = v1) (hx : a.eval x = v2)
    (hr : (Builtin.append_ #[t, t] o.type #[v1, v2]).run P w = .ok v' w') (h : K (a.put o.dst v') w') : o.wp P a w K Q := by
  unfold Oper.wp execOp
  simp only [ho, resolve, invoke, builtin, Sem.run_bind, Sem.run_pure, Result.andThen_ok, List.map_toArray, List.map_cons, List.map_nil, hs, hx, hr]
  exact h
theorem wpList_run2 {P : Program} {ops : Array Oper} {rest : List Oper} {o : Oper} {a : Act} {w : World} {Q : Exit → Act → World → Prop} (hgd : o.guard = none) (s x : Operand) (t : TypeId)
    (ho : o.op = .call { callee := .builtin .append, args := #[s, x], argTypes := #[t, t] }) (v1 v2 v' : Value) (w' : World) (hs : a.eval s = v1) (hx : a.eval x = v2)
    (hr : (Builtin.append_ #[t, t] o.type #[v1, v2]).run P w = .ok v' w') (h : wpList P ops Q rest (a.put o.dst v') w') : wpList P ops Q (o :: rest) a w :=
  wpList_plain hgd fun K hK => wp_run2 s x t ho v1 v2 v' w' hs hx hr (hK _ _ h)
theorem step_run2 {P : Program} {ops : Array Oper} {o : Oper} {a : Act} {w : World} {K : Act → World → Prop} {Q : Exit → Act → World → Prop} {E : Prop} (hgd : o.guard = none) (s x : Operand) (t : TypeId)
    (ho : o.op = .call { callee := .builtin .append, args := #[s, x], argTypes := #[t, t] }) (v1 v2 v' : Value) (w' : World) (hs : a.eval s = v1) (hx : a.eval x = v2)
    (hr : (Builtin.append_ #[t, t] o.type #[v1, v2]).run P w = .ok v' w') (h : K (a.put o.dst v') w') : if Region.wanted o (yielded ops a.tmps) = true then Oper.wp P o a w K Q else E := by
  have hw : Region.wanted o (yielded ops a.tmps) = true := by simp [Region.wanted, hgd]
  rw [if_pos hw]
  exact wp_run2 s x t ho v1 v2 v' w' hs hx hr h

theorem step_run3 {P : Program} {t ty : TypeId} {v1 v2 v' : Value} {w w' : World} (hr : (Builtin.append_ #[t, t] ty #[v1, v2]).run P w = .ok v' w') {ops : Array Oper} {o : Oper} {a : Act} {K : Act → World → Prop} {Q : Exit → Act → World → Prop} {E : Prop} (s x : Operand) (hgd : o.guard = none)
    (ho : o.op = .call { callee := .builtin .append, args := #[s, x], argTypes := #[t, t] }) (hty : o.type = ty) (hs : a.eval s = v1) (hx : a.eval x = v2) (h : K (a.put o.dst v') w') : if Region.wanted o (yielded ops a.tmps) = true then Oper.wp P o a w K Q else E := by
  subst hty
  exact step_run2 hgd s x t ho v1 v2 v' w' hs hx hr h

theorem step_run4 {P : Program} {t ty : TypeId} {v1 v2 v' : Value} {w w' : World} (hr : (Builtin.append_ #[t, t] ty #[v1, v2]).run P w = .ok v' w') {ops : Array Oper} {d : Option Tmp} {s x : Operand} {p : String} {af : Array Edge} {a : Act} {K : Act → World → Prop} {Q : Exit → Act → World → Prop} {E : Prop}
    (hs : a.eval s = v1) (hx : a.eval x = v2) (h : K (a.put d v') w') : if Region.wanted { dst := d, op := .call { callee := .builtin .append, args := #[s, x], argTypes := #[t, t] }, type := ty, pos := p, after := af, guard := none } (yielded ops a.tmps) = true then Oper.wp P { dst := d, op := .call { callee := .builtin .append, args := #[s, x], argTypes := #[t, t] }, type := ty, pos := p, after := af, guard := none } a w K Q else E :=
  step_run2 rfl s x t rfl v1 v2 v' w' hs hx hr h

/-- A list with one element more, made anew, whatever is made first. -/
theorem orders3 (t e : TypeId) (i : TypeInfo) (z : Value) (bytes : Nat) (ht : Tryd.prog.underlying t = some (.slice e)) (hi : Tryd.prog.info? e = some i) (hz : i.zero = some z) (hs : i.size = 1) (hby : i.bytes = bytes) (hb8 : bytes ≤ 8) (hzs : z.cells.size = 1)
    (p : List Value) (h1 : ∀ u ∈ p, u.oneCell' = true) (u : Value) (h2 : u.oneCell' = true) (a : Option Addr) (c : Nat) (W : World) (hp : RowV 0 W a p) (ha : a = none → p = [] ∧ c = 0) (hn : p.length ≤ 1000) :
    (∃ v1 w1 g2 c2 w2, (Builtin.append_ #[t, t] t #[.slice (some ⟨W.heap.size, 0, none⟩) 0 0, .slice a p.length c]).run Tryd.prog (W.alloc (.cells #[] e)) = .ok v1 w1 ∧
      (Builtin.append_ #[t, t] t #[v1, .slice (some ⟨w1.heap.size, 0, none⟩) 1 1]).run Tryd.prog (w1.alloc (.cells #[u] e)) = .ok (.slice (some ⟨g2, 0, none⟩) (p.length + 1) c2) w2 ∧
      RowV W.heap.size w2 (some ⟨g2, 0, none⟩) (p ++ [u]) ∧ Below W.heap.size W w2 ∧ Below W.heap.size W w1) ∧
    (∃ v1 w1 g2 c2 w2, (Builtin.append_ #[t, t] t #[.slice (some ⟨W.heap.size, 0, none⟩) 0 0, .slice a p.length c]).run Tryd.prog ((W.alloc (.cells #[] e)).alloc (.cells #[u] e)) = .ok v1 w1 ∧
      (Builtin.append_ #[t, t] t #[v1, .slice (some ⟨W.heap.size + 1, 0, none⟩) 1 1]).run Tryd.prog w1 = .ok (.slice (some ⟨g2, 0, none⟩) (p.length + 1) c2) w2 ∧
      RowV W.heap.size w2 (some ⟨g2, 0, none⟩) (p ++ [u]) ∧ Below W.heap.size W w2 ∧ Below W.heap.size W w1) ∧
    (∃ v1 w1 g2 c2 w2, (Builtin.append_ #[t, t] t #[.slice (some ⟨W.heap.size + 1, 0, none⟩) 0 0, .slice a p.length c]).run Tryd.prog ((W.alloc (.cells #[u] e)).alloc (.cells #[] e)) = .ok v1 w1 ∧
      (Builtin.append_ #[t, t] t #[v1, .slice (some ⟨W.heap.size, 0, none⟩) 1 1]).run Tryd.prog w1 = .ok (.slice (some ⟨g2, 0, none⟩) (p.length + 1) c2) w2 ∧
      RowV W.heap.size w2 (some ⟨g2, 0, none⟩) (p ++ [u]) ∧ Below W.heap.size W w2 ∧ Below W.heap.size W w1) := by
  have nw : ∀ (o o' : Array Value), Blk ((W.alloc (.cells o e)).alloc (.cells o' e)) W.heap.size o e ∧ Blk ((W.alloc (.cells o e)).alloc (.cells o' e)) (W.heap.size + 1) o' e ∧ Below W.heap.size W ((W.alloc (.cells o e)).alloc (.cells o' e)) := fun o o' => by
    refine ⟨Blk.alt (p := fun _ => False) (Blk.new W _ _) ((Alt.refl _ _).alloc _) id, ?_, below_al2 (below_al W _) _⟩
    have := Blk.new (W.alloc (.cells o e)) o' e
    rwa [World.size_alloc] at this
  refine ⟨copy_one t e i z bytes ht hi hz hs hby hb8 hzs p h1 u h2 a c W hp ha hn, ?_, ?_⟩
  · obtain ⟨n1, n2, n3⟩ := nw #[] #[u]
    exact copy_one2 t e i z bytes ht hi hz hs hby hb8 hzs p h1 u h2 a c W _ W.heap.size (W.heap.size + 1) n1 n2 (by omega) (Nat.le_refl _) n3 hp ha hn
  · obtain ⟨n1, n2, n3⟩ := nw #[u] #[]
    exact copy_one2 t e i z bytes ht hi hz hs hby hb8 hzs p h1 u h2 a c W _ (W.heap.size + 1) W.heap.size n2 n1 (by omega) (by omega) n3 hp ha hn

/-- Rows behind rows. -/
theorem app_rows (t e : TypeId) (i : TypeInfo) (ht : Tryd.prog.underlying t = some (.slice e)) (hi : Tryd.prog.info? e = some i) (hz : i.zero = some (.slice none 0 0)) (hs : i.size = 1) (hby : i.bytes = 24)
    {bo br b3 : Nat} {w Wr W : World} {v v3 : Value} {L L' : List (List Value)} (hO : OwnLL e bo br Wr v L) (hb : Below Wr.heap.size Wr W) (hO3 : OwnLL e b3 Wr.heap.size W v3 L') (hne : L' ≠ []) (hbr : br ≤ Wr.heap.size) (hbo : bo ≤ W.heap.size)
    (hlen : L.length + L'.length ≤ 1000000) (hB : Below w.heap.size w W) (hw : w.heap.size ≤ bo) :
    ∃ v4 w4, (Builtin.append_ #[t, t] t #[v, v3]).run Tryd.prog W = .ok v4 w4 ∧ OwnLL e bo br w4 v4 (L ++ L') ∧ Below w.heap.size w w4 := by
  obtain ⟨hs0, ho, hr⟩ := hO.lo hb
  obtain ⟨hsW, hoW, _⟩ := hO
  obtain ⟨a3, c3, rfl, hL3, _⟩ := hO3.out
  obtain ⟨l0, hl0⟩ : ∃ l, L'[0]? = some l := by
    cases hL : L' with
    | nil => exact absurd hL hne
    | cons x y => exact ⟨x, rfl⟩
  obtain ⟨g3, o3, _, _, rfl, _⟩ := hL3 0 l0 hl0
  obtain ⟨hs', x1, x2, x3, x4⟩ := hL3.heads v.ownBlock (fun k hk e => by have := (hoW.lt k e).2; omega)
  obtain ⟨v4, w4, hr4, ho4, hg4, _, hat⟩ := run_append_own_at (P := Tryd.prog) (w := W) bo t t e i (.slice none 0 0) 1 24 ht hi hz hs hby rfl (by decide) v L.length hs0 ho ⟨g3, o3, none⟩ L'.length c3 hs' x1 x2 x3 (by unfold maxLen; omega) (Nat.le_trans (Nat.mul_le_mul hlen (Nat.le_refl 24)) (by decide)) hbo
  exact ⟨v4, w4, hr4, OwnLL.push ho hr (x4.mono hbr) hg4 ho4 hat, below_grow hB hg4 (fun k e => Nat.le_trans hw (ho.lt k e).1)⟩

end Go.Proofs.YtaloffdkadhhnaaDoor
