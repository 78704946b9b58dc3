/- The walk of RackWider. -/
import Derived.Test.YtaloffdkadhhnaaDoorWd
import Derived.Test.YtaloffdkadhhnaaDoorWtr
import Derived.Test.YtaloffdkadhhnaaDoorWcv
import Derived.Test.YtaloffdkadhhnaaDoorGl
import Derived.Deep.CutBlock
set_option linter.unusedVariables false
set_option linter.unusedSimpArgs false
namespace Go.Proofs.YtaloffdkadhhnaaDoor
open Go.RowKit

attribute [local go_sem] Oper.semAt_some

theorem info93 : (Tryd.prog.info? 93).map (fun i => (i.zero, i.size, i.bytes)) = some (some (.agg #[.int .i64 0, .int .i64 0]), 2, 16) := by kernel_rfl
theorem info91 : (Tryd.prog.info? 91).map (fun i => (i.zero, i.size, i.bytes)) = some (some (.agg #[.int .i64 0, .int .i64 0, .bool false]), 3, 24) := by kernel_rfl

/-- Where RackWider stands. -/
structure RW (r : Rk) (q : Lk) (w W : World) : Prop where
  st : St r w W
  bQ : Blk W (w.heap.size + 1) #[.int .i64 q.fr, .int .i64 q.to, .bool q.sr] 91
theorem RW.start (r : Rk) (q : Lk) (w : World) : RW r q w ((w.alloc (.cells (rCells r) 24)).alloc (.cells #[.int .i64 q.fr, .int .i64 q.to, .bool q.sr] 91)) :=
  ⟨⟨below_al2 (below_al w _) _, Blk.alt (p := fun _ => False) (Blk.new w _ _) ((Alt.refl _ _).alloc _) id⟩, by have := Blk.new (w.alloc (.cells (rCells r) 24)) #[.int .i64 q.fr, .int .i64 q.to, .bool q.sr] 91; rwa [World.size_alloc] at this⟩
theorem RW.go {r : Rk} {q : Lk} {w W W' : World} (h : RW r q w W) (hb : Below W.heap.size W W') : RW r q w W' :=
  ⟨h.st.go hb, Blk.alt h.bQ (Alt.of_below (p := fun k => W.heap.size ≤ k) hb (fun k _ e => e)) (by have := h.bQ.lt; omega)⟩
/-- .. with the rack x, and its own ball. -/
structure RX (r : Rk) (q : Lk) (gX : Nat) (x : Rk) (gO : Nat) (cur : Array Value) (w W : World) : Prop where
  s : RW r q w W
  bX : Blk W gX (rCells x) 24
  bO : Blk W gO cur 93
  hg : w.heap.size + 1 < gX ∧ w.heap.size + 1 < gO ∧ gX ≠ gO
theorem RX.go {r x : Rk} {q : Lk} {gX gO : Nat} {cur : Array Value} {w W W' : World} (h : RX r q gX x gO cur w W) (hb : Below W.heap.size W W') : RX r q gX x gO cur w W' :=
  ⟨h.s.go hb, Blk.alt h.bX (Alt.of_below (p := fun k => W.heap.size ≤ k) hb (fun k _ e => e)) (by have := h.bX.lt; omega), Blk.alt h.bO (Alt.of_below (p := fun k => W.heap.size ≤ k) hb (fun k _ e => e)) (by have := h.bO.lt; omega), h.hg⟩
theorem blk_set5 {W : World} {b : Nat} {a0 a1 a2 a3 a4 v0 v1 v2 v3 v4 : Value} {t : TypeId} (h : Blk W b #[a0, a1, a2, a3, a4] t) : Blk (((((W.setCell ⟨b, 0, none⟩ v0).setCell ⟨b, 1, none⟩ v1).setCell ⟨b, 2, none⟩ v2).setCell ⟨b, 3, none⟩ v3).setCell ⟨b, 4, none⟩ v4) b #[v0, v1, v2, v3, v4] t :=
  ((((h.setAt 0 v0).setAt 1 v1).setAt 2 v2).setAt 3 v3).setAt 4 v4
theorem alt_set5 {W : World} {b : Nat} {v0 v1 v2 v3 v4 : Value} : Alt (fun k => k = b) W (((((W.setCell ⟨b, 0, none⟩ v0).setCell ⟨b, 1, none⟩ v1).setCell ⟨b, 2, none⟩ v2).setCell ⟨b, 3, none⟩ v3).setCell ⟨b, 4, none⟩ v4) :=
  (((((Alt.refl (fun k => k = b) W).setCell (q := ⟨b, 0, none⟩) rfl _).setCell (q := ⟨b, 1, none⟩) rfl _).setCell (q := ⟨b, 2, none⟩) rfl _).setCell (q := ⟨b, 3, none⟩) rfl _).setCell (q := ⟨b, 4, none⟩) rfl _
theorem RW.alt {r : Rk} {q : Lk} {w W W' : World} {g : Nat} (h : RW r q w W) (ha : Alt (fun k => k = g) W W') (hg : w.heap.size + 1 < g) : RW r q w W' :=
  ⟨⟨((Alt.of_below (p := fun k => w.heap.size ≤ k) h.st.bl (fun k _ e => e)).trans (ha.mono fun k _ e => by omega)).below (Nat.le_refl _) fun k e => e, Blk.alt h.st.bK ha (by omega)⟩, Blk.alt h.bQ ha (by omega)⟩
theorem RW.set5 {r : Rk} {q : Lk} {w W : World} {gX : Nat} {v0 v1 v2 v3 v4 : Value} (h : RW r q w W) (hg : w.heap.size + 1 < gX) : RW r q w (((((W.setCell ⟨gX, 0, none⟩ v0).setCell ⟨gX, 1, none⟩ v1).setCell ⟨gX, 2, none⟩ v2).setCell ⟨gX, 3, none⟩ v3).setCell ⟨gX, 4, none⟩ v4) := h.alt alt_set5 hg
theorem own_blk {W : World} {base : Nat} {e : TypeId} {size n : Nat} {g cap : Nat} {xs : List Value} (h : W.ownsRow base e size (.slice (some ⟨g, 0, none⟩) n cap) n xs) : ∃ cur, Blk W g cur e ∧ base ≤ g ∧ cur.toList.take (n * size) = xs ∧ n * size ≤ cur.size := by
  rcases h.2 with ⟨h1, _⟩ | ⟨g', cap', cur, h1, h2, h3, h4, h5, h6, h7⟩
  · simp at h1
  · cases h1
    exact ⟨cur, h3, h2, h7, by rw [h6]; exact Nat.mul_le_mul_right _ h4⟩

theorem RX.mkC {r : Rk} {q : Lk} {w wA : World} {B gA n capA : Nat} {cs : List Value} (SW : RW r q w wA) (ho : wA.ownsRow B 93 2 (.slice (some ⟨gA, 0, none⟩) n capA) n cs) (hB : w.heap.size + 1 < B) :
    ∃ cur, RX r q wA.heap.size r gA cur w (wA.alloc (.cells (rCells r) 24)) ∧ cur.toList.take (n * 2) = cs ∧ n * 2 ≤ cur.size := by
  obtain ⟨cur, h1, h2, h3, h4⟩ := own_blk ho
  have hlt := h1.lt
  have := SW.bQ.lt
  exact ⟨cur, ⟨SW.go (below_al _ _), Blk.new _ _ _, Blk.alt (p := fun _ => False) h1 ((Alt.refl _ _).alloc _) id, by omega, by omega, by omega⟩, h3, h4⟩
theorem RX.mkS {r : Rk} {q : Lk} {w wA : World} {B gX gA n capA : Nat} {cs : List Value} {a0 a1 a2 a3 a4 : Value} (SW : RW r q w wA) (XB : Blk wA gX #[a0, a1, a2, a3, a4] 24) (ho : wA.ownsRow B 93 2 (.slice (some ⟨gA, 0, none⟩) n capA) n cs) (hB : w.heap.size + 1 < B) (hX : w.heap.size + 1 < gX) (hne : gX ≠ gA) :
    ∃ cur, RX r q gX r gA cur w (((((wA.setCell ⟨gX, 0, none⟩ (.int .i64 r.rows)).setCell ⟨gX, 1, none⟩ (.int .i64 r.mid)).setCell ⟨gX, 2, none⟩ (.int .i64 r.gap)).setCell ⟨gX, 3, none⟩ (.int .i64 r.reach)).setCell ⟨gX, 4, none⟩ (.slice r.la r.ls.length r.lc)) ∧ cur.toList.take (n * 2) = cs ∧ n * 2 ≤ cur.size := by
  obtain ⟨cur, h1, h2, h3, h4⟩ := own_blk ho
  exact ⟨cur, ⟨SW.set5 hX, blk_set5 XB, Blk.alt h1 alt_set5 (by omega), hX, by omega, hne⟩, h3, h4⟩
theorem rgCells_len : ∀ L : List Rg, (rgCells L).length = L.length * 2
  | [] => rfl
  | x :: L => by
    have e : rgCells (x :: L) = .int .i64 x.lo :: .int .i64 x.hi :: rgCells L := rfl
    rw [e, List.length_cons, List.length_cons, rgCells_len L, List.length_cons]; omega
theorem rgCells_one {L : List Rg} : ∀ v ∈ rgCells L, v.oneCell' = true := by
  intro v hv
  unfold rgCells at hv
  obtain ⟨b, _, hb⟩ := List.mem_flatMap.1 hv
  simp at hb
  rcases hb with rfl | rfl <;> rfl
/-- The cells of ranges that lie in a slice. -/
theorem rgs_cells {W : World} {a : Addr} {L : List Rg} (h : RgsAt W (some a) L) : ∀ j u, (rgCells L)[j]? = some u → W.cell? (a.add j) = some u := by
  intro j u hj
  have hlen := rgCells_len L
  have hjl := (List.getElem?_eq_some_iff.1 hj).1
  obtain ⟨b, hb⟩ : ∃ b, L[j / 2]? = some b := ⟨L[j / 2]'(by omega), List.getElem?_eq_getElem _⟩
  obtain ⟨g, o, e, h1, h2⟩ := h _ b hb
  cases e
  obtain ⟨c1, c2⟩ := rgCells_at L _ b hb
  have ea : (⟨g, o, none⟩ : Addr).add j = ⟨g, o + j, none⟩ := by unfold Addr.add; split <;> simp_all
  rw [ea]
  rcases Nat.mod_two_eq_zero_or_one j with hm | hm
  · have : j / 2 * 2 = j := by omega
    rw [this] at c1 h1
    rw [c1] at hj; cases hj; exact h1
  · have : j / 2 * 2 + 1 = j := by omega
    rw [this] at c2
    rw [Nat.add_assoc, this] at h2
    rw [c2] at hj; cases hj; exact h2

/-- What the four numbers and lists of the two racks have to do with each other. -/
def WOk (r x : Rk) (xs : List Int) (ball bl : List Rg) (bt : Bool) : Prop :=
  if bt = true then withinI (els (sureN r ball (setN xs))) (els (sureN x bl (setN xs))) = true ∧ lowN x bl (setN xs) xs.length ≤ topN x bl (setN xs) ∧ topN x bl (setN xs) ≤ topN r ball (setN xs)
  else withinI (els (sureN x bl (setN xs))) (els (sureN r ball (setN xs))) = true ∧ withinI (els (dif (setN xs) (stayN r ball (setN xs)))) (els (dif (setN xs) (stayN x bl (setN xs)))) = true ∧
    lowN x bl (setN xs) xs.length ≤ lowN r ball (setN xs) xs.length ∧ topN r ball (setN xs) ≤ topN x bl (setN xs)
/-- Behind the change. -/
structure WX (r : Rk) (q : Lk) (xs : List Int) (ball : List Rg) (bt : Bool) (gX gO : Nat) (w W : World) (x : Rk) (bl : List Rg) : Prop where
  s : RW r q w W
  bX : Blk W gX (rCells x) 24
  hl : LinksAt W x.la x.ls
  hg : RgsAt W (some ⟨gO, 0, none⟩) bl
  len : bl.length = ball.length
  n : x.ls.length ≤ 20
  gx : w.heap.size + 1 < gX
  ok : balE x xs bl = 0 → WOk r x xs ball bl bt
theorem WX.go {r : Rk} {q : Lk} {xs : List Int} {ball bl : List Rg} {bt : Bool} {gX gO : Nat} {w W W' : World} {x : Rk} (h : WX r q xs ball bt gX gO w W x bl) (hb : Below W.heap.size W W') : WX r q xs ball bt gX gO w W' x bl :=
  ⟨h.s.go hb, Blk.alt h.bX (Alt.of_below (p := fun k => W.heap.size ≤ k) hb (fun k _ e => e)) (by have := h.bX.lt; omega), h.hl.lo hb, h.hg.lower hb, h.len, h.n, h.gx, h.ok⟩
theorem WX.cx {r : Rk} {q : Lk} {xs : List Int} {ball bl : List Rg} {bt : Bool} {gX gO : Nat} {w W : World} {x : Rk} (h : WX r q xs ball bt gX gO w W x bl) :
    W.cell? ⟨gX, 0, none⟩ = some (.int .i64 x.rows) ∧ W.cell? ⟨gX, 1, none⟩ = some (.int .i64 x.mid) ∧ W.cell? ⟨gX, 2, none⟩ = some (.int .i64 x.gap) ∧ W.cell? ⟨gX, 3, none⟩ = some (.int .i64 x.reach) ∧ W.cell? ⟨gX, 4, none⟩ = some (.slice x.la x.ls.length x.lc) :=
  ⟨h.bX.cell 0 rfl, h.bX.cell 1 rfl, h.bX.cell 2 rfl, h.bX.cell 3 rfl, h.bX.cell 4 rfl⟩
theorem Blk.go2 {W W' : World} {b : Nat} {cs : Array Value} {t : TypeId} (h : Blk W b cs t) (hb : Below W.heap.size W W') : Blk W' b cs t :=
  Blk.alt h (Alt.of_below (p := fun k => W.heap.size ≤ k) hb (fun k _ e => e)) (by have := h.lt; omega)
theorem rgs_blk {W : World} {g : Nat} {cur : Array Value} {L : List Rg} (h : Blk W g cur 93) (ht : cur.toList.take (L.length * 2) = rgCells L) : RgsAt W (some ⟨g, 0, none⟩) L := fun i b hb => by
  have hi := (List.getElem?_eq_some_iff.1 hb).1
  obtain ⟨c1, c2⟩ := rgCells_at L i b hb
  rw [← ht, List.getElem?_take] at c1 c2
  have e1 : i * 2 < L.length * 2 := by omega
  have e2 : i * 2 + 1 < L.length * 2 := by omega
  rw [if_pos e1] at c1
  rw [if_pos e2] at c2
  refine ⟨g, 0, rfl, h.cell _ ?_, h.cell _ ?_⟩
  · rw [Nat.zero_add]; simpa using c1
  · rw [Nat.zero_add]; simpa using c2
theorem links_blk2 {W : World} {g : Nat} {cur : Array Value} {L : List Lk} (h : Blk W g cur 91) (ht : cur.toList.take (L.length * 3) = lkCells L) : LinksAt W (some ⟨g, 0, none⟩) L := fun i b hb => by
  have hi := (List.getElem?_eq_some_iff.1 hb).1
  obtain ⟨c1, c2, c3⟩ := lkCells_at L i b hb
  rw [← ht, List.getElem?_take] at c1 c2 c3
  rw [if_pos (show i * 3 < L.length * 3 by omega)] at c1
  rw [if_pos (show i * 3 + 1 < L.length * 3 by omega)] at c2
  rw [if_pos (show i * 3 + 2 < L.length * 3 by omega)] at c3
  refine ⟨g, 0, rfl, h.cell _ ?_, h.cell _ ?_, h.cell _ ?_⟩
  · rw [Nat.zero_add]; simpa using c1
  · rw [Nat.zero_add]; simpa using c2
  · rw [Nat.zero_add]; simpa using c3
theorem take_set {cur : Array Value} {n i : Nat} {v : Value} {cs : List Value} (h : cur.toList.take n = cs) : (cur.setIfInBounds i v).toList.take n = cs.set i v := by
  rw [Array.toList_setIfInBounds, List.take_set, h]
theorem lkCells_set : ∀ (L : List Lk) (k : Nat) (q : Lk), L[k]? = some q → (lkCells L).set (k * 3 + 2) (.bool true) = lkCells (L.set k { q with sr := true })
  | x :: L, 0, q, h => by simp at h; subst h; rfl
  | x :: L, k + 1, q, h => by
    have ih := lkCells_set L k q (by simpa using h)
    show (.int .i64 x.fr :: .int .i64 x.to :: .bool x.sr :: lkCells L : List Value).set ((k + 1) * 3 + 2) (.bool true) = .int .i64 x.fr :: .int .i64 x.to :: .bool x.sr :: lkCells (L.set k { q with sr := true })
    rw [← ih, show (k + 1) * 3 + 2 = k * 3 + 2 + 1 + 1 + 1 by omega]
    rfl
theorem rgCells_set : ∀ (L : List Rg) (k : Nat) (b b' : Rg), L[k]? = some b → ((rgCells L).set (k * 2) (.int .i64 b'.lo)).set (k * 2 + 1) (.int .i64 b'.hi) = rgCells (L.set k b')
  | x :: L, 0, b, b', h => rfl
  | x :: L, k + 1, b, b', h => by
    have ih := rgCells_set L k b b' (by simpa using h)
    show ((.int .i64 x.lo :: .int .i64 x.hi :: rgCells L : List Value).set ((k + 1) * 2) (.int .i64 b'.lo)).set ((k + 1) * 2 + 1) (.int .i64 b'.hi) = .int .i64 x.lo :: .int .i64 x.hi :: rgCells (L.set k b')
    rw [← ih, show (k + 1) * 2 = k * 2 + 1 + 1 by omega]
    rfl
theorem lkCells_len : ∀ L : List Lk, (lkCells L).length = L.length * 3
  | [] => rfl
  | x :: L => by
    have e : lkCells (x :: L) = .int .i64 x.fr :: .int .i64 x.to :: .bool x.sr :: lkCells L := rfl
    rw [e, List.length_cons, List.length_cons, List.length_cons, lkCells_len L, List.length_cons]; omega
theorem lkCells_one {L : List Lk} : ∀ v ∈ lkCells L, v.oneCell' = true := by
  intro v hv
  unfold lkCells at hv
  obtain ⟨b, _, hb⟩ := List.mem_flatMap.1 hv
  simp at hb
  rcases hb with rfl | rfl | rfl <;> rfl
theorem links_cells {W : World} {a : Addr} {L : List Lk} (h : LinksAt W (some a) L) : ∀ j u, (lkCells L)[j]? = some u → W.cell? (a.add j) = some u := by
  intro j u hj
  have hlen := lkCells_len L
  have hjl := (List.getElem?_eq_some_iff.1 hj).1
  obtain ⟨b, hb⟩ : ∃ b, L[j / 3]? = some b := ⟨L[j / 3]'(by omega), List.getElem?_eq_getElem _⟩
  obtain ⟨g, o, e, h1, h2, h3⟩ := h _ b hb
  cases e
  obtain ⟨c1, c2, c3⟩ := lkCells_at L _ b hb
  have ea : (⟨g, o, none⟩ : Addr).add j = ⟨g, o + j, none⟩ := by unfold Addr.add; split <;> simp_all
  rw [ea]
  have hm : j % 3 = 0 ∨ j % 3 = 1 ∨ j % 3 = 2 := by omega
  rcases hm with hm | hm | hm
  · have : j / 3 * 3 = j := by omega
    rw [this] at c1 h1
    rw [c1] at hj; cases hj; exact h1
  · have : j / 3 * 3 + 1 = j := by omega
    rw [this] at c2
    rw [Nat.add_assoc, this] at h2
    rw [c2] at hj; cases hj; exact h2
  · have : j / 3 * 3 + 2 = j := by omega
    rw [this] at c3
    rw [Nat.add_assoc, this] at h3
    rw [c3] at hj; cases hj; exact h3

/-- Links copied behind an empty list of the call's own. -/
theorem run_copy_links (L : List Lk) (a : Option Addr) (c : Nat) (W : World) (hL : LinksAt W a L) (hn : L.length ≤ 1000) :
    ∃ g cap w' cur, (Builtin.append_ #[22, 22] 22 #[.slice (some ⟨W.heap.size, 0, none⟩) 0 0, .slice a L.length c]).run Tryd.prog (W.alloc (.cells #[] 91)) = .ok (.slice (some ⟨g, 0, none⟩) L.length cap) w' ∧
      Blk w' g cur 91 ∧ cur.toList.take (L.length * 3) = lkCells L ∧ (L.length ≤ cap ∧ cap ≤ maxLen ∧ cur.size = cap * 3) ∧ W.heap.size ≤ g ∧ Below W.heap.size W w' := by
  obtain ⟨i91, hi91, hx0, hx1, hx2⟩ := info_parts info91
  have EB : Blk (W.alloc (.cells #[] 91)) W.heap.size #[] 91 := Blk.new W #[] 91
  cases a with
  | none =>
    have : L = [] := by
      cases L with
      | nil => rfl
      | cons x L => obtain ⟨g, o, e, _⟩ := hL 0 x rfl; cases e
    subst this
    refine ⟨W.heap.size, 0, W.alloc (.cells #[] 91), #[], ?_, EB, rfl, ⟨Nat.le_refl _, by unfold maxLen; omega, rfl⟩, Nat.le_refl _, below_al _ _⟩
    have hu := run_underlying (P := Tryd.prog) (w := W.alloc (.cells #[] 91)) Tryd.underlying22
    simp [Builtin.append_, hu, sizeOf, typeInfo, hi91, go_sem]
  | some ad =>
    obtain ⟨v', w', hr, ho, hg, hnil, _⟩ := run_append_own_at (P := Tryd.prog) (w := W.alloc (.cells #[] 91)) W.heap.size 22 22 91 i91 (.agg #[.int .i64 0, .int .i64 0, .bool false]) 3 24 Tryd.underlying22 hi91 hx0 hx1 hx2 rfl (by decide) (.slice (some ⟨W.heap.size, 0, none⟩) 0 0) 0 [] ⟨rfl, .inr ⟨W.heap.size, 0, #[], rfl, Nat.le_refl _, EB, Nat.le_refl _, by unfold maxLen; omega, rfl, rfl⟩⟩ ad L.length c (lkCells L) (lkCells_len L) (links_cells (hL.lo (below_al _ _))) lkCells_one (by unfold maxLen; omega) (by omega) (by simp)
    rw [Nat.zero_add, List.nil_append] at ho
    have hne : v' ≠ .slice none 0 0 := fun e => by have := (hnil.1 e).1; cases this
    rcases ho.2 with ⟨h1, _⟩ | ⟨g, cap, cur, h1, h2, h3, h4, h5, h6, h7⟩
    · exact absurd h1 hne
    · subst h1
      exact ⟨g, cap, w', cur, hr, h3, h7, ⟨h4, h5, h6⟩, h2, (below_al W _).grown hg (by simp) (fun k e => by cases e; exact Nat.le_refl _)⟩

abbrev zop0 : Oper := { dst := some 34, op := Op.buildSlice 47 0 #[], type := 47, pos := "outright.go:125", after := #[], guard := none }
abbrev zop1 : Oper := { dst := some 36, op := Op.call { callee := Callee.builtin Builtin.append, args := #[Operand.tmp 34, Operand.tmp 35], argTypes := #[47, 47] }, type := 47, pos := "outright.go:125", after := #[{ on := 1, ground := Ground.data }, { on := 2, ground := Ground.data }], guard := none }
abbrev zop2 : Oper := { dst := some 13, op := Op.alloc 24, type := 0, pos := "outright.go:125", after := #[], guard := none }
abbrev zop3 : Oper := { dst := none, op := Op.store 24 (Operand.tmp 13) (Operand.tmp 33), type := 0, pos := "outright.go:125", after := #[{ on := 4, ground := Ground.data }, { on := 0, ground := Ground.data }, { on := 3, ground := Ground.chain }, { on := 0, ground := Ground.phase }, { on := 1, ground := Ground.textOnly Departure.lateStores }, { on := 2, ground := Ground.textOnly Departure.lateStores }, { on := 3, ground := Ground.textOnly Departure.lateStoresUnsure }, { on := 4, ground := Ground.phase }], guard := none }
abbrev zop4 : Oper := { dst := some 14, op := Op.assign (Operand.tmp 36), type := 47, pos := "outright.go:125", after := #[{ on := 3, ground := Ground.data }, { on := 5, ground := Ground.chain }, { on := 0, ground := Ground.phase }, { on := 1, ground := Ground.phase }, { on := 2, ground := Ground.phase }, { on := 3, ground := Ground.phase }, { on := 4, ground := Ground.phase }, { on := 5, ground := Ground.phase }], guard := none }
abbrev zop5 : Oper := { dst := some 61, op := Op.load 3 (Operand.tmp 60), type := 3, pos := "outright.go:131", after := #[{ on := 4, ground := Ground.data }], guard := none }
abbrev zop6 : Oper := { dst := some 66, op := Op.binOp BinOp.sub 3 (Operand.tmp 61) (Operand.tmp 65) 3, type := 3, pos := "outright.go:131", after := #[{ on := 5, ground := Ground.data }, { on := 9, ground := Ground.data }], guard := none }
abbrev zop7 : Oper := { dst := some 67, op := Op.call { callee := Callee.builtin Builtin.max, args := #[Operand.const (Value.int IntKind.i64 0), Operand.tmp 66], argTypes := #[3, 3] }, type := 3, pos := "outright.go:131", after := #[{ on := 10, ground := Ground.data }], guard := none }
abbrev zop8 : Oper := { dst := some 71, op := Op.load 3 (Operand.tmp 70), type := 3, pos := "outright.go:131", after := #[{ on := 14, ground := Ground.data }], guard := none }
abbrev zop9 : Oper := { dst := some 72, op := Op.binOp BinOp.add 3 (Operand.tmp 71) (Operand.const (Value.int IntKind.i64 1)) 3, type := 3, pos := "outright.go:131", after := #[{ on := 15, ground := Ground.data }], guard := none }
abbrev zop10 : Oper := { dst := some 74, op := Op.nilCheck (Operand.tmp 56), type := 0, pos := "outright.go:131", after := #[{ on := 0, ground := Ground.data }, { on := 0, ground := Ground.phase }, { on := 1, ground := Ground.textOnly Departure.lateStores }, { on := 2, ground := Ground.phase }, { on := 3, ground := Ground.phase }, { on := 4, ground := Ground.phase }, { on := 5, ground := Ground.phase }, { on := 6, ground := Ground.phase }, { on := 7, ground := Ground.phase }, { on := 8, ground := Ground.phase }, { on := 9, ground := Ground.phase }, { on := 10, ground := Ground.phase }, { on := 11, ground := Ground.phase }, { on := 12, ground := Ground.textOnly Departure.lateStores }, { on := 13, ground := Ground.textOnly Departure.lateStoresUnsure }, { on := 14, ground := Ground.textOnly Departure.lateStoresUnsure }, { on := 15, ground := Ground.phase }, { on := 16, ground := Ground.textOnly Departure.lateStoresUnsure }, { on := 17, ground := Ground.textOnly Departure.lateStoresUnsure }], guard := none }
abbrev zop11 : Oper := { dst := some 75, op := Op.fieldAddr 93 (Operand.tmp 74) 0, type := 0, pos := "outright.go:131", after := #[{ on := 18, ground := Ground.data }, { on := 0, ground := Ground.phase }, { on := 1, ground := Ground.textOnly Departure.lateStores }, { on := 2, ground := Ground.phase }, { on := 3, ground := Ground.phase }, { on := 4, ground := Ground.phase }, { on := 5, ground := Ground.phase }, { on := 6, ground := Ground.phase }, { on := 7, ground := Ground.phase }, { on := 8, ground := Ground.phase }, { on := 9, ground := Ground.phase }, { on := 10, ground := Ground.phase }, { on := 11, ground := Ground.phase }, { on := 12, ground := Ground.textOnly Departure.lateStores }, { on := 13, ground := Ground.textOnly Departure.lateStoresUnsure }, { on := 14, ground := Ground.textOnly Departure.lateStoresUnsure }, { on := 15, ground := Ground.phase }, { on := 16, ground := Ground.textOnly Departure.lateStoresUnsure }, { on := 17, ground := Ground.textOnly Departure.lateStoresUnsure }], guard := none }
abbrev zop12 : Oper := { dst := some 73, op := Op.call { callee := Callee.builtin Builtin.min, args := #[Operand.const (Value.int IntKind.i64 60), Operand.tmp 72], argTypes := #[3, 3] }, type := 3, pos := "outright.go:131", after := #[{ on := 16, ground := Ground.data }], guard := none }
abbrev zop13 : Oper := { dst := none, op := Op.store 3 (Operand.tmp 75) (Operand.tmp 67), type := 0, pos := "outright.go:131", after := #[{ on := 19, ground := Ground.data }, { on := 11, ground := Ground.data }, { on := 0, ground := Ground.phase }, { on := 1, ground := Ground.textOnly Departure.lateStores }, { on := 2, ground := Ground.phase }, { on := 3, ground := Ground.phase }, { on := 4, ground := Ground.phase }, { on := 5, ground := Ground.phase }, { on := 6, ground := Ground.phase }, { on := 7, ground := Ground.phase }, { on := 8, ground := Ground.phase }, { on := 9, ground := Ground.phase }, { on := 10, ground := Ground.phase }, { on := 11, ground := Ground.phase }, { on := 12, ground := Ground.textOnly Departure.lateStores }, { on := 13, ground := Ground.textOnly Departure.lateStoresUnsure }, { on := 14, ground := Ground.textOnly Departure.lateStoresUnsure }, { on := 15, ground := Ground.phase }, { on := 16, ground := Ground.textOnly Departure.lateStoresUnsure }, { on := 17, ground := Ground.textOnly Departure.lateStoresUnsure }], guard := none }
abbrev zop14 : Oper := { dst := some 76, op := Op.nilCheck (Operand.tmp 57), type := 0, pos := "outright.go:131", after := #[{ on := 1, ground := Ground.data }, { on := 0, ground := Ground.phase }, { on := 1, ground := Ground.phase }, { on := 2, ground := Ground.phase }, { on := 3, ground := Ground.phase }, { on := 4, ground := Ground.phase }, { on := 5, ground := Ground.phase }, { on := 6, ground := Ground.phase }, { on := 7, ground := Ground.phase }, { on := 8, ground := Ground.phase }, { on := 9, ground := Ground.phase }, { on := 10, ground := Ground.phase }, { on := 11, ground := Ground.phase }, { on := 12, ground := Ground.phase }, { on := 13, ground := Ground.phase }, { on := 14, ground := Ground.phase }, { on := 15, ground := Ground.phase }, { on := 16, ground := Ground.phase }, { on := 17, ground := Ground.phase }, { on := 18, ground := Ground.phase }, { on := 19, ground := Ground.phase }, { on := 20, ground := Ground.phase }], guard := none }
abbrev zop15 : Oper := { dst := some 77, op := Op.fieldAddr 93 (Operand.tmp 76) 1, type := 0, pos := "outright.go:131", after := #[{ on := 21, ground := Ground.data }, { on := 0, ground := Ground.phase }, { on := 1, ground := Ground.phase }, { on := 2, ground := Ground.phase }, { on := 3, ground := Ground.phase }, { on := 4, ground := Ground.phase }, { on := 5, ground := Ground.phase }, { on := 6, ground := Ground.phase }, { on := 7, ground := Ground.phase }, { on := 8, ground := Ground.phase }, { on := 9, ground := Ground.phase }, { on := 10, ground := Ground.phase }, { on := 11, ground := Ground.phase }, { on := 12, ground := Ground.phase }, { on := 13, ground := Ground.phase }, { on := 14, ground := Ground.phase }, { on := 15, ground := Ground.phase }, { on := 16, ground := Ground.phase }, { on := 17, ground := Ground.phase }, { on := 18, ground := Ground.phase }, { on := 19, ground := Ground.phase }, { on := 20, ground := Ground.phase }], guard := none }
abbrev zop16 : Oper := { dst := none, op := Op.store 3 (Operand.tmp 77) (Operand.tmp 73), type := 0, pos := "outright.go:131", after := #[{ on := 22, ground := Ground.data }, { on := 17, ground := Ground.data }, { on := 20, ground := Ground.chain }, { on := 0, ground := Ground.phase }, { on := 1, ground := Ground.phase }, { on := 2, ground := Ground.phase }, { on := 3, ground := Ground.phase }, { on := 4, ground := Ground.phase }, { on := 5, ground := Ground.phase }, { on := 6, ground := Ground.phase }, { on := 7, ground := Ground.phase }, { on := 8, ground := Ground.phase }, { on := 9, ground := Ground.phase }, { on := 10, ground := Ground.phase }, { on := 11, ground := Ground.phase }, { on := 12, ground := Ground.phase }, { on := 13, ground := Ground.phase }, { on := 14, ground := Ground.phase }, { on := 15, ground := Ground.phase }, { on := 16, ground := Ground.phase }, { on := 17, ground := Ground.phase }, { on := 18, ground := Ground.phase }, { on := 19, ground := Ground.phase }, { on := 20, ground := Ground.phase }], guard := none }

set_option maxRecDepth 100000 in
set_option maxHeartbeats 40000000 in
theorem rackWider_any (r : Rk) (xs : List Int) (a : Option Addr) (c : Nat) (ball : List Rg) (a2 : Option Addr) (c2 : Nat) (u v : Int) (q : Lk) (w : World)
    (hL : LinksAt w r.la r.ls) (hX : IntsAt w a xs) (hN : a = none → xs = [] ∧ c = 0) (hG : RgsAt w a2 ball) (hU : 0 ≤ u ∧ u < 256) (hV : 0 ≤ v ∧ v < 256) (hT : TabOK w) :
    Calls Tryd.prog 10 #[r.val, .slice a xs.length c, .slice a2 ball.length c2, .int .u8 u, .int .u8 v, q.val] w fun e w' => e = .returned (.bool true) ∧ Below w.heap.size w w' := by
  have RD := Lib.hid (fun W (hb : Below w.heap.size w W) => ready_any r xs a c ball a2 c2 W (hL.lo hb) (hX.lo hb) (hG.lower hb))
  have AW := Lib.hid (fun W (hb : Below w.heap.size w W) => awake_any W (hT.lo hb))
  have S0 := Lib.hid (RW.start r q w)
  unfold rCells at S0
  by_cases hrd : readyB r xs ball = true
  · rw [hrd] at RD
    have hth : thinB r xs.length ball.length = true := by unfold readyB at hrd; simp at hrd; exact hrd.1
    have hbal : balE r xs ball = 0 := by unfold readyB at hrd; simp at hrd; exact hrd.2
    obtain ⟨b1, b2, b3⟩ := thin_bd hth
    have hpos : 0 < ball.length := by
      have h1 := ball_len hbal
      have h2 := (faultN_ok (chk_ok (bal_ok hbal).1).1).1.r1
      omega
    obtain ⟨g2, o2, rfl⟩ : ∃ g o, a2 = some ⟨g, o, none⟩ := by
      obtain ⟨g, o, e, _⟩ := hG 0 (ball[0]'hpos) (List.getElem?_eq_getElem _)
      exact ⟨g, o, e⟩
    have HCB := Lib.hid (fun W (hb : Below w.heap.size w W) => rgs_cells (hG.lower hb))
    obtain ⟨i93, hi93, hs0, hs1, hs2⟩ := info_parts info93
    unfold Rk.val Lk.val at *
    go_enter Tryd.func10, Tryd.ntmps10
    obtain ⟨r0, r1, r2, r3, r4⟩ := S0.out.st.c
    go_wp2_with fail
    refine (RD.out _ S0.out.st.bl).mono ?_
    rintro e w1 ⟨rfl, hb⟩
    have S1 := Lib.hid (S0.out.go hb)
    clear hb S0 r0 r1 r2 r3 r4
    go_upto_region 3 with fail
    go_cut [13, 14] from 27 (fun s13 s14 wx => ∃ (gX gO cO : Nat) (cur : Array Value), s13 = .pointer (some ⟨gX, 0, none⟩) ∧ s14 = .slice (some ⟨gO, 0, none⟩) ball.length cO ∧ Hid (RX r q gX r gO cur w wx) ∧ Hid (cur.toList.take (ball.length * 2) = rgCells ball ∧ ball.length * 2 ≤ cur.size))
    case first => as_aux_lemma =>
      have SD := Lib.hid (S1.out.go (Below.drew (Below.refl _ _)))
      have HRE := Lib.hid (fun W (h : RW r q w W) => h.st.c)
      have OWN := Lib.hid (fun (W : World) (g : Nat) (h : w1.heap.size ≤ g) (hB : Blk W g #[] 93) => show W.ownsRow w1.heap.size 93 2 (.slice (some ⟨g, 0, none⟩) 0 0) 0 [] from ⟨rfl, .inr ⟨g, 0, #[], rfl, h, hB, Nat.le_refl _, by unfold maxLen; omega, rfl, rfl⟩⟩)
      have hgX0 := Lib.hid (show w.heap.size + 1 < w1.heap.size from S1.out.bQ.lt)
      have hgX1 := Lib.hid (show w.heap.size + 1 < w1.heap.size + 1 by have := S1.out.bQ.lt; omega)
      have hmx : 0 + ball.length ≤ maxLen := by unfold maxLen; omega
      have hby : (0 + ball.length) * 16 ≤ 140737488355328 := by omega
      have hone := @rgCells_one ball
      have hrl := rgCells_len ball
      have BC := Lib.hid (show Below w.heap.size w (w1.alloc (.cells #[] 93)).drew from (S1.out.go (Below.drew (below_al w1 (.cells #[] 93)))).st.bl)
      have BX := Lib.hid (show Below w.heap.size w (w1.alloc (.cells #[.int .i64 0, .int .i64 0, .int .i64 0, .int .i64 0, .slice none 0 0] 24)).drew from (S1.out.go (Below.drew (below_al w1 (.cells #[.int .i64 0, .int .i64 0, .int .i64 0, .int .i64 0, .slice none 0 0] 24)))).st.bl)
      have SC := Lib.hid (show RW r q w (w1.alloc (.cells #[] 93)).drew from S1.out.go (Below.drew (below_al w1 (.cells #[] 93))))
      have SX := Lib.hid (show RW r q w (w1.alloc (.cells #[.int .i64 0, .int .i64 0, .int .i64 0, .int .i64 0, .slice none 0 0] 24)).drew from S1.out.go (Below.drew (below_al w1 (.cells #[.int .i64 0, .int .i64 0, .int .i64 0, .int .i64 0, .slice none 0 0] 24))))
      have SB := Lib.hid (show RW r q w ((w1.alloc (.cells #[] 93)).alloc (.cells #[.int .i64 0, .int .i64 0, .int .i64 0, .int .i64 0, .slice none 0 0] 24)).drew from S1.out.go (Below.drew (below_go (below_al w1 (.cells #[] 93)) (below_al _ (.cells #[.int .i64 0, .int .i64 0, .int .i64 0, .int .i64 0, .slice none 0 0] 24)))))
      have SA := Lib.hid (show RW r q w ((w1.alloc (.cells #[.int .i64 0, .int .i64 0, .int .i64 0, .int .i64 0, .slice none 0 0] 24)).alloc (.cells #[] 93)).drew from S1.out.go (Below.drew (below_go (below_al w1 (.cells #[.int .i64 0, .int .i64 0, .int .i64 0, .int .i64 0, .slice none 0 0] 24)) (below_al _ (.cells #[] 93)))))
      have BB := Lib.hid SB.out.st.bl
      have BA := Lib.hid SA.out.st.bl
      have OC := Lib.hid (OWN.out (w1.alloc (.cells #[] 93)).drew w1.heap.size (Nat.le_refl _) (Blk.new w1 #[] 93))
      have OB := Lib.hid (OWN.out ((w1.alloc (.cells #[] 93)).alloc (.cells #[.int .i64 0, .int .i64 0, .int .i64 0, .int .i64 0, .slice none 0 0] 24)).drew w1.heap.size (Nat.le_refl _) (Blk.alt (p := fun _ => False) (Blk.new w1 #[] 93) (((Alt.refl _ _).alloc _).drew) id))
      have OA := Lib.hid (OWN.out ((w1.alloc (.cells #[.int .i64 0, .int .i64 0, .int .i64 0, .int .i64 0, .slice none 0 0] 24)).alloc (.cells #[] 93)).drew (w1.heap.size + 1) (by omega) (by have := Blk.new (w1.alloc (.cells #[.int .i64 0, .int .i64 0, .int .i64 0, .int .i64 0, .slice none 0 0] 24)) #[] 93; rwa [World.size_alloc] at this))
      have hgwC := Lib.hid (fun wA (h : World.grownBy ((w1.alloc (.cells #[] 93)).drew) wA (some w1.heap.size)) => show Below w1.heap.size w1 wA from (Below.drew (below_al w1 (.cells #[] 93))).grown h (Nat.le_of_lt (by simp)) (fun k e => by cases e; omega))
      have hgwB := Lib.hid (fun wA (h : World.grownBy (((w1.alloc (.cells #[] 93)).alloc (.cells #[.int .i64 0, .int .i64 0, .int .i64 0, .int .i64 0, .slice none 0 0] 24)).drew) wA (some w1.heap.size)) => show Below w1.heap.size w1 wA from (Below.drew (below_go (below_al w1 (.cells #[] 93)) (below_al _ (.cells #[.int .i64 0, .int .i64 0, .int .i64 0, .int .i64 0, .slice none 0 0] 24)))).grown h (by simp; omega) (fun k e => by cases e; omega))
      have hgwA := Lib.hid (fun wA (h : World.grownBy (((w1.alloc (.cells #[.int .i64 0, .int .i64 0, .int .i64 0, .int .i64 0, .slice none 0 0] 24)).alloc (.cells #[] 93)).drew) wA (some (w1.heap.size + 1))) => show Below w1.heap.size w1 wA from (Below.drew (below_go (below_al w1 (.cells #[.int .i64 0, .int .i64 0, .int .i64 0, .int .i64 0, .slice none 0 0] 24)) (below_al _ (.cells #[] 93)))).grown h (by simp; omega) (fun k e => by cases e; omega))
      have hgxB := Lib.hid (fun wA (h : World.grownBy (((w1.alloc (.cells #[] 93)).alloc (.cells #[.int .i64 0, .int .i64 0, .int .i64 0, .int .i64 0, .slice none 0 0] 24)).drew) wA (some w1.heap.size)) => show Blk wA (w1.heap.size + 1) #[.int .i64 0, .int .i64 0, .int .i64 0, .int .i64 0, .slice none 0 0] 24 from by
        have h0 : Blk ((w1.alloc (.cells #[] 93)).alloc (.cells #[.int .i64 0, .int .i64 0, .int .i64 0, .int .i64 0, .slice none 0 0] 24)).drew (w1.heap.size + 1) #[.int .i64 0, .int .i64 0, .int .i64 0, .int .i64 0, .slice none 0 0] 24 := by have := Blk.new (w1.alloc (.cells #[] 93)) #[.int .i64 0, .int .i64 0, .int .i64 0, .int .i64 0, .slice none 0 0] 24; rwa [World.size_alloc] at this
        exact Blk.alt (p := fun k => k = w1.heap.size) h0 ((Alt.refl _ _).grown h (fun k e => by cases e; rfl)) (by omega))
      have hgxA := Lib.hid (fun wA (h : World.grownBy (((w1.alloc (.cells #[.int .i64 0, .int .i64 0, .int .i64 0, .int .i64 0, .slice none 0 0] 24)).alloc (.cells #[] 93)).drew) wA (some (w1.heap.size + 1))) => show Blk wA w1.heap.size #[.int .i64 0, .int .i64 0, .int .i64 0, .int .i64 0, .slice none 0 0] 24 from by
        have h0 : Blk ((w1.alloc (.cells #[.int .i64 0, .int .i64 0, .int .i64 0, .int .i64 0, .slice none 0 0] 24)).alloc (.cells #[] 93)).drew w1.heap.size #[.int .i64 0, .int .i64 0, .int .i64 0, .int .i64 0, .slice none 0 0] 24 := Blk.alt (p := fun _ => False) (Blk.new w1 _ 24) (((Alt.refl _ _).alloc _).drew) id
        exact Blk.alt (p := fun k => k = w1.heap.size + 1) h0 ((Alt.refl _ _).grown h (fun k e => by cases e; rfl)) (by omega))
      clear OWN
      refine wp_region_held_drew (S := (fun W => W.cell? ⟨w.heap.size, 0, none⟩ = some (.int .i64 r.rows) ∧ W.cell? ⟨w.heap.size, 1, none⟩ = some (.int .i64 r.mid) ∧ W.cell? ⟨w.heap.size, 2, none⟩ = some (.int .i64 r.gap) ∧ W.cell? ⟨w.heap.size, 3, none⟩ = some (.int .i64 r.reach) ∧ W.cell? ⟨w.heap.size, 4, none⟩ = some (.slice r.la r.ls.length r.lc))) (by kernel_rfl) ?_ (fun hHeld => ?_)
      · (try dsimp only) <;> (with_reducible first | exact HRE.out _ (SW.out.set5 (gX := w1.heap.size + 1) hgX1.out) | exact HRE.out _ (SW.out.set5 (gX := w1.heap.size) hgX0.out) | exact HRE.out _ (SW.out.go (below_al wA _)) | exact HRE.out _ SW.out | exact HRE.out _ SB.out | exact HRE.out _ SA.out | exact HRE.out _ SX.out | exact HRE.out _ SC.out | exact HRE.out _ SD.out)
      refine wpAnyH_take (i := 0) (oi := { dst := some 33, op := Op.load 24 (Operand.tmp 6), type := 24, pos := "outright.go:125", after := #[], guard := none }) (v := ?v_wd3_0) rfl (by kernel_rfl) (by kernel_rfl) (by kernel_rfl) (fun _ _ _ h => h) (Or.inl ⟨by rfl, ?y_wd3_0⟩) (by assumption) ?_
      case y_wd3_0 => intro w hSw; (try dsimp only at hSw); go_simp; with_reducible rfl
      try simp only [Act.put, List.setIfInBounds_toArray, List.set_cons_zero, List.set_cons_succ]
      refine wpAnyH_take (i := 2) (oi := { dst := some 35, op := Op.move (Operand.tmp 2), type := 47, pos := "outright.go:125", after := #[], guard := none }) (v := ?v_wd3_1) rfl (by kernel_rfl) (by kernel_rfl) (by kernel_rfl) (fun _ _ _ h => h) (Or.inl ⟨by rfl, ?y_wd3_1⟩) (by assumption) ?_
      case y_wd3_1 => intro w hSw; (try dsimp only at hSw); go_simp; with_reducible rfl
      try simp only [Act.put, List.setIfInBounds_toArray, List.set_cons_zero, List.set_cons_succ]
      refine wpAnyH_ready (rs := [1, 4]) (by kernel_rfl) (by simp) ?_
      refine AllReadyH.cons (o := zop0) rfl (fun K hK => ?_) ?_
      unfold zop0
      go_simp
      refine hK.out _ _ ?_ (fun hHeld => ?_)
      · (try dsimp only) <;> (with_reducible first | exact HRE.out _ (SW.out.set5 (gX := w1.heap.size + 1) hgX1.out) | exact HRE.out _ (SW.out.set5 (gX := w1.heap.size) hgX0.out) | exact HRE.out _ (SW.out.go (below_al wA _)) | exact HRE.out _ SW.out | exact HRE.out _ SB.out | exact HRE.out _ SA.out | exact HRE.out _ SX.out | exact HRE.out _ SC.out | exact HRE.out _ SD.out)
      clear hK K
      try simp only [Act.put, List.setIfInBounds_toArray, List.set_cons_zero, List.set_cons_succ]
      refine wpAnyH_ready (rs := [3, 4]) (by kernel_rfl) (by simp) ?_
      refine AllReadyH.cons (o := zop1) rfl (fun K hK => ?_) ?_
      unfold zop1
      (first | ((with_reducible refine append_here ?_); (refine step_append_lies _ (by rfl) _ _ _ (by rfl) w1.heap.size 93 i93 _ 2 16 Tryd.underlying47 hi93 hs0 hs1 hs2 rfl (by decide) (.slice (some ⟨w1.heap.size, 0, none⟩) 0 0) 0 [] (by rfl) OC.out ⟨g2, o2, none⟩ ball.length c2 (rgCells ball) (by rfl) hrl (HCB.out _ BC.out) hone hpos hmx hby (by first | (simp; done) | (simp; omega)) _ rfl ?_); intro gA capA wA hown hgrow hat hlt1; have SW := Lib.hid (S1.out.go (hgwC.out wA hgrow))) | ((with_reducible refine append_here ?_); (refine step_append_lies _ (by rfl) _ _ _ (by rfl) w1.heap.size 93 i93 _ 2 16 Tryd.underlying47 hi93 hs0 hs1 hs2 rfl (by decide) (.slice (some ⟨w1.heap.size, 0, none⟩) 0 0) 0 [] (by rfl) OB.out ⟨g2, o2, none⟩ ball.length c2 (rgCells ball) (by rfl) hrl (HCB.out _ BB.out) hone hpos hmx hby (by first | (simp; done) | (simp; omega)) _ rfl ?_); intro gA capA wA hown hgrow hat hlt1; have SW := Lib.hid (S1.out.go (hgwB.out wA hgrow)); have XB := Lib.hid (hgxB.out wA hgrow); have k0 : wA.cell? ⟨w1.heap.size + 1, 0, none⟩ = some (.int .i64 0) := XB.out.cell 0 rfl; have k1 : wA.cell? ⟨w1.heap.size + 1, 1, none⟩ = some (.int .i64 0) := XB.out.cell 1 rfl; have k2 : wA.cell? ⟨w1.heap.size + 1, 2, none⟩ = some (.int .i64 0) := XB.out.cell 2 rfl; have k3 : wA.cell? ⟨w1.heap.size + 1, 3, none⟩ = some (.int .i64 0) := XB.out.cell 3 rfl; have k4 : wA.cell? ⟨w1.heap.size + 1, 4, none⟩ = some (.slice none 0 0) := XB.out.cell 4 rfl; have z0 := XB.out.fr 0; have z1 := XB.out.fr 1; have z2 := XB.out.fr 2; have z3 := XB.out.fr 3; have z4 := XB.out.fr 4) | ((with_reducible refine append_here ?_); (refine step_append_lies _ (by rfl) _ _ _ (by rfl) w1.heap.size 93 i93 _ 2 16 Tryd.underlying47 hi93 hs0 hs1 hs2 rfl (by decide) (.slice (some ⟨w1.heap.size + 1, 0, none⟩) 0 0) 0 [] (by rfl) OA.out ⟨g2, o2, none⟩ ball.length c2 (rgCells ball) (by rfl) hrl (HCB.out _ BA.out) hone hpos hmx hby (by first | (simp; done) | (simp; omega)) _ rfl ?_); intro gA capA wA hown hgrow hat hlt1; have SW := Lib.hid (S1.out.go (hgwA.out wA hgrow)); have XB := Lib.hid (hgxA.out wA hgrow); have k0 : wA.cell? ⟨w1.heap.size, 0, none⟩ = some (.int .i64 0) := XB.out.cell 0 rfl; have k1 : wA.cell? ⟨w1.heap.size, 1, none⟩ = some (.int .i64 0) := XB.out.cell 1 rfl; have k2 : wA.cell? ⟨w1.heap.size, 2, none⟩ = some (.int .i64 0) := XB.out.cell 2 rfl; have k3 : wA.cell? ⟨w1.heap.size, 3, none⟩ = some (.int .i64 0) := XB.out.cell 3 rfl; have k4 : wA.cell? ⟨w1.heap.size, 4, none⟩ = some (.slice none 0 0) := XB.out.cell 4 rfl; have z0 := XB.out.fr 0; have z1 := XB.out.fr 1; have z2 := XB.out.fr 2; have z3 := XB.out.fr 3; have z4 := XB.out.fr 4))
      refine hK.out _ _ ?_ (fun hHeld => ?_)
      · (try dsimp only) <;> (with_reducible first | exact HRE.out _ (SW.out.set5 (gX := w1.heap.size + 1) hgX1.out) | exact HRE.out _ (SW.out.set5 (gX := w1.heap.size) hgX0.out) | exact HRE.out _ (SW.out.go (below_al wA _)) | exact HRE.out _ SW.out | exact HRE.out _ SB.out | exact HRE.out _ SA.out | exact HRE.out _ SX.out | exact HRE.out _ SC.out | exact HRE.out _ SD.out)
      clear hK K
      try simp only [Act.put, List.setIfInBounds_toArray, List.set_cons_zero, List.set_cons_succ]
      refine wpAnyH_ready (rs := [4]) (by kernel_rfl) (by simp) ?_
      refine AllReadyH.cons (o := zop2) rfl (fun K hK => ?_) ?_
      unfold zop2
      go_simp
      refine hK.out _ _ ?_ (fun hHeld => ?_)
      · (try dsimp only) <;> (with_reducible first | exact HRE.out _ (SW.out.set5 (gX := w1.heap.size + 1) hgX1.out) | exact HRE.out _ (SW.out.set5 (gX := w1.heap.size) hgX0.out) | exact HRE.out _ (SW.out.go (below_al wA _)) | exact HRE.out _ SW.out | exact HRE.out _ SB.out | exact HRE.out _ SA.out | exact HRE.out _ SX.out | exact HRE.out _ SC.out | exact HRE.out _ SD.out)
      clear hK K
      try simp only [Act.put, List.setIfInBounds_toArray, List.set_cons_zero, List.set_cons_succ]
      refine wpAnyH_ready (rs := [5]) (by kernel_rfl) (by simp) ?_
      refine AllReadyH.cons (o := zop3) rfl (fun K hK => ?_) ?_
      unfold zop3
      go_simp
      refine hK.out _ _ ?_ (fun hHeld => ?_)
      · (try dsimp only) <;> (with_reducible first | exact HRE.out _ (SW.out.set5 (gX := w1.heap.size + 1) hgX1.out) | exact HRE.out _ (SW.out.set5 (gX := w1.heap.size) hgX0.out) | exact HRE.out _ (SW.out.go (below_al wA _)) | exact HRE.out _ SW.out | exact HRE.out _ SB.out | exact HRE.out _ SA.out | exact HRE.out _ SX.out | exact HRE.out _ SC.out | exact HRE.out _ SD.out)
      clear hK K
      try simp only [Act.put, List.setIfInBounds_toArray, List.set_cons_zero, List.set_cons_succ]
      refine wpAnyH_take (i := 6) (oi := zop4) (v := ?v_wd3_2) rfl (by kernel_rfl) (by kernel_rfl) (by kernel_rfl) (fun _ _ _ h => h) (Or.inl ⟨by rfl, ?y_wd3_2⟩) (by assumption) ?_
      case y_wd3_2 => unfold zop4; intro w hSw; (try dsimp only at hSw); go_simp; with_reducible rfl
      try simp only [zop4, Act.put, List.setIfInBounds_toArray, List.set_cons_zero, List.set_cons_succ]
      refine wpAnyH_done (by kernel_rfl) ?_ _
      rotate_left 1
      exact AllReadyH.nil
      exact AllReadyH.nil
      refine AllReadyH.cons (o := zop2) rfl (fun K hK => ?_) ?_
      unfold zop2
      go_simp
      refine hK.out _ _ ?_ (fun hHeld => ?_)
      · (try dsimp only) <;> (with_reducible first | exact HRE.out _ (SW.out.set5 (gX := w1.heap.size + 1) hgX1.out) | exact HRE.out _ (SW.out.set5 (gX := w1.heap.size) hgX0.out) | exact HRE.out _ (SW.out.go (below_al wA _)) | exact HRE.out _ SW.out | exact HRE.out _ SB.out | exact HRE.out _ SA.out | exact HRE.out _ SX.out | exact HRE.out _ SC.out | exact HRE.out _ SD.out)
      clear hK K
      try simp only [Act.put, List.setIfInBounds_toArray, List.set_cons_zero, List.set_cons_succ]
      refine wpAnyH_ready (rs := [3]) (by kernel_rfl) (by simp) ?_
      refine AllReadyH.cons (o := zop1) rfl (fun K hK => ?_) ?_
      unfold zop1
      (first | ((with_reducible refine append_here ?_); (refine step_append_lies _ (by rfl) _ _ _ (by rfl) w1.heap.size 93 i93 _ 2 16 Tryd.underlying47 hi93 hs0 hs1 hs2 rfl (by decide) (.slice (some ⟨w1.heap.size, 0, none⟩) 0 0) 0 [] (by rfl) OC.out ⟨g2, o2, none⟩ ball.length c2 (rgCells ball) (by rfl) hrl (HCB.out _ BC.out) hone hpos hmx hby (by first | (simp; done) | (simp; omega)) _ rfl ?_); intro gA capA wA hown hgrow hat hlt1; have SW := Lib.hid (S1.out.go (hgwC.out wA hgrow))) | ((with_reducible refine append_here ?_); (refine step_append_lies _ (by rfl) _ _ _ (by rfl) w1.heap.size 93 i93 _ 2 16 Tryd.underlying47 hi93 hs0 hs1 hs2 rfl (by decide) (.slice (some ⟨w1.heap.size, 0, none⟩) 0 0) 0 [] (by rfl) OB.out ⟨g2, o2, none⟩ ball.length c2 (rgCells ball) (by rfl) hrl (HCB.out _ BB.out) hone hpos hmx hby (by first | (simp; done) | (simp; omega)) _ rfl ?_); intro gA capA wA hown hgrow hat hlt1; have SW := Lib.hid (S1.out.go (hgwB.out wA hgrow)); have XB := Lib.hid (hgxB.out wA hgrow); have k0 : wA.cell? ⟨w1.heap.size + 1, 0, none⟩ = some (.int .i64 0) := XB.out.cell 0 rfl; have k1 : wA.cell? ⟨w1.heap.size + 1, 1, none⟩ = some (.int .i64 0) := XB.out.cell 1 rfl; have k2 : wA.cell? ⟨w1.heap.size + 1, 2, none⟩ = some (.int .i64 0) := XB.out.cell 2 rfl; have k3 : wA.cell? ⟨w1.heap.size + 1, 3, none⟩ = some (.int .i64 0) := XB.out.cell 3 rfl; have k4 : wA.cell? ⟨w1.heap.size + 1, 4, none⟩ = some (.slice none 0 0) := XB.out.cell 4 rfl; have z0 := XB.out.fr 0; have z1 := XB.out.fr 1; have z2 := XB.out.fr 2; have z3 := XB.out.fr 3; have z4 := XB.out.fr 4) | ((with_reducible refine append_here ?_); (refine step_append_lies _ (by rfl) _ _ _ (by rfl) w1.heap.size 93 i93 _ 2 16 Tryd.underlying47 hi93 hs0 hs1 hs2 rfl (by decide) (.slice (some ⟨w1.heap.size + 1, 0, none⟩) 0 0) 0 [] (by rfl) OA.out ⟨g2, o2, none⟩ ball.length c2 (rgCells ball) (by rfl) hrl (HCB.out _ BA.out) hone hpos hmx hby (by first | (simp; done) | (simp; omega)) _ rfl ?_); intro gA capA wA hown hgrow hat hlt1; have SW := Lib.hid (S1.out.go (hgwA.out wA hgrow)); have XB := Lib.hid (hgxA.out wA hgrow); have k0 : wA.cell? ⟨w1.heap.size, 0, none⟩ = some (.int .i64 0) := XB.out.cell 0 rfl; have k1 : wA.cell? ⟨w1.heap.size, 1, none⟩ = some (.int .i64 0) := XB.out.cell 1 rfl; have k2 : wA.cell? ⟨w1.heap.size, 2, none⟩ = some (.int .i64 0) := XB.out.cell 2 rfl; have k3 : wA.cell? ⟨w1.heap.size, 3, none⟩ = some (.int .i64 0) := XB.out.cell 3 rfl; have k4 : wA.cell? ⟨w1.heap.size, 4, none⟩ = some (.slice none 0 0) := XB.out.cell 4 rfl; have z0 := XB.out.fr 0; have z1 := XB.out.fr 1; have z2 := XB.out.fr 2; have z3 := XB.out.fr 3; have z4 := XB.out.fr 4))
      refine hK.out _ _ ?_ (fun hHeld => ?_)
      · (try dsimp only) <;> (with_reducible first | exact HRE.out _ (SW.out.set5 (gX := w1.heap.size + 1) hgX1.out) | exact HRE.out _ (SW.out.set5 (gX := w1.heap.size) hgX0.out) | exact HRE.out _ (SW.out.go (below_al wA _)) | exact HRE.out _ SW.out | exact HRE.out _ SB.out | exact HRE.out _ SA.out | exact HRE.out _ SX.out | exact HRE.out _ SC.out | exact HRE.out _ SD.out)
      clear hK K
      try simp only [Act.put, List.setIfInBounds_toArray, List.set_cons_zero, List.set_cons_succ]
      refine wpAnyH_ready (rs := [5]) (by kernel_rfl) (by simp) ?_
      refine AllReadyH.cons (o := zop3) rfl (fun K hK => ?_) ?_
      unfold zop3
      go_simp
      refine hK.out _ _ ?_ (fun hHeld => ?_)
      · (try dsimp only) <;> (with_reducible first | exact HRE.out _ (SW.out.set5 (gX := w1.heap.size + 1) hgX1.out) | exact HRE.out _ (SW.out.set5 (gX := w1.heap.size) hgX0.out) | exact HRE.out _ (SW.out.go (below_al wA _)) | exact HRE.out _ SW.out | exact HRE.out _ SB.out | exact HRE.out _ SA.out | exact HRE.out _ SX.out | exact HRE.out _ SC.out | exact HRE.out _ SD.out)
      clear hK K
      try simp only [Act.put, List.setIfInBounds_toArray, List.set_cons_zero, List.set_cons_succ]
      refine wpAnyH_take (i := 6) (oi := zop4) (v := ?v_wd3_3) rfl (by kernel_rfl) (by kernel_rfl) (by kernel_rfl) (fun _ _ _ h => h) (Or.inl ⟨by rfl, ?y_wd3_3⟩) (by assumption) ?_
      case y_wd3_3 => unfold zop4; intro w hSw; (try dsimp only at hSw); go_simp; with_reducible rfl
      try simp only [zop4, Act.put, List.setIfInBounds_toArray, List.set_cons_zero, List.set_cons_succ]
      refine wpAnyH_done (by kernel_rfl) ?_ _
      rotate_left 1
      exact AllReadyH.nil
      exact AllReadyH.nil
      exact AllReadyH.nil
      refine AllReadyH.cons (o := zop2) rfl (fun K hK => ?_) ?_
      unfold zop2
      go_simp
      refine hK.out _ _ ?_ (fun hHeld => ?_)
      · (try dsimp only) <;> (with_reducible first | exact HRE.out _ (SW.out.set5 (gX := w1.heap.size + 1) hgX1.out) | exact HRE.out _ (SW.out.set5 (gX := w1.heap.size) hgX0.out) | exact HRE.out _ (SW.out.go (below_al wA _)) | exact HRE.out _ SW.out | exact HRE.out _ SB.out | exact HRE.out _ SA.out | exact HRE.out _ SX.out | exact HRE.out _ SC.out | exact HRE.out _ SD.out)
      clear hK K
      try simp only [Act.put, List.setIfInBounds_toArray, List.set_cons_zero, List.set_cons_succ]
      refine wpAnyH_ready (rs := [1]) (by kernel_rfl) (by simp) ?_
      refine AllReadyH.cons (o := zop0) rfl (fun K hK => ?_) ?_
      unfold zop0
      go_simp
      refine hK.out _ _ ?_ (fun hHeld => ?_)
      · (try dsimp only) <;> (with_reducible first | exact HRE.out _ (SW.out.set5 (gX := w1.heap.size + 1) hgX1.out) | exact HRE.out _ (SW.out.set5 (gX := w1.heap.size) hgX0.out) | exact HRE.out _ (SW.out.go (below_al wA _)) | exact HRE.out _ SW.out | exact HRE.out _ SB.out | exact HRE.out _ SA.out | exact HRE.out _ SX.out | exact HRE.out _ SC.out | exact HRE.out _ SD.out)
      clear hK K
      try simp only [Act.put, List.setIfInBounds_toArray, List.set_cons_zero, List.set_cons_succ]
      refine wpAnyH_ready (rs := [3]) (by kernel_rfl) (by simp) ?_
      refine AllReadyH.cons (o := zop1) rfl (fun K hK => ?_) ?_
      unfold zop1
      (first | ((with_reducible refine append_here ?_); (refine step_append_lies _ (by rfl) _ _ _ (by rfl) w1.heap.size 93 i93 _ 2 16 Tryd.underlying47 hi93 hs0 hs1 hs2 rfl (by decide) (.slice (some ⟨w1.heap.size, 0, none⟩) 0 0) 0 [] (by rfl) OC.out ⟨g2, o2, none⟩ ball.length c2 (rgCells ball) (by rfl) hrl (HCB.out _ BC.out) hone hpos hmx hby (by first | (simp; done) | (simp; omega)) _ rfl ?_); intro gA capA wA hown hgrow hat hlt1; have SW := Lib.hid (S1.out.go (hgwC.out wA hgrow))) | ((with_reducible refine append_here ?_); (refine step_append_lies _ (by rfl) _ _ _ (by rfl) w1.heap.size 93 i93 _ 2 16 Tryd.underlying47 hi93 hs0 hs1 hs2 rfl (by decide) (.slice (some ⟨w1.heap.size, 0, none⟩) 0 0) 0 [] (by rfl) OB.out ⟨g2, o2, none⟩ ball.length c2 (rgCells ball) (by rfl) hrl (HCB.out _ BB.out) hone hpos hmx hby (by first | (simp; done) | (simp; omega)) _ rfl ?_); intro gA capA wA hown hgrow hat hlt1; have SW := Lib.hid (S1.out.go (hgwB.out wA hgrow)); have XB := Lib.hid (hgxB.out wA hgrow); have k0 : wA.cell? ⟨w1.heap.size + 1, 0, none⟩ = some (.int .i64 0) := XB.out.cell 0 rfl; have k1 : wA.cell? ⟨w1.heap.size + 1, 1, none⟩ = some (.int .i64 0) := XB.out.cell 1 rfl; have k2 : wA.cell? ⟨w1.heap.size + 1, 2, none⟩ = some (.int .i64 0) := XB.out.cell 2 rfl; have k3 : wA.cell? ⟨w1.heap.size + 1, 3, none⟩ = some (.int .i64 0) := XB.out.cell 3 rfl; have k4 : wA.cell? ⟨w1.heap.size + 1, 4, none⟩ = some (.slice none 0 0) := XB.out.cell 4 rfl; have z0 := XB.out.fr 0; have z1 := XB.out.fr 1; have z2 := XB.out.fr 2; have z3 := XB.out.fr 3; have z4 := XB.out.fr 4) | ((with_reducible refine append_here ?_); (refine step_append_lies _ (by rfl) _ _ _ (by rfl) w1.heap.size 93 i93 _ 2 16 Tryd.underlying47 hi93 hs0 hs1 hs2 rfl (by decide) (.slice (some ⟨w1.heap.size + 1, 0, none⟩) 0 0) 0 [] (by rfl) OA.out ⟨g2, o2, none⟩ ball.length c2 (rgCells ball) (by rfl) hrl (HCB.out _ BA.out) hone hpos hmx hby (by first | (simp; done) | (simp; omega)) _ rfl ?_); intro gA capA wA hown hgrow hat hlt1; have SW := Lib.hid (S1.out.go (hgwA.out wA hgrow)); have XB := Lib.hid (hgxA.out wA hgrow); have k0 : wA.cell? ⟨w1.heap.size, 0, none⟩ = some (.int .i64 0) := XB.out.cell 0 rfl; have k1 : wA.cell? ⟨w1.heap.size, 1, none⟩ = some (.int .i64 0) := XB.out.cell 1 rfl; have k2 : wA.cell? ⟨w1.heap.size, 2, none⟩ = some (.int .i64 0) := XB.out.cell 2 rfl; have k3 : wA.cell? ⟨w1.heap.size, 3, none⟩ = some (.int .i64 0) := XB.out.cell 3 rfl; have k4 : wA.cell? ⟨w1.heap.size, 4, none⟩ = some (.slice none 0 0) := XB.out.cell 4 rfl; have z0 := XB.out.fr 0; have z1 := XB.out.fr 1; have z2 := XB.out.fr 2; have z3 := XB.out.fr 3; have z4 := XB.out.fr 4))
      refine hK.out _ _ ?_ (fun hHeld => ?_)
      · (try dsimp only) <;> (with_reducible first | exact HRE.out _ (SW.out.set5 (gX := w1.heap.size + 1) hgX1.out) | exact HRE.out _ (SW.out.set5 (gX := w1.heap.size) hgX0.out) | exact HRE.out _ (SW.out.go (below_al wA _)) | exact HRE.out _ SW.out | exact HRE.out _ SB.out | exact HRE.out _ SA.out | exact HRE.out _ SX.out | exact HRE.out _ SC.out | exact HRE.out _ SD.out)
      clear hK K
      try simp only [Act.put, List.setIfInBounds_toArray, List.set_cons_zero, List.set_cons_succ]
      refine wpAnyH_ready (rs := [5]) (by kernel_rfl) (by simp) ?_
      refine AllReadyH.cons (o := zop3) rfl (fun K hK => ?_) ?_
      unfold zop3
      go_simp
      refine hK.out _ _ ?_ (fun hHeld => ?_)
      · (try dsimp only) <;> (with_reducible first | exact HRE.out _ (SW.out.set5 (gX := w1.heap.size + 1) hgX1.out) | exact HRE.out _ (SW.out.set5 (gX := w1.heap.size) hgX0.out) | exact HRE.out _ (SW.out.go (below_al wA _)) | exact HRE.out _ SW.out | exact HRE.out _ SB.out | exact HRE.out _ SA.out | exact HRE.out _ SX.out | exact HRE.out _ SC.out | exact HRE.out _ SD.out)
      clear hK K
      try simp only [Act.put, List.setIfInBounds_toArray, List.set_cons_zero, List.set_cons_succ]
      refine wpAnyH_take (i := 6) (oi := zop4) (v := ?v_wd3_4) rfl (by kernel_rfl) (by kernel_rfl) (by kernel_rfl) (fun _ _ _ h => h) (Or.inl ⟨by rfl, ?y_wd3_4⟩) (by assumption) ?_
      case y_wd3_4 => unfold zop4; intro w hSw; (try dsimp only at hSw); go_simp; with_reducible rfl
      try simp only [zop4, Act.put, List.setIfInBounds_toArray, List.set_cons_zero, List.set_cons_succ]
      refine wpAnyH_done (by kernel_rfl) ?_ _
      rotate_left 1
      exact AllReadyH.nil
      exact AllReadyH.nil
      exact AllReadyH.nil
      exact AllReadyH.nil
      all_goals as_aux_lemma =>
        rw [Nat.zero_add, List.nil_append] at hown
        go_wp2_with fail
        go_meet
        case rel =>
          first
          | (have hh := RX.mkC SW.out hown hgX0.out; obtain ⟨cur, h1, h2, h3⟩ := hh; exact ⟨_, _, _, cur, rfl, rfl, Lib.hid h1, Lib.hid ⟨h2, h3⟩⟩)
          | (have hh := RX.mkS SW.out XB.out hown hgX0.out hgX1.out (by rcases hat with h | h <;> simp [Value.ownBlock] at h <;> omega); obtain ⟨cur, h1, h2, h3⟩ := hh; exact ⟨_, _, _, cur, rfl, rfl, Lib.hid h1, Lib.hid ⟨h2, h3⟩⟩)
          | (have hh := RX.mkS SW.out XB.out hown hgX0.out hgX0.out (by rcases hat with h | h <;> simp [Value.ownBlock] at h <;> omega); obtain ⟨cur, h1, h2, h3⟩ := hh; exact ⟨_, _, _, cur, rfl, rfl, Lib.hid h1, Lib.hid ⟨h2, h3⟩⟩)
    case rest => as_aux_lemma =>
      obtain ⟨gX, gO, cO, cur, rfl, rfl, hS, hC⟩ := hcut
      obtain ⟨gL, cL, w4, curL, hrun, hBL, hTL, hSL, hGL, hbL⟩ := run_copy_links r.ls r.la r.lc wc (hL.lo hS.out.s.st.bl) (by omega)
      have HR4 := Lib.hid hrun
      have S4 := Lib.hid (hS.out.go hbL)
      have BL4 := Lib.hid hBL
      have TL4 := Lib.hid (And.intro hTL hSL)
      have GL4 := Lib.hid (show gX < gL ∧ gO < gL ∧ wc.heap.size ≤ gL from by have := hS.out.bX.lt; have := hS.out.bO.lt; omega)
      obtain ⟨r0, r1, r2, r3, r4⟩ := hS.out.s.st.c
      have rr4 : (wc.alloc (.cells #[] 91)).cell? ⟨w.heap.size, 4, none⟩ = some (.slice r.la r.ls.length r.lc) := (hS.out.go (below_al wc _)).s.st.c.2.2.2.2
      have z4 := S4.out.bX.fr 4
      have x4 : w4.cell? ⟨gX, 4, none⟩ = some (.slice r.la r.ls.length r.lc) := S4.out.bX.cell 4 rfl
      clear hrun hBL hTL hSL hGL hbL hS r0 r1 r2 r3 r4
      go_upto_region 5 with (at_builtin; go_must (refine wpList_append_run rfl _ _ 22 22 rfl _ _ rfl rfl HR4.out ?_))
      obtain ⟨w5, hw5⟩ : ∃ W, W = w4.setCell ⟨gX, 4, none⟩ (.slice (some ⟨gL, 0, none⟩) r.ls.length cL) := ⟨_, rfl⟩
      have S5 := Lib.hid (show RX r q gX { r with la := some ⟨gL, 0, none⟩, lc := cL } gO cur w w5 from by
        have ha : Alt (fun k => k = gX) w4 w5 := by rw [hw5]; exact (Alt.refl (fun k => k = gX) w4).setCell (q := ⟨gX, 4, none⟩) rfl _
        obtain ⟨h1, h2, h3⟩ := S4.out.hg
        exact ⟨S4.out.s.alt ha h1, by rw [hw5]; exact S4.out.bX.setAt 4 _, Blk.alt S4.out.bO ha (by omega), h1, h2, h3⟩)
      have BL5 := Lib.hid (show Blk w5 gL curL 91 from by
        have ha : Alt (fun k => k = gX) w4 w5 := by rw [hw5]; exact (Alt.refl (fun k => k = gX) w4).setCell (q := ⟨gX, 4, none⟩) rfl _
        exact Blk.alt BL4.out ha (by have := GL4.out; omega))
      rw [← hw5]
      clear hw5 S4 BL4 rr4 z4 x4 HR4
      go_upto_block 0 with fail
      go_cut [14, 15] from 27 (fun s14 s15 wx => ∃ (bt : Bool) (x : Rk) (bl : List Rg), s14 = .slice (some ⟨gO, 0, none⟩) ball.length cO ∧ s15 = .bool bt ∧ Hid (WX r q xs ball bt gX gO w wx x bl))
      case first =>
        have hm4 : u % 4 = 0 ∨ u % 4 = 1 ∨ u % 4 = 2 ∨ u % 4 = 3 := by omega
        have hlkr := linksOk_of (chk_ok (bal_ok hbal).1).1
        have hSt := (chk_set (bal_ok hbal).1).1
        have hne := choices_ne ball (bal_ok hbal).2.2
        have HLK := Lib.hid hlkr; have HST := Lib.hid hSt; have HNE := Lib.hid hne
        clear hlkr hSt hne
        rcases hm4 with hu4 | hu4 | hu4 | hu4
        · as_aux_lemma =>
          have HB := Lib.hid (rgs_blk S5.out.bO hC.out.1)
          obtain ⟨k, hk⟩ : ∃ k : Nat, v % (ball.length : Int) = (k : Int) := ⟨(v % (ball.length : Int)).toNat, by have := Int.emod_nonneg v (b := (ball.length : Int)) (by omega); omega⟩
          have hkn : k < ball.length := by have := Int.emod_lt_of_pos v (b := (ball.length : Int)) (by omega); omega
          obtain ⟨b, hb⟩ : ∃ b, ball[k]? = some b := ⟨ball[k]'hkn, List.getElem?_eq_getElem _⟩
          obtain ⟨gg, oo, e, k1, k2⟩ := HB.out k b hb
          cases e
          have hkt : v.tmod (ball.length : Int) = (k : Int) := by rw [Int.tmod_eq_emod_of_nonneg hV.1]; exact hk
          have hki : (k : Int) < (ball.length : Int) := by omega
          have hk0 : (0 : Int) ≤ (k : Int) := by omega
          have hnz : ¬ ((ball.length : Int) = 0) := by omega
          have hnz2 : ((ball.length : Int) == 0) = false := beq_eq_false_iff_ne.2 (by omega)
          have hbd := rg_of (bal_ok hbal).2.2 hb
          have q1 : (w5.drew).cell? ⟨gO, k * 2, none⟩ = some (.int .i64 b.lo) := by have := cell_lo (Below.drew (Below.refl _ _)) k1; rwa [Nat.zero_add] at this
          have q2 : (w5.drew).cell? ⟨gO, k * 2 + 1, none⟩ = some (.int .i64 b.hi) := by have := cell_lo (Below.drew (Below.refl _ _)) k2; rwa [Nat.zero_add] at this
          have etd : v.tdiv 64 = v / 64 := Int.tdiv_eq_ediv_of_nonneg hV.1
          have etm : (v / 64).tmod 2 = v / 64 % 2 := Int.tmod_eq_emod_of_nonneg (by omega)
          have ew0 : IntKind.i64.wrap v = v := IntWalk.i64_in _ (by omega)
          have ew1 : IntKind.i64.wrap (v / 64) = v / 64 := IntWalk.i64_in _ (by omega)
          have ew2 : IntKind.i64.wrap (v / 64 % 2) = v / 64 % 2 := IntWalk.i64_in _ (by omega)
          obtain ⟨lo1, hlo1⟩ : ∃ x, b.lo - v / 64 % 2 = x := ⟨_, rfl⟩
          obtain ⟨hi1, hhi1⟩ : ∃ x, b.hi + 1 = x := ⟨_, rfl⟩
          have ew3 : IntKind.i64.wrap lo1 = lo1 := IntWalk.i64_in _ (by omega)
          have ew4 : IntKind.i64.wrap hi1 = hi1 := IntWalk.i64_in _ (by omega)
          obtain ⟨nl, hnl⟩ : ∃ x, (if 0 < lo1 then lo1 else 0) = x := ⟨_, rfl⟩
          obtain ⟨nh, hnh⟩ : ∃ x, (if hi1 < 60 then hi1 else 60) = x := ⟨_, rfl⟩
          have HNL := Lib.hid (show nl ≤ b.lo by rw [← hnl]; split <;> omega)
          have HNH := Lib.hid (show b.hi ≤ nh by rw [← hnh]; split <;> omega)
          have zl := (S5.out.go (Below.drew (Below.refl _ _))).bO.fr (k * 2)
          have Z1 := Lib.hid (((S5.out.bO.setAt (k * 2) (.int .i64 nl))))
          have q3 : ((w5.setCell ⟨gO, k * 2, none⟩ (.int .i64 nl)).drew).cell? ⟨gO, k * 2 + 1, none⟩ = some (.int .i64 b.hi) := by
            have : ((w5.setCell ⟨gO, k * 2, none⟩ (.int .i64 nl)).drew).cell? ⟨gO, k * 2 + 1, none⟩ = w5.cell? ⟨gO, k * 2 + 1, none⟩ := World.cell?_setCell_other _ _ _ _ (by first | (simp; done) | (simp; omega))
            rw [this]; exact q2
          have zh : ((w5.setCell ⟨gO, k * 2, none⟩ (.int .i64 nl)).drew).frozen? ⟨gO, k * 2 + 1, none⟩ = false := by
            have h0 : Blk ((w5.setCell ⟨gO, k * 2, none⟩ (.int .i64 nl)).drew) gO (cur.setIfInBounds (k * 2) (.int .i64 nl)) 93 := Z1.out
            exact h0.fr _
          clear k1 k2 Z1
          go_upto_region 8 with fail
          refine wp_region_held_drew (S := (fun W => True)) (by kernel_rfl) ?_ (fun hHeld => ?_)
          · (try dsimp only) <;> (trivial)
          refine wpAnyH_take (i := 0) (oi := { dst := some 56, op := Op.move (Operand.tmp 16), type := 92, pos := "outright.go:131", after := #[], guard := none }) (v := ?v_wd8_5) rfl (by kernel_rfl) (by kernel_rfl) (by kernel_rfl) (fun _ _ _ h => h) (Or.inl ⟨by rfl, ?y_wd8_5⟩) (by assumption) ?_
          case y_wd8_5 => intro w hSw; (try dsimp only at hSw); go_simp; with_reducible rfl
          try simp only [Act.put, List.setIfInBounds_toArray, List.set_cons_zero, List.set_cons_succ]
          refine wpAnyH_take (i := 1) (oi := { dst := some 57, op := Op.move (Operand.tmp 16), type := 92, pos := "outright.go:131", after := #[{ on := 20, ground := Ground.gcOnly Departure.lateStores }], guard := none }) (v := ?v_wd8_6) rfl (by kernel_rfl) (by kernel_rfl) (by kernel_rfl) (fun _ _ _ h => h) (Or.inl ⟨by rfl, ?y_wd8_6⟩) (by assumption) ?_
          case y_wd8_6 => intro w hSw; (try dsimp only at hSw); go_simp; with_reducible rfl
          try simp only [Act.put, List.setIfInBounds_toArray, List.set_cons_zero, List.set_cons_succ]
          refine wpAnyH_take (i := 2) (oi := { dst := some 58, op := Op.move (Operand.tmp 16), type := 92, pos := "outright.go:131", after := #[], guard := none }) (v := ?v_wd8_7) rfl (by kernel_rfl) (by kernel_rfl) (by kernel_rfl) (fun _ _ _ h => h) (Or.inl ⟨by rfl, ?y_wd8_7⟩) (by assumption) ?_
          case y_wd8_7 => intro w hSw; (try dsimp only at hSw); go_simp; with_reducible rfl
          try simp only [Act.put, List.setIfInBounds_toArray, List.set_cons_zero, List.set_cons_succ]
          refine wpAnyH_take (i := 3) (oi := { dst := some 59, op := Op.nilCheck (Operand.tmp 58), type := 0, pos := "outright.go:131", after := #[{ on := 2, ground := Ground.data }], guard := none }) (v := ?v_wd8_8) rfl (by kernel_rfl) (by kernel_rfl) (by kernel_rfl) (fun _ _ _ h => h) (Or.inl ⟨by rfl, ?y_wd8_8⟩) (by assumption) ?_
          case y_wd8_8 => intro w hSw; (try dsimp only at hSw); go_simp; with_reducible rfl
          try simp only [Act.put, List.setIfInBounds_toArray, List.set_cons_zero, List.set_cons_succ]
          refine wpAnyH_take (i := 4) (oi := { dst := some 60, op := Op.fieldAddr 93 (Operand.tmp 59) 0, type := 0, pos := "outright.go:131", after := #[{ on := 3, ground := Ground.data }], guard := none }) (v := ?v_wd8_9) rfl (by kernel_rfl) (by kernel_rfl) (by kernel_rfl) (fun _ _ _ h => h) (Or.inl ⟨by rfl, ?y_wd8_9⟩) (by assumption) ?_
          case y_wd8_9 => intro w hSw; (try dsimp only at hSw); go_simp; with_reducible rfl
          try simp only [Act.put, List.setIfInBounds_toArray, List.set_cons_zero, List.set_cons_succ]
          refine wpAnyH_take (i := 6) (oi := { dst := some 62, op := Op.move (Operand.tmp 4), type := 5, pos := "outright.go:131", after := #[], guard := none }) (v := ?v_wd8_10) rfl (by kernel_rfl) (by kernel_rfl) (by kernel_rfl) (fun _ _ _ h => h) (Or.inl ⟨by rfl, ?y_wd8_10⟩) (by assumption) ?_
          case y_wd8_10 => intro w hSw; (try dsimp only at hSw); go_simp; with_reducible rfl
          try simp only [Act.put, List.setIfInBounds_toArray, List.set_cons_zero, List.set_cons_succ]
          refine wpAnyH_take (i := 7) (oi := { dst := some 63, op := Op.convert 5 3 (Operand.tmp 62), type := 3, pos := "outright.go:131", after := #[{ on := 6, ground := Ground.data }], guard := none }) (v := ?v_wd8_11) rfl (by kernel_rfl) (by kernel_rfl) (by kernel_rfl) (fun _ _ _ h => h) (Or.inl ⟨by rfl, ?y_wd8_11⟩) (by assumption) ?_
          case y_wd8_11 => intro w hSw; (try dsimp only at hSw); go_simp; with_reducible rfl
          try simp only [Act.put, List.setIfInBounds_toArray, List.set_cons_zero, List.set_cons_succ]
          refine wpAnyH_take (i := 8) (oi := { dst := some 64, op := Op.binOp BinOp.quo 3 (Operand.tmp 63) (Operand.const (Value.int IntKind.i64 64)) 3, type := 3, pos := "outright.go:131", after := #[{ on := 7, ground := Ground.data }], guard := none }) (v := ?v_wd8_12) rfl (by kernel_rfl) (by kernel_rfl) (by kernel_rfl) (fun _ _ _ h => h) (Or.inl ⟨by rfl, ?y_wd8_12⟩) (by assumption) ?_
          case y_wd8_12 => intro w hSw; (try dsimp only at hSw); go_simp; with_reducible rfl
          try simp only [Act.put, List.setIfInBounds_toArray, List.set_cons_zero, List.set_cons_succ]
          refine wpAnyH_take (i := 9) (oi := { dst := some 65, op := Op.binOp BinOp.rem 3 (Operand.tmp 64) (Operand.const (Value.int IntKind.i64 2)) 3, type := 3, pos := "outright.go:131", after := #[{ on := 8, ground := Ground.data }], guard := none }) (v := ?v_wd8_13) rfl (by kernel_rfl) (by kernel_rfl) (by kernel_rfl) (fun _ _ _ h => h) (Or.inl ⟨by rfl, ?y_wd8_13⟩) (by assumption) ?_
          case y_wd8_13 => intro w hSw; (try dsimp only at hSw); go_simp; with_reducible rfl
          try simp only [Act.put, List.setIfInBounds_toArray, List.set_cons_zero, List.set_cons_succ]
          refine wpAnyH_take (i := 12) (oi := { dst := some 68, op := Op.move (Operand.tmp 16), type := 92, pos := "outright.go:131", after := #[], guard := none }) (v := ?v_wd8_14) rfl (by kernel_rfl) (by kernel_rfl) (by kernel_rfl) (fun _ _ _ h => h) (Or.inl ⟨by rfl, ?y_wd8_14⟩) (by assumption) ?_
          case y_wd8_14 => intro w hSw; (try dsimp only at hSw); go_simp; with_reducible rfl
          try simp only [Act.put, List.setIfInBounds_toArray, List.set_cons_zero, List.set_cons_succ]
          refine wpAnyH_take (i := 13) (oi := { dst := some 69, op := Op.nilCheck (Operand.tmp 68), type := 0, pos := "outright.go:131", after := #[{ on := 12, ground := Ground.data }], guard := none }) (v := ?v_wd8_15) rfl (by kernel_rfl) (by kernel_rfl) (by kernel_rfl) (fun _ _ _ h => h) (Or.inl ⟨by rfl, ?y_wd8_15⟩) (by assumption) ?_
          case y_wd8_15 => intro w hSw; (try dsimp only at hSw); go_simp; with_reducible rfl
          try simp only [Act.put, List.setIfInBounds_toArray, List.set_cons_zero, List.set_cons_succ]
          refine wpAnyH_take (i := 14) (oi := { dst := some 70, op := Op.fieldAddr 93 (Operand.tmp 69) 1, type := 0, pos := "outright.go:131", after := #[{ on := 13, ground := Ground.data }], guard := none }) (v := ?v_wd8_16) rfl (by kernel_rfl) (by kernel_rfl) (by kernel_rfl) (fun _ _ _ h => h) (Or.inl ⟨by rfl, ?y_wd8_16⟩) (by assumption) ?_
          case y_wd8_16 => intro w hSw; (try dsimp only at hSw); go_simp; with_reducible rfl
          try simp only [Act.put, List.setIfInBounds_toArray, List.set_cons_zero, List.set_cons_succ]
          refine wpAnyH_ready (rs := [5, 15]) (by kernel_rfl) (by simp) ?_
          refine AllReadyH.cons (o := zop5) rfl (fun K hK => ?_) ?_
          unfold zop5
          go_simp
          refine hK.out _ _ ?_ (fun hHeld => ?_)
          · (try dsimp only) <;> (trivial)
          clear hK K
          try simp only [Act.put, List.setIfInBounds_toArray, List.set_cons_zero, List.set_cons_succ]
          refine wpAnyH_take (i := 10) (oi := zop6) (v := ?v_wd8_17) rfl (by kernel_rfl) (by kernel_rfl) (by kernel_rfl) (fun _ _ _ h => h) (Or.inl ⟨by rfl, ?y_wd8_17⟩) (by assumption) ?_
          case y_wd8_17 => unfold zop6; intro w hSw; (try dsimp only at hSw); go_simp; with_reducible rfl
          try simp only [zop6, Act.put, List.setIfInBounds_toArray, List.set_cons_zero, List.set_cons_succ]
          refine wpAnyH_ready (rs := [11, 15]) (by kernel_rfl) (by simp) ?_
          refine AllReadyH.cons (o := zop7) rfl (fun K hK => ?_) ?_
          unfold zop7
          go_simp
          refine hK.out _ _ ?_ (fun hHeld => ?_)
          · (try dsimp only) <;> (trivial)
          clear hK K
          try simp only [Act.put, List.setIfInBounds_toArray, List.set_cons_zero, List.set_cons_succ]
          refine wpAnyH_ready (rs := [15]) (by kernel_rfl) (by simp) ?_
          refine AllReadyH.cons (o := zop8) rfl (fun K hK => ?_) ?_
          unfold zop8
          go_simp
          refine hK.out _ _ ?_ (fun hHeld => ?_)
          · (try dsimp only) <;> (trivial)
          clear hK K
          try simp only [Act.put, List.setIfInBounds_toArray, List.set_cons_zero, List.set_cons_succ]
          refine wpAnyH_take (i := 16) (oi := zop9) (v := ?v_wd8_18) rfl (by kernel_rfl) (by kernel_rfl) (by kernel_rfl) (fun _ _ _ h => h) (Or.inl ⟨by rfl, ?y_wd8_18⟩) (by assumption) ?_
          case y_wd8_18 => unfold zop9; intro w hSw; (try dsimp only at hSw); go_simp; with_reducible rfl
          try simp only [zop9, Act.put, List.setIfInBounds_toArray, List.set_cons_zero, List.set_cons_succ]
          refine wpAnyH_take (i := 18) (oi := zop10) (v := ?v_wd8_19) rfl (by kernel_rfl) (by kernel_rfl) (by kernel_rfl) (fun _ _ _ h => h) (Or.inl ⟨by rfl, ?y_wd8_19⟩) (by assumption) ?_
          case y_wd8_19 => unfold zop10; intro w hSw; (try dsimp only at hSw); go_simp; with_reducible rfl
          try simp only [zop10, Act.put, List.setIfInBounds_toArray, List.set_cons_zero, List.set_cons_succ]
          refine wpAnyH_take (i := 19) (oi := zop11) (v := ?v_wd8_20) rfl (by kernel_rfl) (by kernel_rfl) (by kernel_rfl) (fun _ _ _ h => h) (Or.inl ⟨by rfl, ?y_wd8_20⟩) (by assumption) ?_
          case y_wd8_20 => unfold zop11; intro w hSw; (try dsimp only at hSw); go_simp; with_reducible rfl
          try simp only [zop11, Act.put, List.setIfInBounds_toArray, List.set_cons_zero, List.set_cons_succ]
          refine wpAnyH_ready (rs := [17, 20]) (by kernel_rfl) (by simp) ?_
          refine AllReadyH.cons (o := zop12) rfl (fun K hK => ?_) ?_
          unfold zop12
          go_simp
          refine hK.out _ _ ?_ (fun hHeld => ?_)
          · (try dsimp only) <;> (trivial)
          clear hK K
          try simp only [Act.put, List.setIfInBounds_toArray, List.set_cons_zero, List.set_cons_succ]
          refine wpAnyH_ready (rs := [20]) (by kernel_rfl) (by simp) ?_
          refine AllReadyH.cons (o := zop13) rfl (fun K hK => ?_) ?_
          unfold zop13
          go_simp
          refine hK.out _ _ ?_ (fun hHeld => ?_)
          · (try dsimp only) <;> (trivial)
          clear hK K
          try simp only [Act.put, List.setIfInBounds_toArray, List.set_cons_zero, List.set_cons_succ]
          refine wpAnyH_take (i := 21) (oi := zop14) (v := ?v_wd8_21) rfl (by kernel_rfl) (by kernel_rfl) (by kernel_rfl) (fun _ _ _ h => h) (Or.inl ⟨by rfl, ?y_wd8_21⟩) (by assumption) ?_
          case y_wd8_21 => unfold zop14; intro w hSw; (try dsimp only at hSw); go_simp; with_reducible rfl
          try simp only [zop14, Act.put, List.setIfInBounds_toArray, List.set_cons_zero, List.set_cons_succ]
          refine wpAnyH_take (i := 22) (oi := zop15) (v := ?v_wd8_22) rfl (by kernel_rfl) (by kernel_rfl) (by kernel_rfl) (fun _ _ _ h => h) (Or.inl ⟨by rfl, ?y_wd8_22⟩) (by assumption) ?_
          case y_wd8_22 => unfold zop15; intro w hSw; (try dsimp only at hSw); go_simp; with_reducible rfl
          try simp only [zop15, Act.put, List.setIfInBounds_toArray, List.set_cons_zero, List.set_cons_succ]
          refine wpAnyH_ready (rs := [23]) (by kernel_rfl) (by simp) ?_
          refine AllReadyH.cons (o := zop16) rfl (fun K hK => ?_) ?_
          unfold zop16
          go_simp
          refine hK.out _ _ ?_ (fun hHeld => ?_)
          · (try dsimp only) <;> (trivial)
          clear hK K
          try simp only [Act.put, List.setIfInBounds_toArray, List.set_cons_zero, List.set_cons_succ]
          refine wpAnyH_done (by kernel_rfl) ?_ _
          rotate_left 1
          exact AllReadyH.nil
          exact AllReadyH.nil
          refine AllReadyH.cons (o := zop13) rfl (fun K hK => ?_) ?_
          unfold zop13
          go_simp
          refine hK.out _ _ ?_ (fun hHeld => ?_)
          · (try dsimp only) <;> (trivial)
          clear hK K
          try simp only [Act.put, List.setIfInBounds_toArray, List.set_cons_zero, List.set_cons_succ]
          refine wpAnyH_ready (rs := [17]) (by kernel_rfl) (by simp) ?_
          refine AllReadyH.cons (o := zop12) rfl (fun K hK => ?_) ?_
          unfold zop12
          go_simp
          refine hK.out _ _ ?_ (fun hHeld => ?_)
          · (try dsimp only) <;> (trivial)
          clear hK K
          try simp only [Act.put, List.setIfInBounds_toArray, List.set_cons_zero, List.set_cons_succ]
          refine wpAnyH_take (i := 21) (oi := zop14) (v := ?v_wd8_23) rfl (by kernel_rfl) (by kernel_rfl) (by kernel_rfl) (fun _ _ _ h => h) (Or.inl ⟨by rfl, ?y_wd8_23⟩) (by assumption) ?_
          case y_wd8_23 => unfold zop14; intro w hSw; (try dsimp only at hSw); go_simp; with_reducible rfl
          try simp only [zop14, Act.put, List.setIfInBounds_toArray, List.set_cons_zero, List.set_cons_succ]
          refine wpAnyH_take (i := 22) (oi := zop15) (v := ?v_wd8_24) rfl (by kernel_rfl) (by kernel_rfl) (by kernel_rfl) (fun _ _ _ h => h) (Or.inl ⟨by rfl, ?y_wd8_24⟩) (by assumption) ?_
          case y_wd8_24 => unfold zop15; intro w hSw; (try dsimp only at hSw); go_simp; with_reducible rfl
          try simp only [zop15, Act.put, List.setIfInBounds_toArray, List.set_cons_zero, List.set_cons_succ]
          refine wpAnyH_ready (rs := [23]) (by kernel_rfl) (by simp) ?_
          refine AllReadyH.cons (o := zop16) rfl (fun K hK => ?_) ?_
          unfold zop16
          go_simp
          refine hK.out _ _ ?_ (fun hHeld => ?_)
          · (try dsimp only) <;> (trivial)
          clear hK K
          try simp only [Act.put, List.setIfInBounds_toArray, List.set_cons_zero, List.set_cons_succ]
          refine wpAnyH_done (by kernel_rfl) ?_ _
          rotate_left 1
          exact AllReadyH.nil
          exact AllReadyH.nil
          exact AllReadyH.nil
          exact AllReadyH.nil
          refine AllReadyH.cons (o := zop8) rfl (fun K hK => ?_) ?_
          unfold zop8
          go_simp
          refine hK.out _ _ ?_ (fun hHeld => ?_)
          · (try dsimp only) <;> (trivial)
          clear hK K
          try simp only [Act.put, List.setIfInBounds_toArray, List.set_cons_zero, List.set_cons_succ]
          refine wpAnyH_take (i := 16) (oi := zop9) (v := ?v_wd8_25) rfl (by kernel_rfl) (by kernel_rfl) (by kernel_rfl) (fun _ _ _ h => h) (Or.inl ⟨by rfl, ?y_wd8_25⟩) (by assumption) ?_
          case y_wd8_25 => unfold zop9; intro w hSw; (try dsimp only at hSw); go_simp; with_reducible rfl
          try simp only [zop9, Act.put, List.setIfInBounds_toArray, List.set_cons_zero, List.set_cons_succ]
          refine wpAnyH_ready (rs := [11, 17]) (by kernel_rfl) (by simp) ?_
          refine AllReadyH.cons (o := zop7) rfl (fun K hK => ?_) ?_
          unfold zop7
          go_simp
          refine hK.out _ _ ?_ (fun hHeld => ?_)
          · (try dsimp only) <;> (trivial)
          clear hK K
          try simp only [Act.put, List.setIfInBounds_toArray, List.set_cons_zero, List.set_cons_succ]
          refine wpAnyH_take (i := 18) (oi := zop10) (v := ?v_wd8_26) rfl (by kernel_rfl) (by kernel_rfl) (by kernel_rfl) (fun _ _ _ h => h) (Or.inl ⟨by rfl, ?y_wd8_26⟩) (by assumption) ?_
          case y_wd8_26 => unfold zop10; intro w hSw; (try dsimp only at hSw); go_simp; with_reducible rfl
          try simp only [zop10, Act.put, List.setIfInBounds_toArray, List.set_cons_zero, List.set_cons_succ]
          refine wpAnyH_take (i := 19) (oi := zop11) (v := ?v_wd8_27) rfl (by kernel_rfl) (by kernel_rfl) (by kernel_rfl) (fun _ _ _ h => h) (Or.inl ⟨by rfl, ?y_wd8_27⟩) (by assumption) ?_
          case y_wd8_27 => unfold zop11; intro w hSw; (try dsimp only at hSw); go_simp; with_reducible rfl
          try simp only [zop11, Act.put, List.setIfInBounds_toArray, List.set_cons_zero, List.set_cons_succ]
          refine wpAnyH_ready (rs := [17, 20]) (by kernel_rfl) (by simp) ?_
          refine AllReadyH.cons (o := zop12) rfl (fun K hK => ?_) ?_
          unfold zop12
          go_simp
          refine hK.out _ _ ?_ (fun hHeld => ?_)
          · (try dsimp only) <;> (trivial)
          clear hK K
          try simp only [Act.put, List.setIfInBounds_toArray, List.set_cons_zero, List.set_cons_succ]
          refine wpAnyH_ready (rs := [20]) (by kernel_rfl) (by simp) ?_
          refine AllReadyH.cons (o := zop13) rfl (fun K hK => ?_) ?_
          unfold zop13
          go_simp
          refine hK.out _ _ ?_ (fun hHeld => ?_)
          · (try dsimp only) <;> (trivial)
          clear hK K
          try simp only [Act.put, List.setIfInBounds_toArray, List.set_cons_zero, List.set_cons_succ]
          refine wpAnyH_take (i := 21) (oi := zop14) (v := ?v_wd8_28) rfl (by kernel_rfl) (by kernel_rfl) (by kernel_rfl) (fun _ _ _ h => h) (Or.inl ⟨by rfl, ?y_wd8_28⟩) (by assumption) ?_
          case y_wd8_28 => unfold zop14; intro w hSw; (try dsimp only at hSw); go_simp; with_reducible rfl
          try simp only [zop14, Act.put, List.setIfInBounds_toArray, List.set_cons_zero, List.set_cons_succ]
          refine wpAnyH_take (i := 22) (oi := zop15) (v := ?v_wd8_29) rfl (by kernel_rfl) (by kernel_rfl) (by kernel_rfl) (fun _ _ _ h => h) (Or.inl ⟨by rfl, ?y_wd8_29⟩) (by assumption) ?_
          case y_wd8_29 => unfold zop15; intro w hSw; (try dsimp only at hSw); go_simp; with_reducible rfl
          try simp only [zop15, Act.put, List.setIfInBounds_toArray, List.set_cons_zero, List.set_cons_succ]
          refine wpAnyH_ready (rs := [23]) (by kernel_rfl) (by simp) ?_
          refine AllReadyH.cons (o := zop16) rfl (fun K hK => ?_) ?_
          unfold zop16
          go_simp
          refine hK.out _ _ ?_ (fun hHeld => ?_)
          · (try dsimp only) <;> (trivial)
          clear hK K
          try simp only [Act.put, List.setIfInBounds_toArray, List.set_cons_zero, List.set_cons_succ]
          refine wpAnyH_done (by kernel_rfl) ?_ _
          rotate_left 1
          exact AllReadyH.nil
          exact AllReadyH.nil
          refine AllReadyH.cons (o := zop13) rfl (fun K hK => ?_) ?_
          unfold zop13
          go_simp
          refine hK.out _ _ ?_ (fun hHeld => ?_)
          · (try dsimp only) <;> (trivial)
          clear hK K
          try simp only [Act.put, List.setIfInBounds_toArray, List.set_cons_zero, List.set_cons_succ]
          refine wpAnyH_ready (rs := [17]) (by kernel_rfl) (by simp) ?_
          refine AllReadyH.cons (o := zop12) rfl (fun K hK => ?_) ?_
          unfold zop12
          go_simp
          refine hK.out _ _ ?_ (fun hHeld => ?_)
          · (try dsimp only) <;> (trivial)
          clear hK K
          try simp only [Act.put, List.setIfInBounds_toArray, List.set_cons_zero, List.set_cons_succ]
          refine wpAnyH_take (i := 21) (oi := zop14) (v := ?v_wd8_30) rfl (by kernel_rfl) (by kernel_rfl) (by kernel_rfl) (fun _ _ _ h => h) (Or.inl ⟨by rfl, ?y_wd8_30⟩) (by assumption) ?_
          case y_wd8_30 => unfold zop14; intro w hSw; (try dsimp only at hSw); go_simp; with_reducible rfl
          try simp only [zop14, Act.put, List.setIfInBounds_toArray, List.set_cons_zero, List.set_cons_succ]
          refine wpAnyH_take (i := 22) (oi := zop15) (v := ?v_wd8_31) rfl (by kernel_rfl) (by kernel_rfl) (by kernel_rfl) (fun _ _ _ h => h) (Or.inl ⟨by rfl, ?y_wd8_31⟩) (by assumption) ?_
          case y_wd8_31 => unfold zop15; intro w hSw; (try dsimp only at hSw); go_simp; with_reducible rfl
          try simp only [zop15, Act.put, List.setIfInBounds_toArray, List.set_cons_zero, List.set_cons_succ]
          refine wpAnyH_ready (rs := [23]) (by kernel_rfl) (by simp) ?_
          refine AllReadyH.cons (o := zop16) rfl (fun K hK => ?_) ?_
          unfold zop16
          go_simp
          refine hK.out _ _ ?_ (fun hHeld => ?_)
          · (try dsimp only) <;> (trivial)
          clear hK K
          try simp only [Act.put, List.setIfInBounds_toArray, List.set_cons_zero, List.set_cons_succ]
          refine wpAnyH_done (by kernel_rfl) ?_ _
          rotate_left 1
          exact AllReadyH.nil
          exact AllReadyH.nil
          exact AllReadyH.nil
          refine AllReadyH.cons (o := zop12) rfl (fun K hK => ?_) ?_
          unfold zop12
          go_simp
          refine hK.out _ _ ?_ (fun hHeld => ?_)
          · (try dsimp only) <;> (trivial)
          clear hK K
          try simp only [Act.put, List.setIfInBounds_toArray, List.set_cons_zero, List.set_cons_succ]
          refine wpAnyH_ready (rs := [11]) (by kernel_rfl) (by simp) ?_
          refine AllReadyH.cons (o := zop7) rfl (fun K hK => ?_) ?_
          unfold zop7
          go_simp
          refine hK.out _ _ ?_ (fun hHeld => ?_)
          · (try dsimp only) <;> (trivial)
          clear hK K
          try simp only [Act.put, List.setIfInBounds_toArray, List.set_cons_zero, List.set_cons_succ]
          refine wpAnyH_take (i := 18) (oi := zop10) (v := ?v_wd8_32) rfl (by kernel_rfl) (by kernel_rfl) (by kernel_rfl) (fun _ _ _ h => h) (Or.inl ⟨by rfl, ?y_wd8_32⟩) (by assumption) ?_
          case y_wd8_32 => unfold zop10; intro w hSw; (try dsimp only at hSw); go_simp; with_reducible rfl
          try simp only [zop10, Act.put, List.setIfInBounds_toArray, List.set_cons_zero, List.set_cons_succ]
          refine wpAnyH_take (i := 19) (oi := zop11) (v := ?v_wd8_33) rfl (by kernel_rfl) (by kernel_rfl) (by kernel_rfl) (fun _ _ _ h => h) (Or.inl ⟨by rfl, ?y_wd8_33⟩) (by assumption) ?_
          case y_wd8_33 => unfold zop11; intro w hSw; (try dsimp only at hSw); go_simp; with_reducible rfl
          try simp only [zop11, Act.put, List.setIfInBounds_toArray, List.set_cons_zero, List.set_cons_succ]
          refine wpAnyH_ready (rs := [20]) (by kernel_rfl) (by simp) ?_
          refine AllReadyH.cons (o := zop13) rfl (fun K hK => ?_) ?_
          unfold zop13
          go_simp
          refine hK.out _ _ ?_ (fun hHeld => ?_)
          · (try dsimp only) <;> (trivial)
          clear hK K
          try simp only [Act.put, List.setIfInBounds_toArray, List.set_cons_zero, List.set_cons_succ]
          refine wpAnyH_take (i := 21) (oi := zop14) (v := ?v_wd8_34) rfl (by kernel_rfl) (by kernel_rfl) (by kernel_rfl) (fun _ _ _ h => h) (Or.inl ⟨by rfl, ?y_wd8_34⟩) (by assumption) ?_
          case y_wd8_34 => unfold zop14; intro w hSw; (try dsimp only at hSw); go_simp; with_reducible rfl
          try simp only [zop14, Act.put, List.setIfInBounds_toArray, List.set_cons_zero, List.set_cons_succ]
          refine wpAnyH_take (i := 22) (oi := zop15) (v := ?v_wd8_35) rfl (by kernel_rfl) (by kernel_rfl) (by kernel_rfl) (fun _ _ _ h => h) (Or.inl ⟨by rfl, ?y_wd8_35⟩) (by assumption) ?_
          case y_wd8_35 => unfold zop15; intro w hSw; (try dsimp only at hSw); go_simp; with_reducible rfl
          try simp only [zop15, Act.put, List.setIfInBounds_toArray, List.set_cons_zero, List.set_cons_succ]
          refine wpAnyH_ready (rs := [23]) (by kernel_rfl) (by simp) ?_
          refine AllReadyH.cons (o := zop16) rfl (fun K hK => ?_) ?_
          unfold zop16
          go_simp
          refine hK.out _ _ ?_ (fun hHeld => ?_)
          · (try dsimp only) <;> (trivial)
          clear hK K
          try simp only [Act.put, List.setIfInBounds_toArray, List.set_cons_zero, List.set_cons_succ]
          refine wpAnyH_done (by kernel_rfl) ?_ _
          rotate_left 1
          exact AllReadyH.nil
          exact AllReadyH.nil
          exact AllReadyH.nil
          exact AllReadyH.nil
          exact AllReadyH.nil
          refine AllReadyH.cons (o := zop8) rfl (fun K hK => ?_) ?_
          unfold zop8
          go_simp
          refine hK.out _ _ ?_ (fun hHeld => ?_)
          · (try dsimp only) <;> (trivial)
          clear hK K
          try simp only [Act.put, List.setIfInBounds_toArray, List.set_cons_zero, List.set_cons_succ]
          refine wpAnyH_take (i := 16) (oi := zop9) (v := ?v_wd8_36) rfl (by kernel_rfl) (by kernel_rfl) (by kernel_rfl) (fun _ _ _ h => h) (Or.inl ⟨by rfl, ?y_wd8_36⟩) (by assumption) ?_
          case y_wd8_36 => unfold zop9; intro w hSw; (try dsimp only at hSw); go_simp; with_reducible rfl
          try simp only [zop9, Act.put, List.setIfInBounds_toArray, List.set_cons_zero, List.set_cons_succ]
          refine wpAnyH_ready (rs := [5, 17]) (by kernel_rfl) (by simp) ?_
          refine AllReadyH.cons (o := zop5) rfl (fun K hK => ?_) ?_
          unfold zop5
          go_simp
          refine hK.out _ _ ?_ (fun hHeld => ?_)
          · (try dsimp only) <;> (trivial)
          clear hK K
          try simp only [Act.put, List.setIfInBounds_toArray, List.set_cons_zero, List.set_cons_succ]
          refine wpAnyH_take (i := 10) (oi := zop6) (v := ?v_wd8_37) rfl (by kernel_rfl) (by kernel_rfl) (by kernel_rfl) (fun _ _ _ h => h) (Or.inl ⟨by rfl, ?y_wd8_37⟩) (by assumption) ?_
          case y_wd8_37 => unfold zop6; intro w hSw; (try dsimp only at hSw); go_simp; with_reducible rfl
          try simp only [zop6, Act.put, List.setIfInBounds_toArray, List.set_cons_zero, List.set_cons_succ]
          refine wpAnyH_ready (rs := [11, 17]) (by kernel_rfl) (by simp) ?_
          refine AllReadyH.cons (o := zop7) rfl (fun K hK => ?_) ?_
          unfold zop7
          go_simp
          refine hK.out _ _ ?_ (fun hHeld => ?_)
          · (try dsimp only) <;> (trivial)
          clear hK K
          try simp only [Act.put, List.setIfInBounds_toArray, List.set_cons_zero, List.set_cons_succ]
          refine wpAnyH_take (i := 18) (oi := zop10) (v := ?v_wd8_38) rfl (by kernel_rfl) (by kernel_rfl) (by kernel_rfl) (fun _ _ _ h => h) (Or.inl ⟨by rfl, ?y_wd8_38⟩) (by assumption) ?_
          case y_wd8_38 => unfold zop10; intro w hSw; (try dsimp only at hSw); go_simp; with_reducible rfl
          try simp only [zop10, Act.put, List.setIfInBounds_toArray, List.set_cons_zero, List.set_cons_succ]
          refine wpAnyH_take (i := 19) (oi := zop11) (v := ?v_wd8_39) rfl (by kernel_rfl) (by kernel_rfl) (by kernel_rfl) (fun _ _ _ h => h) (Or.inl ⟨by rfl, ?y_wd8_39⟩) (by assumption) ?_
          case y_wd8_39 => unfold zop11; intro w hSw; (try dsimp only at hSw); go_simp; with_reducible rfl
          try simp only [zop11, Act.put, List.setIfInBounds_toArray, List.set_cons_zero, List.set_cons_succ]
          refine wpAnyH_ready (rs := [17, 20]) (by kernel_rfl) (by simp) ?_
          refine AllReadyH.cons (o := zop12) rfl (fun K hK => ?_) ?_
          unfold zop12
          go_simp
          refine hK.out _ _ ?_ (fun hHeld => ?_)
          · (try dsimp only) <;> (trivial)
          clear hK K
          try simp only [Act.put, List.setIfInBounds_toArray, List.set_cons_zero, List.set_cons_succ]
          refine wpAnyH_ready (rs := [20]) (by kernel_rfl) (by simp) ?_
          refine AllReadyH.cons (o := zop13) rfl (fun K hK => ?_) ?_
          unfold zop13
          go_simp
          refine hK.out _ _ ?_ (fun hHeld => ?_)
          · (try dsimp only) <;> (trivial)
          clear hK K
          try simp only [Act.put, List.setIfInBounds_toArray, List.set_cons_zero, List.set_cons_succ]
          refine wpAnyH_take (i := 21) (oi := zop14) (v := ?v_wd8_40) rfl (by kernel_rfl) (by kernel_rfl) (by kernel_rfl) (fun _ _ _ h => h) (Or.inl ⟨by rfl, ?y_wd8_40⟩) (by assumption) ?_
          case y_wd8_40 => unfold zop14; intro w hSw; (try dsimp only at hSw); go_simp; with_reducible rfl
          try simp only [zop14, Act.put, List.setIfInBounds_toArray, List.set_cons_zero, List.set_cons_succ]
          refine wpAnyH_take (i := 22) (oi := zop15) (v := ?v_wd8_41) rfl (by kernel_rfl) (by kernel_rfl) (by kernel_rfl) (fun _ _ _ h => h) (Or.inl ⟨by rfl, ?y_wd8_41⟩) (by assumption) ?_
          case y_wd8_41 => unfold zop15; intro w hSw; (try dsimp only at hSw); go_simp; with_reducible rfl
          try simp only [zop15, Act.put, List.setIfInBounds_toArray, List.set_cons_zero, List.set_cons_succ]
          refine wpAnyH_ready (rs := [23]) (by kernel_rfl) (by simp) ?_
          refine AllReadyH.cons (o := zop16) rfl (fun K hK => ?_) ?_
          unfold zop16
          go_simp
          refine hK.out _ _ ?_ (fun hHeld => ?_)
          · (try dsimp only) <;> (trivial)
          clear hK K
          try simp only [Act.put, List.setIfInBounds_toArray, List.set_cons_zero, List.set_cons_succ]
          refine wpAnyH_done (by kernel_rfl) ?_ _
          rotate_left 1
          exact AllReadyH.nil
          exact AllReadyH.nil
          refine AllReadyH.cons (o := zop13) rfl (fun K hK => ?_) ?_
          unfold zop13
          go_simp
          refine hK.out _ _ ?_ (fun hHeld => ?_)
          · (try dsimp only) <;> (trivial)
          clear hK K
          try simp only [Act.put, List.setIfInBounds_toArray, List.set_cons_zero, List.set_cons_succ]
          refine wpAnyH_ready (rs := [17]) (by kernel_rfl) (by simp) ?_
          refine AllReadyH.cons (o := zop12) rfl (fun K hK => ?_) ?_
          unfold zop12
          go_simp
          refine hK.out _ _ ?_ (fun hHeld => ?_)
          · (try dsimp only) <;> (trivial)
          clear hK K
          try simp only [Act.put, List.setIfInBounds_toArray, List.set_cons_zero, List.set_cons_succ]
          refine wpAnyH_take (i := 21) (oi := zop14) (v := ?v_wd8_42) rfl (by kernel_rfl) (by kernel_rfl) (by kernel_rfl) (fun _ _ _ h => h) (Or.inl ⟨by rfl, ?y_wd8_42⟩) (by assumption) ?_
          case y_wd8_42 => unfold zop14; intro w hSw; (try dsimp only at hSw); go_simp; with_reducible rfl
          try simp only [zop14, Act.put, List.setIfInBounds_toArray, List.set_cons_zero, List.set_cons_succ]
          refine wpAnyH_take (i := 22) (oi := zop15) (v := ?v_wd8_43) rfl (by kernel_rfl) (by kernel_rfl) (by kernel_rfl) (fun _ _ _ h => h) (Or.inl ⟨by rfl, ?y_wd8_43⟩) (by assumption) ?_
          case y_wd8_43 => unfold zop15; intro w hSw; (try dsimp only at hSw); go_simp; with_reducible rfl
          try simp only [zop15, Act.put, List.setIfInBounds_toArray, List.set_cons_zero, List.set_cons_succ]
          refine wpAnyH_ready (rs := [23]) (by kernel_rfl) (by simp) ?_
          refine AllReadyH.cons (o := zop16) rfl (fun K hK => ?_) ?_
          unfold zop16
          go_simp
          refine hK.out _ _ ?_ (fun hHeld => ?_)
          · (try dsimp only) <;> (trivial)
          clear hK K
          try simp only [Act.put, List.setIfInBounds_toArray, List.set_cons_zero, List.set_cons_succ]
          refine wpAnyH_done (by kernel_rfl) ?_ _
          rotate_left 1
          exact AllReadyH.nil
          exact AllReadyH.nil
          exact AllReadyH.nil
          refine AllReadyH.cons (o := zop12) rfl (fun K hK => ?_) ?_
          unfold zop12
          go_simp
          refine hK.out _ _ ?_ (fun hHeld => ?_)
          · (try dsimp only) <;> (trivial)
          clear hK K
          try simp only [Act.put, List.setIfInBounds_toArray, List.set_cons_zero, List.set_cons_succ]
          refine wpAnyH_ready (rs := [11]) (by kernel_rfl) (by simp) ?_
          refine AllReadyH.cons (o := zop7) rfl (fun K hK => ?_) ?_
          unfold zop7
          go_simp
          refine hK.out _ _ ?_ (fun hHeld => ?_)
          · (try dsimp only) <;> (trivial)
          clear hK K
          try simp only [Act.put, List.setIfInBounds_toArray, List.set_cons_zero, List.set_cons_succ]
          refine wpAnyH_take (i := 18) (oi := zop10) (v := ?v_wd8_44) rfl (by kernel_rfl) (by kernel_rfl) (by kernel_rfl) (fun _ _ _ h => h) (Or.inl ⟨by rfl, ?y_wd8_44⟩) (by assumption) ?_
          case y_wd8_44 => unfold zop10; intro w hSw; (try dsimp only at hSw); go_simp; with_reducible rfl
          try simp only [zop10, Act.put, List.setIfInBounds_toArray, List.set_cons_zero, List.set_cons_succ]
          refine wpAnyH_take (i := 19) (oi := zop11) (v := ?v_wd8_45) rfl (by kernel_rfl) (by kernel_rfl) (by kernel_rfl) (fun _ _ _ h => h) (Or.inl ⟨by rfl, ?y_wd8_45⟩) (by assumption) ?_
          case y_wd8_45 => unfold zop11; intro w hSw; (try dsimp only at hSw); go_simp; with_reducible rfl
          try simp only [zop11, Act.put, List.setIfInBounds_toArray, List.set_cons_zero, List.set_cons_succ]
          refine wpAnyH_ready (rs := [20]) (by kernel_rfl) (by simp) ?_
          refine AllReadyH.cons (o := zop13) rfl (fun K hK => ?_) ?_
          unfold zop13
          go_simp
          refine hK.out _ _ ?_ (fun hHeld => ?_)
          · (try dsimp only) <;> (trivial)
          clear hK K
          try simp only [Act.put, List.setIfInBounds_toArray, List.set_cons_zero, List.set_cons_succ]
          refine wpAnyH_take (i := 21) (oi := zop14) (v := ?v_wd8_46) rfl (by kernel_rfl) (by kernel_rfl) (by kernel_rfl) (fun _ _ _ h => h) (Or.inl ⟨by rfl, ?y_wd8_46⟩) (by assumption) ?_
          case y_wd8_46 => unfold zop14; intro w hSw; (try dsimp only at hSw); go_simp; with_reducible rfl
          try simp only [zop14, Act.put, List.setIfInBounds_toArray, List.set_cons_zero, List.set_cons_succ]
          refine wpAnyH_take (i := 22) (oi := zop15) (v := ?v_wd8_47) rfl (by kernel_rfl) (by kernel_rfl) (by kernel_rfl) (fun _ _ _ h => h) (Or.inl ⟨by rfl, ?y_wd8_47⟩) (by assumption) ?_
          case y_wd8_47 => unfold zop15; intro w hSw; (try dsimp only at hSw); go_simp; with_reducible rfl
          try simp only [zop15, Act.put, List.setIfInBounds_toArray, List.set_cons_zero, List.set_cons_succ]
          refine wpAnyH_ready (rs := [23]) (by kernel_rfl) (by simp) ?_
          refine AllReadyH.cons (o := zop16) rfl (fun K hK => ?_) ?_
          unfold zop16
          go_simp
          refine hK.out _ _ ?_ (fun hHeld => ?_)
          · (try dsimp only) <;> (trivial)
          clear hK K
          try simp only [Act.put, List.setIfInBounds_toArray, List.set_cons_zero, List.set_cons_succ]
          refine wpAnyH_done (by kernel_rfl) ?_ _
          rotate_left 1
          exact AllReadyH.nil
          exact AllReadyH.nil
          exact AllReadyH.nil
          exact AllReadyH.nil
          refine AllReadyH.cons (o := zop12) rfl (fun K hK => ?_) ?_
          unfold zop12
          go_simp
          refine hK.out _ _ ?_ (fun hHeld => ?_)
          · (try dsimp only) <;> (trivial)
          clear hK K
          try simp only [Act.put, List.setIfInBounds_toArray, List.set_cons_zero, List.set_cons_succ]
          refine wpAnyH_ready (rs := [5]) (by kernel_rfl) (by simp) ?_
          refine AllReadyH.cons (o := zop5) rfl (fun K hK => ?_) ?_
          unfold zop5
          go_simp
          refine hK.out _ _ ?_ (fun hHeld => ?_)
          · (try dsimp only) <;> (trivial)
          clear hK K
          try simp only [Act.put, List.setIfInBounds_toArray, List.set_cons_zero, List.set_cons_succ]
          refine wpAnyH_take (i := 10) (oi := zop6) (v := ?v_wd8_48) rfl (by kernel_rfl) (by kernel_rfl) (by kernel_rfl) (fun _ _ _ h => h) (Or.inl ⟨by rfl, ?y_wd8_48⟩) (by assumption) ?_
          case y_wd8_48 => unfold zop6; intro w hSw; (try dsimp only at hSw); go_simp; with_reducible rfl
          try simp only [zop6, Act.put, List.setIfInBounds_toArray, List.set_cons_zero, List.set_cons_succ]
          refine wpAnyH_ready (rs := [11]) (by kernel_rfl) (by simp) ?_
          refine AllReadyH.cons (o := zop7) rfl (fun K hK => ?_) ?_
          unfold zop7
          go_simp
          refine hK.out _ _ ?_ (fun hHeld => ?_)
          · (try dsimp only) <;> (trivial)
          clear hK K
          try simp only [Act.put, List.setIfInBounds_toArray, List.set_cons_zero, List.set_cons_succ]
          refine wpAnyH_take (i := 18) (oi := zop10) (v := ?v_wd8_49) rfl (by kernel_rfl) (by kernel_rfl) (by kernel_rfl) (fun _ _ _ h => h) (Or.inl ⟨by rfl, ?y_wd8_49⟩) (by assumption) ?_
          case y_wd8_49 => unfold zop10; intro w hSw; (try dsimp only at hSw); go_simp; with_reducible rfl
          try simp only [zop10, Act.put, List.setIfInBounds_toArray, List.set_cons_zero, List.set_cons_succ]
          refine wpAnyH_take (i := 19) (oi := zop11) (v := ?v_wd8_50) rfl (by kernel_rfl) (by kernel_rfl) (by kernel_rfl) (fun _ _ _ h => h) (Or.inl ⟨by rfl, ?y_wd8_50⟩) (by assumption) ?_
          case y_wd8_50 => unfold zop11; intro w hSw; (try dsimp only at hSw); go_simp; with_reducible rfl
          try simp only [zop11, Act.put, List.setIfInBounds_toArray, List.set_cons_zero, List.set_cons_succ]
          refine wpAnyH_ready (rs := [20]) (by kernel_rfl) (by simp) ?_
          refine AllReadyH.cons (o := zop13) rfl (fun K hK => ?_) ?_
          unfold zop13
          go_simp
          refine hK.out _ _ ?_ (fun hHeld => ?_)
          · (try dsimp only) <;> (trivial)
          clear hK K
          try simp only [Act.put, List.setIfInBounds_toArray, List.set_cons_zero, List.set_cons_succ]
          refine wpAnyH_take (i := 21) (oi := zop14) (v := ?v_wd8_51) rfl (by kernel_rfl) (by kernel_rfl) (by kernel_rfl) (fun _ _ _ h => h) (Or.inl ⟨by rfl, ?y_wd8_51⟩) (by assumption) ?_
          case y_wd8_51 => unfold zop14; intro w hSw; (try dsimp only at hSw); go_simp; with_reducible rfl
          try simp only [zop14, Act.put, List.setIfInBounds_toArray, List.set_cons_zero, List.set_cons_succ]
          refine wpAnyH_take (i := 22) (oi := zop15) (v := ?v_wd8_52) rfl (by kernel_rfl) (by kernel_rfl) (by kernel_rfl) (fun _ _ _ h => h) (Or.inl ⟨by rfl, ?y_wd8_52⟩) (by assumption) ?_
          case y_wd8_52 => unfold zop15; intro w hSw; (try dsimp only at hSw); go_simp; with_reducible rfl
          try simp only [zop15, Act.put, List.setIfInBounds_toArray, List.set_cons_zero, List.set_cons_succ]
          refine wpAnyH_ready (rs := [23]) (by kernel_rfl) (by simp) ?_
          refine AllReadyH.cons (o := zop16) rfl (fun K hK => ?_) ?_
          unfold zop16
          go_simp
          refine hK.out _ _ ?_ (fun hHeld => ?_)
          · (try dsimp only) <;> (trivial)
          clear hK K
          try simp only [Act.put, List.setIfInBounds_toArray, List.set_cons_zero, List.set_cons_succ]
          refine wpAnyH_done (by kernel_rfl) ?_ _
          rotate_left 1
          exact AllReadyH.nil
          exact AllReadyH.nil
          exact AllReadyH.nil
          exact AllReadyH.nil
          exact AllReadyH.nil
          exact AllReadyH.nil
          all_goals as_aux_lemma =>
            clear q1 q2 q3 zl zh
            go_wp2_with fail
            go_meet
            case rel =>
              have ha : Alt (fun k => k = gO) w5 (((w5.setCell ⟨gO, k * 2, none⟩ (.int .i64 nl)).setCell ⟨gO, k * 2 + 1, none⟩ (.int .i64 nh)).drew) := (((Alt.refl (fun k => k = gO) w5).setCell (q := ⟨gO, k * 2, none⟩) rfl _).setCell (q := ⟨gO, k * 2 + 1, none⟩) rfl _).drew
              obtain ⟨h1, h2, h3⟩ := S5.out.hg
              have hbO : Blk (((w5.setCell ⟨gO, k * 2, none⟩ (.int .i64 nl)).setCell ⟨gO, k * 2 + 1, none⟩ (.int .i64 nh)).drew) gO ((cur.setIfInBounds (k * 2) (.int .i64 nl)).setIfInBounds (k * 2 + 1) (.int .i64 nh)) 93 := (S5.out.bO.setAt (k * 2) (.int .i64 nl)).setAt (k * 2 + 1) (.int .i64 nh)
              refine ⟨_, { r with la := some ⟨gL, 0, none⟩, lc := cL }, ball.set k ⟨nl, nh⟩, rfl, rfl, Lib.hid ⟨S5.out.s.alt ha h2, Blk.alt S5.out.bX ha (by omega), links_blk2 (Blk.alt BL5.out ha (by have := GL4.out; omega)) TL4.out.1, rgs_blk hbO ?_, by simp, (show r.ls.length ≤ 20 by omega), h1, fun h => ?_⟩⟩
              · rw [List.length_set, take_set (take_set hC.out.1)]
                exact rgCells_set ball k b ⟨nl, nh⟩ hb
              · unfold WOk
                rw [if_neg (by simp [hu4])]
                exact wide_worse HST.out (wd_range (r := r) HST.out hb HNL.out HNH.out)
        · as_aux_lemma =>
          have OL := Lib.hid (show w5.ownsRow wc.heap.size 91 3 (.slice (some ⟨gL, 0, none⟩) r.ls.length cL) r.ls.length (lkCells r.ls) from ⟨lkCells_len _, .inr ⟨gL, cL, curL, rfl, GL4.out.2.2, BL5.out, TL4.out.2.1, TL4.out.2.2.1, TL4.out.2.2.2, TL4.out.1⟩⟩)
          have x4 : w5.cell? ⟨gX, 4, none⟩ = some (.slice (some ⟨gL, 0, none⟩) r.ls.length cL) := S5.out.bX.cell 4 rfl
          have q0 : w5.cell? ⟨w.heap.size + 1, 0, none⟩ = some (.int .i64 q.fr) := S5.out.s.bQ.cell 0 rfl
          have q1 : w5.cell? ⟨w.heap.size + 1, 1, none⟩ = some (.int .i64 q.to) := S5.out.s.bQ.cell 1 rfl
          have HSZ := Lib.hid (show wc.heap.size ≤ w5.heap.size + 1 from by have := GL4.out.2.2; have := BL5.out.lt; omega)
          obtain ⟨i91, hi91, ht0, ht1, ht2⟩ := info_parts info91
          go_upto_region 10 with fail
          go_wp2_with (at_builtin; go_must (refine wpList_append_lies _ rfl _ _ 22 rfl wc.heap.size 91 i91 _ 3 24 Tryd.underlying22 hi91 ht0 ht1 ht2 rfl (by decide) _ r.ls.length (lkCells r.ls) rfl (OL.out.alloc _) ⟨w5.heap.size, 0, none⟩ 1 1 [.int .i64 q.fr, .int .i64 q.to, .bool false] rfl rfl (World.news_of_block (cs := #[.int .i64 q.fr, .int .i64 q.to, .bool false]) (t := 91) (fr := (0, 0)) (heap_alloc_new w5 _)) (by simp [Value.oneCell']) (by decide) (by unfold maxLen; omega) (by omega) (by simpa using HSZ.out) (w5.heap.size + 1) (by simp) ?_); intro gA capA wA hown hgrow hat hlt1; have XB := Lib.hid (show Blk wA gX (rCells { r with la := some ⟨gL, 0, none⟩, lc := cL }) 24 from Blk.alt (p := fun k => k = gL) (Blk.alt (p := fun _ => False) S5.out.bX ((Alt.refl _ _).alloc _) id) ((Alt.refl _ _).grown hgrow (fun k e => by cases e; rfl)) (by have := GL4.out; omega)); have xx4 : wA.cell? ⟨gX, 4, none⟩ = some (.slice (some ⟨gL, 0, none⟩) r.ls.length cL) := XB.out.cell 4 rfl; have zz4 := XB.out.fr 4)
          go_meet
          case rel =>
            have hag : Alt (fun k => k = gL) w5 wA := ((Alt.refl (fun k => k = gL) w5).alloc _).grown hgrow (fun k e => by cases e; rfl)
            obtain ⟨h1, h2, h3⟩ := S5.out.hg
            have hg5 := GL4.out
            have hax : Alt (fun k => k = gX) wA (wA.setCell ⟨gX, 4, none⟩ (.slice (some ⟨gA, 0, none⟩) (r.ls.length + 1) capA)) := (Alt.refl (fun k => k = gX) wA).setCell (q := ⟨gX, 4, none⟩) rfl _
            obtain ⟨curA, ho1, ho2, ho3, ho4⟩ := own_blk hown
            have hne1 : gA ≠ gX := fun e => by have hh := XB.out; rw [← e] at hh; unfold Blk at ho1 hh; rw [ho1] at hh; simp at hh
            refine ⟨_, { r with la := some ⟨gA, 0, none⟩, lc := capA, ls := r.ls ++ [⟨q.fr, q.to, false⟩] }, ball, rfl, rfl, Lib.hid ⟨(S5.out.s.alt hag (by omega)).alt hax h1, by have := XB.out.setAt 4 (.slice (some ⟨gA, 0, none⟩) (r.ls.length + 1) capA); simpa [rCells] using this, links_blk2 (Blk.alt ho1 hax hne1) ?_, rgs_blk (Blk.alt (Blk.alt S5.out.bO hag (by omega)) hax (by omega)) hC.out.1, rfl, (by simp; omega), h1, fun h => ?_⟩⟩
            · rw [lkCells_snoc, ← ho3]; simp
            · unfold WOk
              rw [if_neg (by simp [hu4])]
              exact wide_worse HST.out (wd_link (r := r) HST.out rfl rfl (fun c => rfl) HLK.out (linksOk_of (chk_ok (bal_ok h).1).1))
        · as_aux_lemma =>
          have x3 : w5.cell? ⟨gX, 3, none⟩ = some (.int .i64 r.reach) := S5.out.bX.cell 3 rfl
          have z3 := S5.out.bX.fr 3
          have hrc := (faultN_ok (chk_ok (bal_ok hbal).1).1).1
          have hc1 := hrc.c1
          have hc2 := hrc.c2
          have ew1 : IntKind.i64.wrap (r.reach + 1) = r.reach + 1 := IntWalk.i64_in _ (by omega)
          have ew2 : IntKind.i64.wrap (r.reach + 1 + v % 3) = r.reach + 1 + v % 3 := IntWalk.i64_in _ (by omega)
          have ew0 : IntKind.i64.wrap v = v := IntWalk.i64_in _ (by omega)
          have ew3 : IntKind.i64.wrap (v % 3) = v % 3 := IntWalk.i64_in _ (by omega)
          have et3 : v.tmod 3 = v % 3 := Int.tmod_eq_emod_of_nonneg hV.1
          obtain ⟨nr, hnr⟩ : ∃ x, (if r.reach + 1 + v % 3 < 10 then r.reach + 1 + v % 3 else 10) = x := ⟨_, rfl⟩
          go_upto_region 12 with fail
          go_wp2_with fail
          go_meet
          case rel =>
            have hax : Alt (fun k => k = gX) w5 (w5.setCell ⟨gX, 3, none⟩ (.int .i64 nr)) := (Alt.refl (fun k => k = gX) w5).setCell (q := ⟨gX, 3, none⟩) rfl _
            obtain ⟨h1, h2, h3⟩ := S5.out.hg
            have hg5 := GL4.out
            refine ⟨_, { r with la := some ⟨gL, 0, none⟩, lc := cL, reach := nr }, ball, rfl, rfl, Lib.hid ⟨S5.out.s.alt hax h1, S5.out.bX.setAt 3 _, links_blk2 (Blk.alt BL5.out hax (by omega)) TL4.out.1, rgs_blk (Blk.alt S5.out.bO hax (by omega)) hC.out.1, rfl, (show r.ls.length ≤ 20 by omega), h1, fun h => ?_⟩⟩
            unfold WOk
            rw [if_pos (by simp [hu4])]
            exact wide_better HST.out HNE.out HLK.out (wd_reach (r := r) HST.out rfl (show r.reach ≤ nr by rw [← hnr]; split <;> omega) (fun p => rfl) HLK.out)
        · as_aux_lemma =>
          by_cases hls : r.ls = []
          · as_aux_lemma =>
            have hza : ¬ 0 < r.ls.length := by rw [hls]; simp
            have x4 : w5.cell? ⟨gX, 4, none⟩ = some (.slice (some ⟨gL, 0, none⟩) r.ls.length cL) := S5.out.bX.cell 4 rfl
            go_wp2_with fail
            go_meet
            case rel =>
              obtain ⟨h1, h2, h3⟩ := S5.out.hg
              refine ⟨_, { r with la := some ⟨gL, 0, none⟩, lc := cL }, ball, rfl, rfl, Lib.hid ⟨S5.out.s, S5.out.bX, links_blk2 BL5.out TL4.out.1, rgs_blk S5.out.bO hC.out.1, rfl, (show r.ls.length ≤ 20 by omega), h1, fun h => ?_⟩⟩
              unfold WOk
              rw [if_pos (by simp [hu4])]
              exact wide_better (r := r) HST.out HNE.out HLK.out (fun c hc => Sub.refl _)
          · as_aux_lemma =>
            have hza : 0 < r.ls.length := List.length_pos_iff.2 hls
            have x4 : w5.cell? ⟨gX, 4, none⟩ = some (.slice (some ⟨gL, 0, none⟩) r.ls.length cL) := S5.out.bX.cell 4 rfl
            obtain ⟨k, hk⟩ : ∃ k : Nat, v % (r.ls.length : Int) = (k : Int) := ⟨(v % (r.ls.length : Int)).toNat, by have := Int.emod_nonneg v (b := (r.ls.length : Int)) (by omega); omega⟩
            have hkn : k < r.ls.length := by have := Int.emod_lt_of_pos v (b := (r.ls.length : Int)) (by omega); omega
            obtain ⟨lq, hlq⟩ : ∃ lq, r.ls[k]? = some lq := ⟨r.ls[k]'hkn, List.getElem?_eq_getElem _⟩
            obtain ⟨gg, oo, e, k1, k2, k3⟩ := links_blk2 BL5.out TL4.out.1 k lq hlq
            cases e
            have hkt : v.tmod (r.ls.length : Int) = (k : Int) := by rw [Int.tmod_eq_emod_of_nonneg hV.1]; exact hk
            have ew0 : IntKind.i64.wrap v = v := IntWalk.i64_in _ (by omega)
            have hki : (k : Int) < (r.ls.length : Int) := by omega
            have hk0 : (0 : Int) ≤ (k : Int) := by omega
            have hnz : ¬ ((r.ls.length : Int) = 0) := by omega
            have hnz2 : ((r.ls.length : Int) == 0) = false := beq_eq_false_iff_ne.2 (by omega)
            have q3 : (w5.drew).cell? ⟨gL, k * 3 + 2, none⟩ = some (.bool lq.sr) := by have := cell_lo (Below.drew (Below.refl _ _)) k3; rwa [Nat.zero_add] at this
            have z3 : (w5.drew).frozen? ⟨gL, k * 3 + 2, none⟩ = false := by
              have h0 : Blk (w5.drew) gL curL 91 := BL5.out
              exact h0.fr _
            have xd4 : (w5.drew).cell? ⟨gX, 4, none⟩ = some (.slice (some ⟨gL, 0, none⟩) r.ls.length cL) := x4
            have ha : Alt (fun k => k = gL) w5 ((w5.setCell ⟨gL, k * 3 + 2, none⟩ (.bool true)).drew) := ((Alt.refl (fun k => k = gL) w5).setCell (q := ⟨gL, k * 3 + 2, none⟩) rfl _).drew
            have HXD := Lib.hid xd4
            have HXE := Lib.hid (show ((w5.setCell ⟨gL, k * 3 + 2, none⟩ (.bool true)).drew).cell? ⟨gX, 4, none⟩ = some (.slice (some ⟨gL, 0, none⟩) r.ls.length cL) from alt_cell ha x4 (by have := GL4.out; omega))
            have HA := Lib.hid ha
            clear k1 k2 k3 ha
            go_upto_region 14 with fail
            refine wp_region_held_drew (S := (fun W => W.cell? ⟨gX, 4, none⟩ = some (.slice (some ⟨gL, 0, none⟩) r.ls.length cL))) (by kernel_rfl) ?_ (fun hHeld => ?_)
            · (try dsimp only) <;> (with_reducible first | exact HXE.out | exact HXD.out)
            refine wpAnyH_take (i := 0) (oi := { dst := some 110, op := Op.fieldAddr 24 (Operand.tmp 13) 4, type := 0, pos := "outright.go:137", after := #[], guard := none }) (v := ?v_wd14_53) rfl (by kernel_rfl) (by kernel_rfl) (by kernel_rfl) (fun _ _ _ h => h) (Or.inl ⟨by rfl, ?y_wd14_53⟩) (by assumption) ?_
            case y_wd14_53 => intro w hSw; (try dsimp only at hSw); go_simp; with_reducible rfl
            try simp only [Act.put, List.setIfInBounds_toArray, List.set_cons_zero, List.set_cons_succ]
            refine wpAnyH_take (i := 1) (oi := { dst := some 111, op := Op.load 22 (Operand.tmp 110), type := 22, pos := "outright.go:137", after := #[{ on := 0, ground := Ground.data }], guard := none }) (v := ?v_wd14_54) rfl (by kernel_rfl) (by kernel_rfl) (by kernel_rfl) (fun _ _ _ h => h) (Or.inl ⟨by rfl, ?y_wd14_54⟩) (by assumption) ?_
            case y_wd14_54 => intro w hSw; (try dsimp only at hSw); go_simp; with_reducible rfl
            try simp only [Act.put, List.setIfInBounds_toArray, List.set_cons_zero, List.set_cons_succ]
            refine wpAnyH_take (i := 2) (oi := { dst := some 112, op := Op.move (Operand.tmp 4), type := 5, pos := "outright.go:137", after := #[], guard := none }) (v := ?v_wd14_55) rfl (by kernel_rfl) (by kernel_rfl) (by kernel_rfl) (fun _ _ _ h => h) (Or.inl ⟨by rfl, ?y_wd14_55⟩) (by assumption) ?_
            case y_wd14_55 => intro w hSw; (try dsimp only at hSw); go_simp; with_reducible rfl
            try simp only [Act.put, List.setIfInBounds_toArray, List.set_cons_zero, List.set_cons_succ]
            refine wpAnyH_take (i := 3) (oi := { dst := some 113, op := Op.convert 5 3 (Operand.tmp 112), type := 3, pos := "outright.go:137", after := #[{ on := 2, ground := Ground.data }], guard := none }) (v := ?v_wd14_56) rfl (by kernel_rfl) (by kernel_rfl) (by kernel_rfl) (fun _ _ _ h => h) (Or.inl ⟨by rfl, ?y_wd14_56⟩) (by assumption) ?_
            case y_wd14_56 => intro w hSw; (try dsimp only at hSw); go_simp; with_reducible rfl
            try simp only [Act.put, List.setIfInBounds_toArray, List.set_cons_zero, List.set_cons_succ]
            refine wpAnyH_take (i := 4) (oi := { dst := some 114, op := Op.fieldAddr 24 (Operand.tmp 13) 4, type := 0, pos := "outright.go:137", after := #[], guard := none }) (v := ?v_wd14_57) rfl (by kernel_rfl) (by kernel_rfl) (by kernel_rfl) (fun _ _ _ h => h) (Or.inl ⟨by rfl, ?y_wd14_57⟩) (by assumption) ?_
            case y_wd14_57 => intro w hSw; (try dsimp only at hSw); go_simp; with_reducible rfl
            try simp only [Act.put, List.setIfInBounds_toArray, List.set_cons_zero, List.set_cons_succ]
            refine wpAnyH_take (i := 5) (oi := { dst := some 115, op := Op.load 22 (Operand.tmp 114), type := 22, pos := "outright.go:137", after := #[{ on := 4, ground := Ground.data }], guard := none }) (v := ?v_wd14_58) rfl (by kernel_rfl) (by kernel_rfl) (by kernel_rfl) (fun _ _ _ h => h) (Or.inl ⟨by rfl, ?y_wd14_58⟩) (by assumption) ?_
            case y_wd14_58 => intro w hSw; (try dsimp only at hSw); go_simp; with_reducible rfl
            try simp only [Act.put, List.setIfInBounds_toArray, List.set_cons_zero, List.set_cons_succ]
            refine wpAnyH_take (i := 6) (oi := { dst := some 116, op := Op.call { callee := Callee.builtin Builtin.len, args := #[Operand.tmp 115], argTypes := #[22] }, type := 3, pos := "outright.go:137", after := #[{ on := 5, ground := Ground.data }], guard := none }) (v := ?v_wd14_59) rfl (by kernel_rfl) (by kernel_rfl) (by kernel_rfl) (fun _ _ _ h => h) (Or.inl ⟨by rfl, ?y_wd14_59⟩) (by assumption) ?_
            case y_wd14_59 => intro w hSw; (try dsimp only at hSw); go_simp; with_reducible rfl
            try simp only [Act.put, List.setIfInBounds_toArray, List.set_cons_zero, List.set_cons_succ]
            refine wpAnyH_take (i := 7) (oi := { dst := some 117, op := Op.binOp BinOp.rem 3 (Operand.tmp 113) (Operand.tmp 116) 3, type := 3, pos := "outright.go:137", after := #[{ on := 3, ground := Ground.data }, { on := 6, ground := Ground.data }], guard := none }) (v := ?v_wd14_60) rfl (by kernel_rfl) (by kernel_rfl) (by kernel_rfl) (fun _ _ _ h => h) (Or.inl ⟨by rfl, ?y_wd14_60⟩) (by assumption) ?_
            case y_wd14_60 => intro w hSw; (try dsimp only at hSw); go_simp; with_reducible rfl
            try simp only [Act.put, List.setIfInBounds_toArray, List.set_cons_zero, List.set_cons_succ]
            refine wpAnyH_take (i := 8) (oi := { dst := some 118, op := Op.indexAddr 22 (Operand.tmp 111) (Operand.tmp 117), type := 0, pos := "outright.go:137", after := #[{ on := 1, ground := Ground.data }, { on := 7, ground := Ground.data }, { on := 0, ground := Ground.phase }, { on := 1, ground := Ground.phase }, { on := 2, ground := Ground.phase }, { on := 3, ground := Ground.phase }, { on := 4, ground := Ground.phase }, { on := 5, ground := Ground.phase }, { on := 6, ground := Ground.phase }, { on := 7, ground := Ground.phase }], guard := none }) (v := ?v_wd14_61) rfl (by kernel_rfl) (by kernel_rfl) (by kernel_rfl) (fun _ _ _ h => h) (Or.inl ⟨by rfl, ?y_wd14_61⟩) (by assumption) ?_
            case y_wd14_61 => intro w hSw; (try dsimp only at hSw); go_simp; with_reducible rfl
            try simp only [Act.put, List.setIfInBounds_toArray, List.set_cons_zero, List.set_cons_succ]
            refine wpAnyH_take (i := 9) (oi := { dst := some 119, op := Op.fieldAddr 91 (Operand.tmp 118) 2, type := 0, pos := "outright.go:137", after := #[{ on := 8, ground := Ground.data }, { on := 0, ground := Ground.phase }, { on := 1, ground := Ground.phase }, { on := 2, ground := Ground.phase }, { on := 3, ground := Ground.phase }, { on := 4, ground := Ground.phase }, { on := 5, ground := Ground.phase }, { on := 6, ground := Ground.phase }, { on := 7, ground := Ground.phase }], guard := none }) (v := ?v_wd14_62) rfl (by kernel_rfl) (by kernel_rfl) (by kernel_rfl) (fun _ _ _ h => h) (Or.inl ⟨by rfl, ?y_wd14_62⟩) (by assumption) ?_
            case y_wd14_62 => intro w hSw; (try dsimp only at hSw); go_simp; with_reducible rfl
            try simp only [Act.put, List.setIfInBounds_toArray, List.set_cons_zero, List.set_cons_succ]
            refine wpAnyH_ready (rs := [10]) (by kernel_rfl) (by simp) ?_
            refine AllReadyH.cons (o := { dst := none, op := Op.store 4 (Operand.tmp 119) (Operand.const (Value.bool true)), type := 0, pos := "outright.go:137", after := #[{ on := 9, ground := Ground.data }, { on := 0, ground := Ground.phase }, { on := 1, ground := Ground.phase }, { on := 2, ground := Ground.phase }, { on := 3, ground := Ground.phase }, { on := 4, ground := Ground.phase }, { on := 5, ground := Ground.phase }, { on := 6, ground := Ground.phase }, { on := 7, ground := Ground.phase }], guard := none }) rfl (fun K hK => ?_) ?_
            go_simp
            refine hK.out _ _ ?_ (fun hHeld => ?_)
            · (try dsimp only) <;> (with_reducible first | exact HXE.out | exact HXD.out)
            clear hK K
            try simp only [Act.put, List.setIfInBounds_toArray, List.set_cons_zero, List.set_cons_succ]
            refine wpAnyH_done (by kernel_rfl) ?_ _
            rotate_left 1
            exact AllReadyH.nil
            all_goals as_aux_lemma =>
              clear q3 z3 xd4
              go_wp2_with fail
              go_meet
              case rel =>
                obtain ⟨h1, h2, h3⟩ := S5.out.hg
                have hg5 := GL4.out
                have hbL : Blk ((w5.setCell ⟨gL, k * 3 + 2, none⟩ (.bool true)).drew) gL (curL.setIfInBounds (k * 3 + 2) (.bool true)) 91 := BL5.out.setAt (k * 3 + 2) (.bool true)
                refine ⟨_, { r with la := some ⟨gL, 0, none⟩, lc := cL, ls := r.ls.set k { lq with sr := true } }, ball, rfl, rfl, Lib.hid ⟨S5.out.s.alt HA.out (by omega), by have := Blk.alt S5.out.bX HA.out (by omega); simpa [rCells] using this, links_blk2 hbL ?_, rgs_blk (Blk.alt S5.out.bO HA.out (by omega)) hC.out.1, rfl, (by simp; omega), h1, fun h => ?_⟩⟩
                · rw [List.length_set, take_set TL4.out.1]
                  exact lkCells_set r.ls k lq hlq
                · unfold WOk
                  rw [if_pos (by simp [hu4])]
                  exact wide_better HST.out HNE.out (linksOk_of (chk_ok (bal_ok h).1).1) (wd_sure (r := r) HST.out hlq rfl (fun c => rfl) HLK.out (linksOk_of (chk_ok (bal_ok h).1).1))
      case rest => as_aux_lemma =>
        obtain ⟨bt, x, bl, rfl, rfl, hW⟩ := hcut
        have RDX := Lib.hid (show Calls Tryd.prog 48 #[.agg #[.int .i64 x.rows, .int .i64 x.mid, .int .i64 x.gap, .int .i64 x.reach, .slice x.la x.ls.length x.lc], .slice a xs.length c, .slice (some ⟨gO, 0, none⟩) ball.length cO] wc fun e w' => e = .returned (.bool (readyB x xs bl)) ∧ Below wc.heap.size wc w' from by
          have := ready_any x xs a c bl (some ⟨gO, 0, none⟩) cO wc hW.out.hl (hX.lo hW.out.s.st.bl) hW.out.hg
          rw [hW.out.len] at this; exact this)
        have x0 : wc.cell? ⟨gX, 0, none⟩ = some (.int .i64 x.rows) := hW.out.bX.cell 0 rfl
        have x1 : wc.cell? ⟨gX, 1, none⟩ = some (.int .i64 x.mid) := hW.out.bX.cell 1 rfl
        have x2 : wc.cell? ⟨gX, 2, none⟩ = some (.int .i64 x.gap) := hW.out.bX.cell 2 rfl
        have x3 : wc.cell? ⟨gX, 3, none⟩ = some (.int .i64 x.reach) := hW.out.bX.cell 3 rfl
        have x4 : wc.cell? ⟨gX, 4, none⟩ = some (.slice x.la x.ls.length x.lc) := hW.out.bX.cell 4 rfl
        go_wp2_with fail
        refine RDX.out.mono ?_
        rintro e w6 ⟨rfl, hb⟩
        have W6 := Lib.hid (hW.out.go hb)
        clear hb hW x0 x1 x2 x3 x4 RDX
        by_cases hrx : readyB x xs bl = true
        · as_aux_lemma =>
          rw [hrx]
          have hbx : balE x xs bl = 0 := by unfold readyB at hrx; simp at hrx; exact hrx.2
          have HOK := Lib.hid (W6.out.ok hbx)
          have hl6 := W6.out.len
          have hn6 := W6.out.n
          have RAr := Lib.hid (fun W (h : WX r q xs ball bt gX gO w W x bl) => show Calls Tryd.prog 18 #[.agg #[.int .i64 r.rows, .int .i64 r.mid, .int .i64 r.gap, .int .i64 r.reach, .slice r.la r.ls.length r.lc]] W (NewRk2 r W) from (lawRack_any r W (hL.lo h.s.st.bl) (by omega)).mono fun e w' ⟨a, c, h⟩ => ⟨a, c, h⟩)
          have RAx := Lib.hid (fun W (h : WX r q xs ball bt gX gO w W x bl) => show Calls Tryd.prog 18 #[.agg #[.int .i64 x.rows, .int .i64 x.mid, .int .i64 x.gap, .int .i64 x.reach, .slice x.la x.ls.length x.lc]] W (NewRk2 x W) from (lawRack_any x W h.hl (by omega)).mono fun e w' ⟨a, c, h⟩ => ⟨a, c, h⟩)
          have LX := Lib.hid (fun W (h : WX r q xs ball bt gX gO w W x bl) => lawints_any xs a c W (hX.lo h.s.st.bl) hN (by omega))
          have BAr := Lib.hid (fun W (h : WX r q xs ball bt gX gO w W x bl) => lawBall_any ball (some ⟨g2, o2, none⟩) c2 W (hG.lower h.s.st.bl) (by omega))
          have BAx := Lib.hid (fun W (h : WX r q xs ball bt gX gO w W x bl) => show Calls Tryd.prog 28 #[.slice (some ⟨gO, 0, none⟩) ball.length cO] W (NewBall bl W) from by have := lawBall_any bl (some ⟨gO, 0, none⟩) cO W h.hg (by omega); rwa [hl6] at this)
          have FALr := Lib.hid (fun W a' c' aX cX aG cG (h : WX r q xs ball bt gX gO w W x bl) (g1 : LinksAt W a' r.ls) (g2 : ∀ g o, a' = some ⟨g, o, none⟩ → g < W.heap.size) (g3 : IntsAt W aX xs) (g4 : RgsAt W aG ball) (g5 : ∀ g o, aG = some ⟨g, o, none⟩ → g < W.heap.size) =>
            show Calls Tryd.prog 35 #[.agg #[.int .i64 r.rows, .int .i64 r.mid, .int .i64 r.gap, .int .i64 r.reach, .slice a' r.ls.length c'], .slice aX xs.length cX, .slice aG ball.length cG] W (TwoP (els (sureN r ball (setN xs))) (els (dif (setN xs) (stayN r ball (setN xs)))) W) from
            (Falls_any (r.at a' c') xs aX cX ball aG cG W g1 (show r.ls.length ≤ 1000 by omega) g2 g3 (by omega) g4 (by omega) g5 (hT.lo h.s.st.bl)).mono fun e w' ⟨v1, v2, h⟩ => h.two hbal)
          have LEFr := Lib.hid (fun W a' c' aX cX aG cG (h : WX r q xs ball bt gX gO w W x bl) (g1 : LinksAt W a' r.ls) (g2 : ∀ g o, a' = some ⟨g, o, none⟩ → g < W.heap.size) (g3 : IntsAt W aX xs) (g4 : RgsAt W aG ball) (g5 : ∀ g o, aG = some ⟨g, o, none⟩ → g < W.heap.size) =>
            show Calls Tryd.prog 36 #[.agg #[.int .i64 r.rows, .int .i64 r.mid, .int .i64 r.gap, .int .i64 r.reach, .slice a' r.ls.length c'], .slice aX xs.length cX, .slice aG ball.length cG] W (fun e w' => e = .returned (.tuple #[.agg #[.int .i64 (lowN r ball (setN xs) xs.length), .int .i64 (topN r ball (setN xs))], .int .i64 0]) ∧ Below W.heap.size W w') from
            (Left_any (r.at a' c') xs aX cX ball aG cG W g1 (show r.ls.length ≤ 1000 by omega) g2 g3 (by omega) g4 (by omega) g5 (hT.lo h.s.st.bl)).mono fun e w' h => by
              obtain ⟨h1, h2⟩ := h
              have e0 : balE (r.at a' c') xs ball = 0 := hbal
              have e1 : lefV (r.at a' c') xs ball = ⟨lowN r ball (setN xs) xs.length, topN r ball (setN xs)⟩ := if_pos hbal
              rw [e0, e1] at h1
              exact ⟨h1, h2⟩)
          have FALx := Lib.hid (fun W a' c' aX cX aG cG (h : WX r q xs ball bt gX gO w W x bl) (g1 : LinksAt W a' x.ls) (g2 : ∀ g o, a' = some ⟨g, o, none⟩ → g < W.heap.size) (g3 : IntsAt W aX xs) (g4 : RgsAt W aG bl) (g5 : ∀ g o, aG = some ⟨g, o, none⟩ → g < W.heap.size) =>
            show Calls Tryd.prog 35 #[.agg #[.int .i64 x.rows, .int .i64 x.mid, .int .i64 x.gap, .int .i64 x.reach, .slice a' x.ls.length c'], .slice aX xs.length cX, .slice aG bl.length cG] W (TwoP (els (sureN x bl (setN xs))) (els (dif (setN xs) (stayN x bl (setN xs)))) W) from
            (Falls_any (x.at a' c') xs aX cX bl aG cG W g1 (show x.ls.length ≤ 1000 by omega) g2 g3 (by omega) g4 (by omega) g5 (hT.lo h.s.st.bl)).mono fun e w' ⟨v1, v2, h⟩ => h.two hbx)
          have LEFx := Lib.hid (fun W a' c' aX cX aG cG (h : WX r q xs ball bt gX gO w W x bl) (g1 : LinksAt W a' x.ls) (g2 : ∀ g o, a' = some ⟨g, o, none⟩ → g < W.heap.size) (g3 : IntsAt W aX xs) (g4 : RgsAt W aG bl) (g5 : ∀ g o, aG = some ⟨g, o, none⟩ → g < W.heap.size) =>
            show Calls Tryd.prog 36 #[.agg #[.int .i64 x.rows, .int .i64 x.mid, .int .i64 x.gap, .int .i64 x.reach, .slice a' x.ls.length c'], .slice aX xs.length cX, .slice aG bl.length cG] W (fun e w' => e = .returned (.tuple #[.agg #[.int .i64 (lowN x bl (setN xs) xs.length), .int .i64 (topN x bl (setN xs))], .int .i64 0]) ∧ Below W.heap.size W w') from
            (Left_any (x.at a' c') xs aX cX bl aG cG W g1 (show x.ls.length ≤ 1000 by omega) g2 g3 (by omega) g4 (by omega) g5 (hT.lo h.s.st.bl)).mono fun e w' h => by
              obtain ⟨h1, h2⟩ := h
              have e0 : balE (x.at a' c') xs bl = 0 := hbx
              have e1 : lefV (x.at a' c') xs bl = ⟨lowN x bl (setN xs) xs.length, topN x bl (setN xs)⟩ := if_pos hbx
              rw [e0, e1] at h1
              exact ⟨h1, h2⟩)
          have HSl : Hid ((els (sureN r ball (setN xs))).length ≤ 16) := Lib.hid els_len
          have HMl : Hid ((els (dif (setN xs) (stayN r ball (setN xs)))).length ≤ 16) := Lib.hid els_len
          have HSx : Hid ((els (sureN x bl (setN xs))).length ≤ 16) := Lib.hid els_len
          have HMx : Hid ((els (dif (setN xs) (stayN x bl (setN xs)))).length ≤ 16) := Lib.hid els_len
          unfold WOk at HOK
          generalize els (sureN r ball (setN xs)) = SU at *
          generalize els (dif (setN xs) (stayN r ball (setN xs))) = MA at *
          generalize lowN r ball (setN xs) xs.length = LO at *
          generalize topN r ball (setN xs) = HI at *
          generalize els (sureN x bl (setN xs)) = SU' at *
          generalize els (dif (setN xs) (stayN x bl (setN xs))) = MA' at *
          generalize lowN x bl (setN xs) xs.length = LO' at *
          generalize topN x bl (setN xs) = HI' at *
          clear hL hX hN hG hT hbal hth hrd hrx hbx RD HCB hl6
          obtain ⟨r0, r1, r2, r3, r4⟩ := W6.out.s.st.c
          go_wp2_with fail
          refine (RAr.out _ W6.out).mono ?_
          rintro e wa1 ⟨aR1, cR1, rfl, hl, hg, hb⟩
          have W6a := Lib.hid (W6.out.go hb); have L1 := Lib.hid hl; have G1 := Lib.hid hg
          clear hb hl hg W6 r0 r1 r2 r3 r4
          go_wp2_with fail
          refine (LX.out _ W6a.out).mono ?_
          rintro e wb1 ⟨aX1, cX1, rfl, hi, hb⟩
          have W6b := Lib.hid (W6a.out.go hb)
          have L1 := Lib.hid (L1.out.lo hb); have G1 := Lib.hid (fun g o e => Nat.lt_of_lt_of_le (G1.out g o e) hb.size); have X1 := Lib.hid hi
          clear hb hi W6a
          go_wp2_with fail
          refine (BAr.out _ W6b.out).mono ?_
          rintro e wc1 ⟨aG1, cG1, rfl, hr, hga, hb⟩
          have W6c := Lib.hid (W6b.out.go hb)
          have L1 := Lib.hid (L1.out.lo hb); have G1 := Lib.hid (fun g o e => Nat.lt_of_lt_of_le (G1.out g o e) hb.size); have X1 := Lib.hid (X1.out.lo hb); have R1 := Lib.hid hr; have Z1 := Lib.hid hga
          clear hb hr hga W6b
          go_wp2_with fail
          refine (FALr.out wc1 aR1 cR1 aX1 cX1 aG1 cG1 W6c.out L1.out G1.out X1.out R1.out Z1.out).mono ?_
          rintro e w7 ⟨aS, cS, aM, cM, rfl, hi, hi2, hb⟩
          have W7 := Lib.hid (W6c.out.go hb); have A2 := Lib.hid hi; have B2 := Lib.hid hi2
          clear hb hi hi2 W6c L1 G1 X1 R1 Z1 FALr
          obtain ⟨r0, r1, r2, r3, r4⟩ := W7.out.cx
          go_wp2_with fail
          refine (RAx.out _ W7.out).mono ?_
          rintro e wa2 ⟨aR2, cR2, rfl, hl, hg, hb⟩
          have W7a := Lib.hid (W7.out.go hb); have L2 := Lib.hid hl; have G2 := Lib.hid hg
          have A2 := Lib.hid (A2.out.lo hb); have B2 := Lib.hid (B2.out.lo hb)
          clear hb hl hg W7 r0 r1 r2 r3 r4
          go_wp2_with fail
          refine (LX.out _ W7a.out).mono ?_
          rintro e wb2 ⟨aX2, cX2, rfl, hi, hb⟩
          have W7b := Lib.hid (W7a.out.go hb)
          have L2 := Lib.hid (L2.out.lo hb); have G2 := Lib.hid (fun g o e => Nat.lt_of_lt_of_le (G2.out g o e) hb.size); have X2 := Lib.hid hi
          have A2 := Lib.hid (A2.out.lo hb); have B2 := Lib.hid (B2.out.lo hb)
          clear hb hi W7a
          go_wp2_with fail
          refine (BAx.out _ W7b.out).mono ?_
          rintro e wc2 ⟨aG2, cG2, rfl, hr, hga, hb⟩
          have W7c := Lib.hid (W7b.out.go hb)
          have L2 := Lib.hid (L2.out.lo hb); have G2 := Lib.hid (fun g o e => Nat.lt_of_lt_of_le (G2.out g o e) hb.size); have X2 := Lib.hid (X2.out.lo hb); have R2 := Lib.hid hr; have Z2 := Lib.hid hga
          have A2 := Lib.hid (A2.out.lo hb); have B2 := Lib.hid (B2.out.lo hb)
          clear hb hr hga W7b
          go_wp2_with fail
          refine (FALx.out wc2 aR2 cR2 aX2 cX2 aG2 cG2 W7c.out L2.out G2.out X2.out R2.out Z2.out).mono ?_
          rintro e w8 ⟨aT, cT, aO, cO', rfl, hi, hi2, hb⟩
          have W8 := Lib.hid (W7c.out.go hb); have A3 := Lib.hid hi; have B3 := Lib.hid hi2; have A2 := Lib.hid (A2.out.lo hb); have B2 := Lib.hid (B2.out.lo hb)
          clear hb hi hi2 W7c L2 G2 X2 R2 Z2 FALx
          obtain ⟨r0, r1, r2, r3, r4⟩ := W8.out.s.st.c
          go_wp2_with fail
          refine (RAr.out _ W8.out).mono ?_
          rintro e wa3 ⟨aR3, cR3, rfl, hl, hg, hb⟩
          have W8a := Lib.hid (W8.out.go hb); have L3 := Lib.hid hl; have G3 := Lib.hid hg
          have A2 := Lib.hid (A2.out.lo hb); have B2 := Lib.hid (B2.out.lo hb); have A3 := Lib.hid (A3.out.lo hb); have B3 := Lib.hid (B3.out.lo hb)
          clear hb hl hg W8 r0 r1 r2 r3 r4
          go_wp2_with fail
          refine (LX.out _ W8a.out).mono ?_
          rintro e wb3 ⟨aX3, cX3, rfl, hi, hb⟩
          have W8b := Lib.hid (W8a.out.go hb)
          have L3 := Lib.hid (L3.out.lo hb); have G3 := Lib.hid (fun g o e => Nat.lt_of_lt_of_le (G3.out g o e) hb.size); have X3 := Lib.hid hi
          have A2 := Lib.hid (A2.out.lo hb); have B2 := Lib.hid (B2.out.lo hb); have A3 := Lib.hid (A3.out.lo hb); have B3 := Lib.hid (B3.out.lo hb)
          clear hb hi W8a
          go_wp2_with fail
          refine (BAr.out _ W8b.out).mono ?_
          rintro e wc3 ⟨aG3, cG3, rfl, hr, hga, hb⟩
          have W8c := Lib.hid (W8b.out.go hb)
          have L3 := Lib.hid (L3.out.lo hb); have G3 := Lib.hid (fun g o e => Nat.lt_of_lt_of_le (G3.out g o e) hb.size); have X3 := Lib.hid (X3.out.lo hb); have R3 := Lib.hid hr; have Z3 := Lib.hid hga
          have A2 := Lib.hid (A2.out.lo hb); have B2 := Lib.hid (B2.out.lo hb); have A3 := Lib.hid (A3.out.lo hb); have B3 := Lib.hid (B3.out.lo hb)
          clear hb hr hga W8b
          go_wp2_with fail
          refine (LEFr.out wc3 aR3 cR3 aX3 cX3 aG3 cG3 W8c.out L3.out G3.out X3.out R3.out Z3.out).mono ?_
          rintro e w9 ⟨rfl, hb⟩
          have W9 := Lib.hid (W8c.out.go hb); have A2 := Lib.hid (A2.out.lo hb); have B2 := Lib.hid (B2.out.lo hb); have A3 := Lib.hid (A3.out.lo hb); have B3 := Lib.hid (B3.out.lo hb)
          clear hb W8c L3 G3 X3 R3 Z3 LEFr
          have BN := Lib.hid (Blk.new w9 #[.int .i64 LO, .int .i64 HI] 63)
          have hb := below_al w9 (.cells #[.int .i64 LO, .int .i64 HI] 63)
          go_upto_region 20 with fail
          generalize w9.alloc (.cells #[.int .i64 LO, .int .i64 HI] 63) = w10 at *
          have W10 := Lib.hid (W9.out.go hb); have A2 := Lib.hid (A2.out.lo hb); have B2 := Lib.hid (B2.out.lo hb); have A3 := Lib.hid (A3.out.lo hb); have B3 := Lib.hid (B3.out.lo hb)
          clear hb W9
          generalize w9.heap.size = gN at *
          have N0 : Hid (Blk w10 gN #[.int .i64 LO, .int .i64 HI] 63) := BN
          clear BN
          obtain ⟨r0, r1, r2, r3, r4⟩ := W10.out.cx
          go_wp2_with fail
          refine (RAx.out _ W10.out).mono ?_
          rintro e wa4 ⟨aR4, cR4, rfl, hl, hg, hb⟩
          have W10a := Lib.hid (W10.out.go hb); have L4 := Lib.hid hl; have G4 := Lib.hid hg
          have A2 := Lib.hid (A2.out.lo hb); have B2 := Lib.hid (B2.out.lo hb); have A3 := Lib.hid (A3.out.lo hb); have B3 := Lib.hid (B3.out.lo hb); have N0 := Lib.hid (N0.out.go2 hb)
          clear hb hl hg W10 r0 r1 r2 r3 r4
          go_wp2_with fail
          refine (LX.out _ W10a.out).mono ?_
          rintro e wb4 ⟨aX4, cX4, rfl, hi, hb⟩
          have W10b := Lib.hid (W10a.out.go hb)
          have L4 := Lib.hid (L4.out.lo hb); have G4 := Lib.hid (fun g o e => Nat.lt_of_lt_of_le (G4.out g o e) hb.size); have X4 := Lib.hid hi
          have A2 := Lib.hid (A2.out.lo hb); have B2 := Lib.hid (B2.out.lo hb); have A3 := Lib.hid (A3.out.lo hb); have B3 := Lib.hid (B3.out.lo hb); have N0 := Lib.hid (N0.out.go2 hb)
          clear hb hi W10a
          go_wp2_with fail
          refine (BAx.out _ W10b.out).mono ?_
          rintro e wc4 ⟨aG4, cG4, rfl, hr, hga, hb⟩
          have W10c := Lib.hid (W10b.out.go hb)
          have L4 := Lib.hid (L4.out.lo hb); have G4 := Lib.hid (fun g o e => Nat.lt_of_lt_of_le (G4.out g o e) hb.size); have X4 := Lib.hid (X4.out.lo hb); have R4 := Lib.hid hr; have Z4 := Lib.hid hga
          have A2 := Lib.hid (A2.out.lo hb); have B2 := Lib.hid (B2.out.lo hb); have A3 := Lib.hid (A3.out.lo hb); have B3 := Lib.hid (B3.out.lo hb); have N0 := Lib.hid (N0.out.go2 hb)
          clear hb hr hga W10b
          go_wp2_with fail
          refine (LEFx.out wc4 aR4 cR4 aX4 cX4 aG4 cG4 W10c.out L4.out G4.out X4.out R4.out Z4.out).mono ?_
          rintro e w11 ⟨rfl, hb⟩
          have W11 := Lib.hid (W10c.out.go hb); have A2 := Lib.hid (A2.out.lo hb); have B2 := Lib.hid (B2.out.lo hb); have A3 := Lib.hid (A3.out.lo hb); have B3 := Lib.hid (B3.out.lo hb); have N0 := Lib.hid (N0.out.go2 hb)
          clear hb W10c L4 G4 X4 R4 Z4 LEFx
          have BN := Lib.hid (Blk.new w11 #[.int .i64 LO', .int .i64 HI'] 63)
          have hb := below_al w11 (.cells #[.int .i64 LO', .int .i64 HI'] 63)
          go_upto_region 23 with fail
          generalize w11.alloc (.cells #[.int .i64 LO', .int .i64 HI'] 63) = w12 at *
          have W12 := Lib.hid (W11.out.go hb); have A2 := Lib.hid (A2.out.lo hb); have B2 := Lib.hid (B2.out.lo hb); have A3 := Lib.hid (A3.out.lo hb); have B3 := Lib.hid (B3.out.lo hb); have N0 := Lib.hid (N0.out.go2 hb)
          clear hb W11
          generalize w11.heap.size = gM at *
          have n0 := N0.out.cell 0 rfl
          have n1 := N0.out.cell 1 rfl
          have m0 := BN.out.cell 0 rfl
          have m1 := BN.out.cell 1 rfl
          cases bt
          · as_aux_lemma =>
            have hok := HOK.out
            rw [if_neg (by decide)] at hok
            obtain ⟨p1, p2, p3, p4⟩ := hok
            clear HOK
            have P1 := Lib.hid p1; have P2 := Lib.hid p2
            clear p1 p2
            have hwi := within2_any SU' SU aT aS cT cS w12 A3.out A2.out (by have := HSx.out; omega) (by have := HSl.out; omega)
            rw [P1.out] at hwi
            have hwj := within2_any MA MA' aM aO cM cO' w12 B2.out B3.out (by have := HMl.out; omega) (by have := HMx.out; omega)
            rw [P2.out] at hwj
            have HWI := Lib.hid hwi; have HWJ := Lib.hid hwj
            clear hwi hwj
            go_wp2_with fail
            refine HWI.out.mono ?_
            rintro e xa ⟨rfl, rfl⟩
            go_wp2_with fail
            refine HWJ.out.mono ?_
            rintro e xa ⟨rfl, rfl⟩
            go_wp2_with fail
            refine (AW.out _ W12.out.s.st.bl).mono ?_
            rintro e w13 ⟨rfl, hb⟩
            have W13 := Lib.hid (W12.out.go hb)
            clear hb W12 n0 n1 m0 m1
            go_wp2_with fail
            go_returns
            exact ⟨rfl, W13.out.s.st.bl⟩
          · as_aux_lemma =>
            have hok := HOK.out
            rw [if_pos rfl] at hok
            obtain ⟨p1, p3, p4⟩ := hok
            clear HOK
            have P1 := Lib.hid p1
            clear p1
            have hwi := within2_any SU SU' aS aT cS cT w12 A2.out A3.out (by have := HSl.out; omega) (by have := HSx.out; omega)
            rw [P1.out] at hwi
            have HWI := Lib.hid hwi
            clear hwi
            go_wp2_with fail
            refine HWI.out.mono ?_
            rintro e xa ⟨rfl, rfl⟩
            go_wp2_with fail
            refine (AW.out _ W12.out.s.st.bl).mono ?_
            rintro e w13 ⟨rfl, hb⟩
            have W13 := Lib.hid (W12.out.go hb)
            clear hb W12 n0 n1 m0 m1
            go_wp2_with fail
            go_returns
            exact ⟨rfl, W13.out.s.st.bl⟩
        · have hrx' : readyB x xs bl = false := by simpa using hrx
          rw [hrx']
          go_wp2_with fail
          refine (AW.out _ W6.out.s.st.bl).mono ?_
          rintro e w7 ⟨rfl, hb⟩
          have W7 := Lib.hid (W6.out.go hb)
          clear hb W6
          go_wp2_with fail
          go_returns
          exact ⟨rfl, W7.out.s.st.bl⟩
  · have hrd' : readyB r xs ball = false := by simpa using hrd
    rw [hrd'] at RD
    clear hrd hrd' hL hX hN hG hT
    unfold Rk.val Lk.val at *
    go_enter Tryd.func10, Tryd.ntmps10
    obtain ⟨r0, r1, r2, r3, r4⟩ := S0.out.st.c
    go_wp2_with fail
    refine (RD.out _ S0.out.st.bl).mono ?_
    rintro e w1 ⟨rfl, hb⟩
    have S1 := Lib.hid (S0.out.go hb)
    clear hb S0 r0 r1 r2 r3 r4
    go_wp2_with fail
    refine (AW.out _ S1.out.st.bl).mono ?_
    rintro e w3 ⟨rfl, hb⟩
    have S3 := Lib.hid (S1.out.go hb)
    clear hb S1
    go_wp2_with fail
    go_returns
    exact ⟨rfl, S3.out.st.bl⟩

end Go.Proofs.YtaloffdkadhhnaaDoor
