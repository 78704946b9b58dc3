/- The walk of RackSure. -/
import Derived.Test.YtaloffdkadhhnaaDoorSr
import Derived.Test.YtaloffdkadhhnaaDoorWtr
import Derived.Test.YtaloffdkadhhnaaDoorWcv
set_option linter.unusedVariables false
set_option linter.unusedSimpArgs false
namespace Go.Proofs.YtaloffdkadhhnaaDoor
open Go.RowKit

attribute [local go_sem] Oper.semAt_some

/-- Truth values as cells. -/
def arrB (g : Nat → Bool) (n : Nat) : Array Value := ((List.range n).map fun i => Value.bool (g i)).toArray
theorem arrB_at {g : Nat → Bool} {n i : Nat} (h : i < n) : (arrB g n)[i]? = some (.bool (g i)) := by unfold arrB; simp [h]
theorem arrB_set {g g' : Nat → Bool} {n i : Nat} {b : Bool} (h : ∀ j, g' j = if j = i then b else g j) : (arrB g n).setIfInBounds i (.bool b) = arrB g' n := by
  unfold arrB
  apply Array.ext_getElem?
  intro j
  rw [Array.getElem?_setIfInBounds]
  simp only [List.getElem?_toArray, List.getElem?_map, List.size_toArray, List.length_map, List.length_range]
  by_cases hj : j < n
  · rw [List.getElem?_range hj]
    by_cases e : i = j
    · subst e; simp [hj, h]
    · rw [if_neg e]; simp [h, Ne.symm e]
  · by_cases e : i = j
    · subst e; simp [hj]
    · rw [if_neg e, List.getElem?_eq_none (by simp; omega)]; simp
theorem arrB_congr {g g' : Nat → Bool} {n : Nat} (h : ∀ j, j < n → g j = g' j) : arrB g n = arrB g' n := by
  unfold arrB
  congr 1
  exact List.map_congr_left fun j hj => by rw [h j (List.mem_range.1 hj)]
theorem made_0 : madeCells (Value.bool false).cells (0 * 1) = arrB (fun _ => false) 0 := by kernel_rfl
theorem mk_1 : madeCells (Value.bool false).cells (1 * 1) = arrB (fun _ => false) 1 := by kernel_rfl
theorem mk_2 : madeCells (Value.bool false).cells (2 * 1) = arrB (fun _ => false) 2 := by kernel_rfl
theorem mk_3 : madeCells (Value.bool false).cells (3 * 1) = arrB (fun _ => false) 3 := by kernel_rfl
theorem mk_4 : madeCells (Value.bool false).cells (4 * 1) = arrB (fun _ => false) 4 := by kernel_rfl
theorem mk_5 : madeCells (Value.bool false).cells (5 * 1) = arrB (fun _ => false) 5 := by kernel_rfl
theorem mk_6 : madeCells (Value.bool false).cells (6 * 1) = arrB (fun _ => false) 6 := by kernel_rfl
theorem made_arr {n : Nat} (h : n ≤ 6) : madeCells (Value.bool false).cells (n * 1) = arrB (fun _ => false) n := by
  have : n = 0 ∨ n = 1 ∨ n = 2 ∨ n = 3 ∨ n = 4 ∨ n = 5 ∨ n = 6 := by omega
  rcases this with rfl | rfl | rfl | rfl | rfl | rfl | rfl
  · exact made_0
  · exact mk_1
  · exact mk_2
  · exact mk_3
  · exact mk_4
  · exact mk_5
  · exact mk_6

/-- The first k are new. -/
def mixB (f f' : Nat → Bool) (k j : Nat) : Bool := if j < k then f' j else f j
theorem mixB_0 (f f' : Nat → Bool) (j : Nat) : f j = mixB f f' 0 j := by unfold mixB; simp
theorem mixB_k (f f' : Nat → Bool) (k : Nat) : mixB f f' k k = f k := by unfold mixB; simp
theorem mixB_n (f f' : Nat → Bool) {n j : Nat} (h : j < n) : mixB f f' n j = f' j := by unfold mixB; rw [if_pos h]
theorem mixB_s {f f' : Nat → Bool} {k : Nat} {v : Bool} (hv : f' k = v) (j : Nat) : mixB f f' (k + 1) j = if j = k then v else mixB f f' k j := by
  unfold mixB
  rcases Nat.lt_trichotomy j k with h | h | h
  · simp [h, show j < k + 1 by omega, show j ≠ k by omega]
  · subst h; simp [hv]
  · simp [show ¬ j < k by omega, show ¬ j < k + 1 by omega, show j ≠ k by omega]
/-- Where RackSure stands. -/
structure SS (r : Rk) (w : World) (gN : Nat) (lo hi : Int) (gF gS n : Nat) (W : World) (f s : Nat → Bool) : Prop where
  st : St r w W
  bN : Blk W gN #[.int .i64 lo, .int .i64 hi] 63
  bF : Blk W gF (arrB f n) 4
  bS : Blk W gS (arrB s n) 4
  h : w.heap.size < gN ∧ gN < gF ∧ gN < gS ∧ gF ≠ gS
theorem SS.go {r : Rk} {w : World} {gN : Nat} {lo hi : Int} {gF gS n : Nat} {W W' : World} {f s : Nat → Bool} (h : SS r w gN lo hi gF gS n W f s) (hb : Below W.heap.size W W') : SS r w gN lo hi gF gS n W' f s :=
  ⟨h.st.go hb, Blk.alt h.bN (Alt.of_below (p := fun k => W.heap.size ≤ k) hb (fun k _ e => e)) (by have := h.bN.lt; omega), Blk.alt h.bF (Alt.of_below (p := fun k => W.heap.size ≤ k) hb (fun k _ e => e)) (by have := h.bF.lt; omega), Blk.alt h.bS (Alt.of_below (p := fun k => W.heap.size ≤ k) hb (fun k _ e => e)) (by have := h.bS.lt; omega), h.h⟩
theorem SS.setF {r : Rk} {w : World} {gN : Nat} {lo hi : Int} {gF gS n : Nat} {W : World} {f f' s : Nat → Bool} {i : Nat} {b : Bool} (h : SS r w gN lo hi gF gS n W f s) (hf : ∀ j, f' j = if j = i then b else f j) : SS r w gN lo hi gF gS n (W.setCell ⟨gF, i, none⟩ (.bool b)) f' s := by
  have ha : Alt (fun k => k = gF) W (W.setCell ⟨gF, i, none⟩ (.bool b)) := (Alt.refl (fun k => k = gF) W).setCell (q := ⟨gF, i, none⟩) rfl _
  obtain ⟨h1, h2, h3, h4⟩ := h.h
  refine ⟨⟨?_, Blk.alt h.st.bK ha (by omega)⟩, Blk.alt h.bN ha (by omega), by have := h.bF.setAt i (.bool b); rwa [arrB_set hf] at this, Blk.alt h.bS ha (by omega), h.h⟩
  exact ((Alt.of_below (p := fun k => w.heap.size ≤ k) h.st.bl (fun k _ e => e)).trans (ha.mono fun k _ e => by omega)).below (Nat.le_refl _) fun k e => e
theorem SS.setS {r : Rk} {w : World} {gN : Nat} {lo hi : Int} {gF gS n : Nat} {W : World} {f s s' : Nat → Bool} {i : Nat} {b : Bool} (h : SS r w gN lo hi gF gS n W f s) (hf : ∀ j, s' j = if j = i then b else s j) : SS r w gN lo hi gF gS n (W.setCell ⟨gS, i, none⟩ (.bool b)) f s' := by
  have ha : Alt (fun k => k = gS) W (W.setCell ⟨gS, i, none⟩ (.bool b)) := (Alt.refl (fun k => k = gS) W).setCell (q := ⟨gS, i, none⟩) rfl _
  obtain ⟨h1, h2, h3, h4⟩ := h.h
  refine ⟨⟨?_, Blk.alt h.st.bK ha (by omega)⟩, Blk.alt h.bN ha (by omega), Blk.alt h.bF ha (by omega), by have := h.bS.setAt i (.bool b); rwa [arrB_set hf] at this, h.h⟩
  exact ((Alt.of_below (p := fun k => w.heap.size ≤ k) h.st.bl (fun k _ e => e)).trans (ha.mono fun k _ e => by omega)).below (Nat.le_refl _) fun k e => e
theorem SS.congr {r : Rk} {w : World} {gN : Nat} {lo hi : Int} {gF gS n : Nat} {W : World} {f s f' s' : Nat → Bool} (h : SS r w gN lo hi gF gS n W f s) (hf : ∀ j, j < n → f j = f' j) (hs : ∀ j, j < n → s j = s' j) : SS r w gN lo hi gF gS n W f' s' :=
  ⟨h.st, h.bN, by rw [← arrB_congr hf]; exact h.bF, by rw [← arrB_congr hs]; exact h.bS, h.h⟩

theorem ints_alt {w W : World} {a : Option Addr} {xs : List Int} {p : Nat → Prop} (h : IntsAt w a xs) (hb : Alt p w W) (hp : ∀ g o, a = some ⟨g, o, none⟩ → ¬ p g) : IntsAt W a xs := fun i v hv => by
  obtain ⟨g, o, e, h1⟩ := h i v hv
  exact ⟨g, o, e, alt_cell hb h1 (hp g o e)⟩
theorem below_set {w W : World} (h : Below w.heap.size w W) {g i : Nat} {v : Value} (hg : w.heap.size ≤ g) : Below w.heap.size w (W.setCell ⟨g, i, none⟩ v) :=
  ((Alt.of_below (p := fun k => w.heap.size ≤ k) h (fun k _ e => e)).trans (((Alt.refl (fun k => k = g) W).setCell (q := ⟨g, i, none⟩) rfl v).mono fun k _ e => by omega)).below (Nat.le_refl _) fun k e => e

abbrev zop0 : Oper := { dst := some 73, op := Op.makeSlice 48 (Operand.tmp 72) (Operand.tmp 72), type := 48, pos := "outright.go:96", after := #[{ on := 1, ground := Ground.data }, { on := 1, ground := Ground.data }], guard := none }
abbrev zop1 : Oper := { dst := some 14, op := Op.assign (Operand.tmp 73), type := 48, pos := "outright.go:96", after := #[{ on := 2, ground := Ground.data }, { on := 0, ground := Ground.phase }, { on := 1, ground := Ground.phase }, { on := 2, ground := Ground.phase }, { on := 3, ground := Ground.textOnly Departure.lateStores }, { on := 4, ground := Ground.textOnly Departure.lateStoresUnsure }, { on := 5, ground := Ground.textOnly Departure.lateStoresUnsure }], guard := none }
abbrev zop2 : Oper := { dst := some 76, op := Op.makeSlice 48 (Operand.tmp 75) (Operand.tmp 75), type := 48, pos := "outright.go:96", after := #[{ on := 4, ground := Ground.data }, { on := 4, ground := Ground.data }], guard := none }
abbrev zop3 : Oper := { dst := some 15, op := Op.assign (Operand.tmp 76), type := 48, pos := "outright.go:96", after := #[{ on := 5, ground := Ground.data }, { on := 6, ground := Ground.chain }, { on := 0, ground := Ground.phase }, { on := 1, ground := Ground.phase }, { on := 2, ground := Ground.phase }, { on := 3, ground := Ground.phase }, { on := 4, ground := Ground.phase }, { on := 5, ground := Ground.phase }, { on := 6, ground := Ground.phase }], guard := none }
abbrev zop4 : Oper := { dst := some 128, op := Op.move (Operand.tmp 14), type := 48, pos := "outright.go:109", after := #[], guard := none }
abbrev zop5 : Oper := { dst := some 129, op := Op.move (Operand.tmp 19), type := 3, pos := "outright.go:109", after := #[], guard := none }
abbrev zop6 : Oper := { dst := some 130, op := Op.move (Operand.tmp 15), type := 48, pos := "outright.go:109", after := #[{ on := 30, ground := Ground.gcOnly Departure.lateStores }], guard := none }
abbrev zop7 : Oper := { dst := some 131, op := Op.move (Operand.tmp 19), type := 3, pos := "outright.go:109", after := #[{ on := 30, ground := Ground.gcOnly Departure.lateStores }], guard := none }
abbrev zop8 : Oper := { dst := some 132, op := Op.move (Operand.tmp 14), type := 48, pos := "outright.go:109", after := #[], guard := none }
abbrev zop9 : Oper := { dst := some 133, op := Op.move (Operand.tmp 19), type := 3, pos := "outright.go:109", after := #[], guard := none }
abbrev zop10 : Oper := { dst := some 134, op := Op.indexAddr 48 (Operand.tmp 132) (Operand.tmp 133), type := 0, pos := "outright.go:109", after := #[{ on := 4, ground := Ground.data }, { on := 5, ground := Ground.data }], guard := none }
abbrev zop11 : Oper := { dst := some 145, op := Op.move (Operand.tmp 15), type := 48, pos := "outright.go:109", after := #[], guard := none }
abbrev zop12 : Oper := { dst := some 146, op := Op.move (Operand.tmp 19), type := 3, pos := "outright.go:109", after := #[], guard := none }
abbrev zop13 : Oper := { dst := some 147, op := Op.indexAddr 48 (Operand.tmp 145) (Operand.tmp 146), type := 0, pos := "outright.go:109", after := #[{ on := 17, ground := Ground.data }, { on := 18, ground := Ground.data }], guard := none }
abbrev zop14 : Oper := { dst := some 135, op := Op.load 4 (Operand.tmp 134), type := 4, pos := "outright.go:109", after := #[{ on := 6, ground := Ground.data }], guard := none }
abbrev zop15 : Oper := { dst := some 136, op := Op.move (Operand.tmp 135), type := 4, pos := "outright.go:109", after := #[{ on := 7, ground := Ground.data }], guard := none }
abbrev zop16 : Oper := { dst := some 137, op := Op.move (Operand.tmp 17), type := 25, pos := "outright.go:109", after := #[{ on := 8, ground := Ground.guard }], guard := some (8, false) }
abbrev zop17 : Oper := { dst := some 138, op := Op.move (Operand.tmp 1), type := 25, pos := "outright.go:109", after := #[{ on := 8, ground := Ground.guard }], guard := some (8, false) }
abbrev zop18 : Oper := { dst := some 139, op := Op.move (Operand.tmp 19), type := 3, pos := "outright.go:109", after := #[{ on := 8, ground := Ground.guard }], guard := some (8, false) }
abbrev zop19 : Oper := { dst := some 140, op := Op.indexAddr 25 (Operand.tmp 138) (Operand.tmp 139), type := 0, pos := "outright.go:109", after := #[{ on := 10, ground := Ground.data }, { on := 11, ground := Ground.data }, { on := 8, ground := Ground.guard }], guard := some (8, false) }
abbrev zop20 : Oper := { dst := some 141, op := Op.load 3 (Operand.tmp 140), type := 3, pos := "outright.go:109", after := #[{ on := 12, ground := Ground.data }, { on := 8, ground := Ground.guard }], guard := some (8, false) }
abbrev zop21 : Oper := { dst := some 142, op := Op.call { callee := Callee.value (Operand.func 39), args := #[Operand.tmp 137, Operand.tmp 141], argTypes := #[25, 3] }, type := 4, pos := "outright.go:109", after := #[{ on := 9, ground := Ground.data }, { on := 13, ground := Ground.data }, { on := 8, ground := Ground.chain }, { on := 8, ground := Ground.guard }], guard := some (8, false) }
abbrev zop22 : Oper := { dst := some 143, op := Op.unOp UnOp.not 4 (Operand.tmp 142), type := 4, pos := "outright.go:109", after := #[{ on := 14, ground := Ground.data }, { on := 8, ground := Ground.guard }], guard := some (8, false) }
abbrev zop23 : Oper := { dst := some 144, op := Op.pick (Operand.tmp 136) (Operand.const (Value.bool true)) (Operand.tmp 143), type := 4, pos := "outright.go:109", after := #[{ on := 8, ground := Ground.data }, { on := 15, ground := Ground.data }], guard := none }
abbrev zop24 : Oper := { dst := some 148, op := Op.load 4 (Operand.tmp 147), type := 4, pos := "outright.go:109", after := #[{ on := 19, ground := Ground.data }], guard := none }
abbrev zop25 : Oper := { dst := some 149, op := Op.move (Operand.tmp 148), type := 4, pos := "outright.go:109", after := #[{ on := 20, ground := Ground.data }, { on := 14, ground := Ground.chain }], guard := none }
abbrev zop26 : Oper := { dst := some 150, op := Op.move (Operand.tmp 17), type := 25, pos := "outright.go:109", after := #[{ on := 21, ground := Ground.guard }], guard := some (21, false) }
abbrev zop27 : Oper := { dst := some 151, op := Op.move (Operand.tmp 1), type := 25, pos := "outright.go:109", after := #[{ on := 21, ground := Ground.guard }], guard := some (21, false) }
abbrev zop28 : Oper := { dst := some 152, op := Op.move (Operand.tmp 19), type := 3, pos := "outright.go:109", after := #[{ on := 21, ground := Ground.guard }], guard := some (21, false) }
abbrev zop29 : Oper := { dst := some 153, op := Op.indexAddr 25 (Operand.tmp 151) (Operand.tmp 152), type := 0, pos := "outright.go:109", after := #[{ on := 23, ground := Ground.data }, { on := 24, ground := Ground.data }, { on := 21, ground := Ground.guard }], guard := some (21, false) }
abbrev zop30 : Oper := { dst := some 154, op := Op.load 3 (Operand.tmp 153), type := 3, pos := "outright.go:109", after := #[{ on := 25, ground := Ground.data }, { on := 21, ground := Ground.guard }], guard := some (21, false) }
abbrev zop31 : Oper := { dst := some 155, op := Op.call { callee := Callee.value (Operand.func 39), args := #[Operand.tmp 150, Operand.tmp 154], argTypes := #[25, 3] }, type := 4, pos := "outright.go:109", after := #[{ on := 22, ground := Ground.data }, { on := 26, ground := Ground.data }, { on := 21, ground := Ground.chain }, { on := 21, ground := Ground.guard }], guard := some (21, false) }
abbrev zop32 : Oper := { dst := some 156, op := Op.pick (Operand.tmp 149) (Operand.const (Value.bool true)) (Operand.tmp 155), type := 4, pos := "outright.go:109", after := #[{ on := 21, ground := Ground.data }, { on := 27, ground := Ground.data }], guard := none }
abbrev zop33 : Oper := { dst := some 157, op := Op.indexAddr 48 (Operand.tmp 128) (Operand.tmp 129), type := 0, pos := "outright.go:109", after := #[{ on := 0, ground := Ground.data }, { on := 1, ground := Ground.data }, { on := 0, ground := Ground.phase }, { on := 1, ground := Ground.phase }, { on := 2, ground := Ground.textOnly Departure.lateStores }, { on := 3, ground := Ground.textOnly Departure.lateStores }, { on := 4, ground := Ground.phase }, { on := 5, ground := Ground.phase }, { on := 6, ground := Ground.phase }, { on := 7, ground := Ground.phase }, { on := 8, ground := Ground.phase }, { on := 9, ground := Ground.phase }, { on := 10, ground := Ground.phase }, { on := 11, ground := Ground.phase }, { on := 12, ground := Ground.phase }, { on := 13, ground := Ground.phase }, { on := 14, ground := Ground.phase }, { on := 15, ground := Ground.phase }, { on := 16, ground := Ground.phase }, { on := 17, ground := Ground.textOnly Departure.lateStores }, { on := 18, ground := Ground.textOnly Departure.lateStores }, { on := 19, ground := Ground.textOnly Departure.lateStoresUnsure }, { on := 20, ground := Ground.phase }, { on := 21, ground := Ground.textOnly Departure.lateStoresUnsure }, { on := 22, ground := Ground.textOnly Departure.lateStores }, { on := 23, ground := Ground.textOnly Departure.lateStores }, { on := 24, ground := Ground.textOnly Departure.lateStores }, { on := 25, ground := Ground.textOnly Departure.lateStoresUnsure }, { on := 26, ground := Ground.phase }, { on := 27, ground := Ground.phase }, { on := 28, ground := Ground.textOnly Departure.lateStoresUnsure }], guard := none }
abbrev zop34 : Oper := { dst := none, op := Op.store 4 (Operand.tmp 157) (Operand.tmp 144), type := 0, pos := "outright.go:109", after := #[{ on := 29, ground := Ground.data }, { on := 16, ground := Ground.data }, { on := 27, ground := Ground.chain }, { on := 0, ground := Ground.phase }, { on := 1, ground := Ground.phase }, { on := 2, ground := Ground.textOnly Departure.lateStores }, { on := 3, ground := Ground.textOnly Departure.lateStores }, { on := 4, ground := Ground.phase }, { on := 5, ground := Ground.phase }, { on := 6, ground := Ground.phase }, { on := 7, ground := Ground.phase }, { on := 8, ground := Ground.phase }, { on := 9, ground := Ground.phase }, { on := 10, ground := Ground.phase }, { on := 11, ground := Ground.phase }, { on := 12, ground := Ground.phase }, { on := 13, ground := Ground.phase }, { on := 14, ground := Ground.phase }, { on := 15, ground := Ground.phase }, { on := 16, ground := Ground.phase }, { on := 17, ground := Ground.textOnly Departure.lateStores }, { on := 18, ground := Ground.textOnly Departure.lateStores }, { on := 19, ground := Ground.textOnly Departure.lateStoresUnsure }, { on := 20, ground := Ground.phase }, { on := 21, ground := Ground.textOnly Departure.lateStoresUnsure }, { on := 22, ground := Ground.textOnly Departure.lateStores }, { on := 23, ground := Ground.textOnly Departure.lateStores }, { on := 24, ground := Ground.textOnly Departure.lateStores }, { on := 25, ground := Ground.textOnly Departure.lateStoresUnsure }, { on := 26, ground := Ground.phase }, { on := 27, ground := Ground.phase }, { on := 28, ground := Ground.textOnly Departure.lateStoresUnsure }], guard := none }
abbrev zop35 : Oper := { dst := some 158, op := Op.indexAddr 48 (Operand.tmp 130) (Operand.tmp 131), type := 0, pos := "outright.go:109", after := #[{ on := 2, ground := Ground.data }, { on := 3, ground := Ground.data }, { on := 0, ground := Ground.phase }, { on := 1, ground := Ground.phase }, { on := 2, ground := Ground.phase }, { on := 3, ground := Ground.phase }, { on := 4, ground := Ground.phase }, { on := 5, ground := Ground.phase }, { on := 6, ground := Ground.phase }, { on := 7, ground := Ground.phase }, { on := 8, ground := Ground.phase }, { on := 9, ground := Ground.phase }, { on := 10, ground := Ground.phase }, { on := 11, ground := Ground.phase }, { on := 12, ground := Ground.phase }, { on := 13, ground := Ground.phase }, { on := 14, ground := Ground.phase }, { on := 15, ground := Ground.phase }, { on := 16, ground := Ground.phase }, { on := 17, ground := Ground.phase }, { on := 18, ground := Ground.phase }, { on := 19, ground := Ground.phase }, { on := 20, ground := Ground.phase }, { on := 21, ground := Ground.phase }, { on := 22, ground := Ground.phase }, { on := 23, ground := Ground.phase }, { on := 24, ground := Ground.phase }, { on := 25, ground := Ground.phase }, { on := 26, ground := Ground.phase }, { on := 27, ground := Ground.phase }, { on := 28, ground := Ground.phase }, { on := 29, ground := Ground.phase }, { on := 30, ground := Ground.phase }], guard := none }
abbrev zop36 : Oper := { dst := none, op := Op.store 4 (Operand.tmp 158) (Operand.tmp 156), type := 0, pos := "outright.go:109", after := #[{ on := 31, ground := Ground.data }, { on := 28, ground := Ground.data }, { on := 30, ground := Ground.chain }, { on := 0, ground := Ground.phase }, { on := 1, ground := Ground.phase }, { on := 2, ground := Ground.phase }, { on := 3, ground := Ground.phase }, { on := 4, ground := Ground.phase }, { on := 5, ground := Ground.phase }, { on := 6, ground := Ground.phase }, { on := 7, ground := Ground.phase }, { on := 8, ground := Ground.phase }, { on := 9, ground := Ground.phase }, { on := 10, ground := Ground.phase }, { on := 11, ground := Ground.phase }, { on := 12, ground := Ground.phase }, { on := 13, ground := Ground.phase }, { on := 14, ground := Ground.phase }, { on := 15, ground := Ground.phase }, { on := 16, ground := Ground.phase }, { on := 17, ground := Ground.phase }, { on := 18, ground := Ground.phase }, { on := 19, ground := Ground.phase }, { on := 20, ground := Ground.phase }, { on := 21, ground := Ground.phase }, { on := 22, ground := Ground.phase }, { on := 23, ground := Ground.phase }, { on := 24, ground := Ground.phase }, { on := 25, ground := Ground.phase }, { on := 26, ground := Ground.phase }, { on := 27, ground := Ground.phase }, { on := 28, ground := Ground.phase }, { on := 29, ground := Ground.phase }, { on := 30, ground := Ground.phase }], guard := none }
abbrev zop37 : Oper := { dst := some 165, op := Op.move (Operand.tmp 14), type := 48, pos := "outright.go:113", after := #[], guard := none }
abbrev zop38 : Oper := { dst := some 166, op := Op.move (Operand.tmp 20), type := 3, pos := "outright.go:113", after := #[], guard := none }
abbrev zop39 : Oper := { dst := some 167, op := Op.indexAddr 48 (Operand.tmp 165) (Operand.tmp 166), type := 0, pos := "outright.go:113", after := #[{ on := 0, ground := Ground.data }, { on := 1, ground := Ground.data }], guard := none }
abbrev zop40 : Oper := { dst := some 168, op := Op.load 4 (Operand.tmp 167), type := 4, pos := "outright.go:113", after := #[{ on := 2, ground := Ground.data }], guard := none }
abbrev zop41 : Oper := { dst := some 169, op := Op.move (Operand.tmp 8), type := 25, pos := "outright.go:113", after := #[], guard := none }
abbrev zop42 : Oper := { dst := some 170, op := Op.move (Operand.tmp 1), type := 25, pos := "outright.go:113", after := #[], guard := none }
abbrev zop43 : Oper := { dst := some 171, op := Op.move (Operand.tmp 20), type := 3, pos := "outright.go:113", after := #[], guard := none }
abbrev zop44 : Oper := { dst := some 172, op := Op.indexAddr 25 (Operand.tmp 170) (Operand.tmp 171), type := 0, pos := "outright.go:113", after := #[{ on := 5, ground := Ground.data }, { on := 6, ground := Ground.data }], guard := none }
abbrev zop45 : Oper := { dst := some 173, op := Op.load 3 (Operand.tmp 172), type := 3, pos := "outright.go:113", after := #[{ on := 7, ground := Ground.data }], guard := none }
abbrev zop46 : Oper := { dst := some 174, op := Op.call { callee := Callee.value (Operand.func 39), args := #[Operand.tmp 169, Operand.tmp 173], argTypes := #[25, 3] }, type := 4, pos := "outright.go:113", after := #[{ on := 4, ground := Ground.data }, { on := 8, ground := Ground.data }], guard := none }
abbrev zop47 : Oper := { dst := some 175, op := Op.binOp BinOp.neq 4 (Operand.tmp 168) (Operand.tmp 174) 4, type := 4, pos := "outright.go:113", after := #[{ on := 3, ground := Ground.data }, { on := 9, ground := Ground.data }], guard := none }
abbrev zop48 : Oper := { dst := some 176, op := Op.move (Operand.tmp 175), type := 4, pos := "outright.go:113", after := #[{ on := 10, ground := Ground.data }, { on := 9, ground := Ground.chain }], guard := none }
abbrev zop49 : Oper := { dst := some 177, op := Op.move (Operand.tmp 15), type := 48, pos := "outright.go:113", after := #[{ on := 11, ground := Ground.guard }], guard := some (11, false) }
abbrev zop50 : Oper := { dst := some 178, op := Op.move (Operand.tmp 20), type := 3, pos := "outright.go:113", after := #[{ on := 11, ground := Ground.guard }], guard := some (11, false) }
abbrev zop51 : Oper := { dst := some 179, op := Op.indexAddr 48 (Operand.tmp 177) (Operand.tmp 178), type := 0, pos := "outright.go:113", after := #[{ on := 12, ground := Ground.data }, { on := 13, ground := Ground.data }, { on := 11, ground := Ground.guard }], guard := some (11, false) }
abbrev zop52 : Oper := { dst := some 180, op := Op.load 4 (Operand.tmp 179), type := 4, pos := "outright.go:113", after := #[{ on := 14, ground := Ground.data }, { on := 11, ground := Ground.guard }], guard := some (11, false) }
abbrev zop53 : Oper := { dst := some 181, op := Op.move (Operand.tmp 7), type := 25, pos := "outright.go:113", after := #[{ on := 11, ground := Ground.guard }], guard := some (11, false) }
abbrev zop54 : Oper := { dst := some 182, op := Op.move (Operand.tmp 1), type := 25, pos := "outright.go:113", after := #[{ on := 11, ground := Ground.guard }], guard := some (11, false) }
abbrev zop55 : Oper := { dst := some 183, op := Op.move (Operand.tmp 20), type := 3, pos := "outright.go:113", after := #[{ on := 11, ground := Ground.guard }], guard := some (11, false) }
abbrev zop56 : Oper := { dst := some 184, op := Op.indexAddr 25 (Operand.tmp 182) (Operand.tmp 183), type := 0, pos := "outright.go:113", after := #[{ on := 17, ground := Ground.data }, { on := 18, ground := Ground.data }, { on := 11, ground := Ground.guard }], guard := some (11, false) }
abbrev zop57 : Oper := { dst := some 185, op := Op.load 3 (Operand.tmp 184), type := 3, pos := "outright.go:113", after := #[{ on := 19, ground := Ground.data }, { on := 11, ground := Ground.guard }], guard := some (11, false) }
abbrev zop58 : Oper := { dst := some 186, op := Op.call { callee := Callee.value (Operand.func 39), args := #[Operand.tmp 181, Operand.tmp 185], argTypes := #[25, 3] }, type := 4, pos := "outright.go:113", after := #[{ on := 16, ground := Ground.data }, { on := 20, ground := Ground.data }, { on := 11, ground := Ground.chain }, { on := 11, ground := Ground.guard }], guard := some (11, false) }
abbrev zop59 : Oper := { dst := some 187, op := Op.binOp BinOp.eql 4 (Operand.tmp 180) (Operand.tmp 186) 4, type := 4, pos := "outright.go:113", after := #[{ on := 15, ground := Ground.data }, { on := 21, ground := Ground.data }, { on := 11, ground := Ground.guard }], guard := some (11, false) }
abbrev zop60 : Oper := { dst := some 188, op := Op.pick (Operand.tmp 176) (Operand.const (Value.bool true)) (Operand.tmp 187), type := 4, pos := "outright.go:113", after := #[{ on := 11, ground := Ground.data }, { on := 22, ground := Ground.data }], guard := none }

set_option maxRecDepth 100000 in
set_option maxHeartbeats 40000000 in
theorem rackSure_any (r : Rk) (xs : List Int) (a : Option Addr) (c : Nat) (ball : List Rg) (a2 : Option Addr) (c2 : Nat) (w : World)
    (hL : LinksAt w r.la r.ls) (hX : IntsAt w a xs) (hN : a = none → xs = [] ∧ c = 0) (hG : RgsAt w a2 ball) (hT : TabOK w) :
    Calls Tryd.prog 9 #[r.val, .slice a xs.length c, .slice a2 ball.length c2] w fun e w' => e = .returned (.bool true) ∧ Below w.heap.size w w' := by
  have RD := Lib.hid (fun W (hb : Below w.heap.size w W) => ready_any r xs a c ball a2 c2 W (hL.lo hb) (hX.lo hb) (hG.lower hb))
  have AW := Lib.hid (fun W (hb : Below w.heap.size w W) => awake_any W (hT.lo hb))
  have S0 := Lib.hid (St.start r w)
  unfold rCells at S0
  by_cases hrd : readyB r xs ball = true
  · rw [hrd] at RD
    by_cases h6 : xs.length ≤ 6
    · have hth : thinB r xs.length ball.length = true := by unfold readyB at hrd; simp at hrd; exact hrd.1
      have hbal : balE r xs ball = 0 := by unfold readyB at hrd; simp at hrd; exact hrd.2
      obtain ⟨b1, b2, b3⟩ := thin_bd hth
      have HX := Lib.hid hX
      obtain ⟨q1, q2, q3, q4, q5, q6⟩ := sure_all hbal
      have W1 := Lib.hid q1; have W2 := Lib.hid q2; have FA6 := Lib.hid q3; have ST6 := Lib.hid q4; have LO6 := Lib.hid q5; have HI6 := Lib.hid q6
      have hz6 : ¬ (6 : Int) < (xs.length : Int) := by omega
      have RA := Lib.hid (fun W (hb : Below w.heap.size w W) => show Calls Tryd.prog 18 #[.agg #[.int .i64 r.rows, .int .i64 r.mid, .int .i64 r.gap, .int .i64 r.reach, .slice r.la r.ls.length r.lc]] W (NewRk2 r W) from (lawRack_any r W (hL.lo hb) (by omega)).mono fun e w' ⟨a, c, h⟩ => ⟨a, c, h⟩)
      have LX := Lib.hid (fun W (hb : Below w.heap.size w W) => lawints_any xs a c W (hX.lo hb) hN (by omega))
      have BA := Lib.hid (fun W (hb : Below w.heap.size w W) => lawBall_any ball a2 c2 W (hG.lower hb) (by omega))
      have FAL := Lib.hid (fun W a' c' aX cX aG cG (hb : Below w.heap.size w W) (g1 : LinksAt W a' r.ls) (g2 : ∀ g o, a' = some ⟨g, o, none⟩ → g < W.heap.size) (g3 : IntsAt W aX xs) (g4 : RgsAt W aG ball) (g5 : ∀ g o, aG = some ⟨g, o, none⟩ → g < W.heap.size) =>
        show Calls Tryd.prog 35 #[.agg #[.int .i64 r.rows, .int .i64 r.mid, .int .i64 r.gap, .int .i64 r.reach, .slice a' r.ls.length c'], .slice aX xs.length cX, .slice aG ball.length cG] W (TwoP (els (sureN r ball (setN xs))) (els (dif (setN xs) (stayN r ball (setN xs)))) W) from
        (Falls_any (r.at a' c') xs aX cX ball aG cG W g1 (show r.ls.length ≤ 1000 by omega) g2 g3 (by omega) g4 (by omega) g5 (hT.lo hb)).mono fun e w' ⟨v1, v2, h⟩ => h.two hbal)
      have LEF := Lib.hid (fun W a' c' aX cX aG cG (hb : Below w.heap.size w W) (g1 : LinksAt W a' r.ls) (g2 : ∀ g o, a' = some ⟨g, o, none⟩ → g < W.heap.size) (g3 : IntsAt W aX xs) (g4 : RgsAt W aG ball) (g5 : ∀ g o, aG = some ⟨g, o, none⟩ → g < W.heap.size) =>
        show Calls Tryd.prog 36 #[.agg #[.int .i64 r.rows, .int .i64 r.mid, .int .i64 r.gap, .int .i64 r.reach, .slice a' r.ls.length c'], .slice aX xs.length cX, .slice aG ball.length cG] W (fun e w' => e = .returned (.tuple #[.agg #[.int .i64 (lowN r ball (setN xs) xs.length), .int .i64 (topN r ball (setN xs))], .int .i64 0]) ∧ Below W.heap.size W w') from
        (Left_any (r.at a' c') xs aX cX ball aG cG W g1 (show r.ls.length ≤ 1000 by omega) g2 g3 (by omega) g4 (by omega) g5 (hT.lo hb)).mono fun e w' h => by
          obtain ⟨h1, h2⟩ := h
          have e0 : balE (r.at a' c') xs ball = 0 := hbal
          have e1 : lefV (r.at a' c') xs ball = ⟨lowN r ball (setN xs) xs.length, topN r ball (setN xs)⟩ := if_pos hbal
          rw [e0, e1] at h1
          exact ⟨h1, h2⟩)
      have CAN := Lib.hid (fun B W a' c' aX cX aG cG aV cV (hb : Below w.heap.size w W) (g1 : LinksAt W a' r.ls) (g2 : ∀ g o, a' = some ⟨g, o, none⟩ → g < W.heap.size) (g3 : IntsAt W aX xs) (g4 : RgsAt W aG ball) (g5 : ∀ g o, aG = some ⟨g, o, none⟩ → g < W.heap.size) (g6 : IntsAt W aV (lvS xs B)) =>
        show Calls Tryd.prog 37 #[.agg #[.int .i64 r.rows, .int .i64 r.mid, .int .i64 r.gap, .int .i64 r.reach, .slice a' r.ls.length c'], .slice aX xs.length cX, .slice aG ball.length cG, .slice aV (lvS xs B).length cV] W (fun e w' => e = .returned (.bool (cnS r xs ball B)) ∧ Below W.heap.size W w') from
        CanLeave_any (r.at a' c') xs aX cX ball aG cG (lvS xs B) aV cV W g1 (show r.ls.length ≤ 1000 by omega) g2 g3 (by omega) g4 (by omega) g5 g6 (by have : (lvS xs B).length ≤ xs.length := fewT_len _ _ _; omega) (hT.lo hb))
      have HSl : Hid ((els (sureN r ball (setN xs))).length ≤ 16) := Lib.hid els_len
      have HMl : Hid ((els (dif (setN xs) (stayN r ball (setN xs)))).length ≤ 16) := Lib.hid els_len
      generalize els (sureN r ball (setN xs)) = SU at *
      generalize els (dif (setN xs) (stayN r ball (setN xs))) = MA at *
      generalize lowN r ball (setN xs) xs.length = LO at *
      generalize topN r ball (setN xs) = HI at *
      have HX15 := Lib.hid b2
      have HLV := Lib.hid (show ∀ B, lvS xs B = fewT xs ((B : Nat) : Int) xs.length from fun B => rfl)
      have HLL := Lib.hid (show ∀ B, (lvS xs B).length ≤ xs.length from fun B => fewT_len _ _ _)
      have HFL := Lib.hid (show ∀ (u : Int) n, (fewT xs u n).length ≤ n from fun u n => fewT_len _ _ _)
      have FS1 := Lib.hid (faS_succ r xs ball); have SS1 := Lib.hid (stS_succ r xs ball); have LS1 := Lib.hid (loS_succ r xs ball); have HS1 := Lib.hid (hiS_succ r xs ball)
      have F00 := Lib.hid (show ∀ j, (fun _ : Nat => false) j = faS r xs ball 0 j from fun j => rfl)
      have S00 := Lib.hid (show ∀ j, (fun _ : Nat => false) j = stS r xs ball 0 j from fun j => rfl)
      have L00 := Lib.hid (show (99 : Int) = loS r xs ball 0 from rfl); have H00 := Lib.hid (show (-1 : Int) = hiS r xs ball 0 from rfl)
      have HLB := Lib.hid (show ∀ B, (0 ≤ loS r xs ball B ∧ loS r xs ball B ≤ 99) ∧ (-1 ≤ hiS r xs ball B ∧ hiS r xs ball B ≤ 16) from fun B => by
        induction B with
        | zero => rw [← L00.out, ← H00.out]; omega
        | succ B ih =>
          have := HLL.out B
          rw [LS1.out, HS1.out]
          split <;> omega)
      generalize faS r xs ball = fa at *
      generalize stS r xs ball = sta at *
      generalize loS r xs ball = los at *
      generalize hiS r xs ball = his at *
      generalize cnS r xs ball = cn at *
      generalize hlv : lvS xs = lv at *
      clear hlv
      obtain ⟨i3, hi3, hy0, hy1, hy2⟩ := info_parts info3
      obtain ⟨i4, hi4, hx0, hx1, hx2⟩ := info_parts info4
      have hmk : ∀ W : World, (Instr.makeSlice 48 (.int .i64 (xs.length : Int)) (.int .i64 (xs.length : Int))).run Tryd.prog W = .ok (.slice (some ⟨W.heap.size, 0, none⟩) xs.length xs.length) (W.alloc (.cells (arrB (fun _ => false) xs.length) 4)) := fun W => by
        have h := run_makeSlice (P := Tryd.prog) W 48 4 i4 (.bool false) Tryd.underlying48 hi4 hx0 .i64 .i64 xs.length xs.length (by omega) (by omega) (by rw [hx1]; simp; omega) (by rw [hx2]; omega) (by omega)
        have hM : madeCells (Value.bool false).cells (Int.toNat (xs.length : Int) * i4.size) = arrB (fun _ => false) xs.length := by
          rw [hx1, Int.toNat_natCast]
          exact made_arr h6
        rw [h, hM]; simp
      have hsh : IntKind.i64.wrap (2 ^ xs.length) = ((2 ^ xs.length : Nat) : Int) := by
        have : (2 : Nat) ^ xs.length ≤ 2 ^ 6 := Nat.pow_le_pow_right (by omega) h6
        rw [show ((2 : Int) ^ xs.length) = ((2 ^ xs.length : Nat) : Int) by simp]
        generalize (2 : Nat) ^ xs.length = q at *
        exact IntWalk.i64_in _ (by omega)
      have HP6 := Lib.hid (show 2 ^ xs.length ≤ 64 from Nat.pow_le_pow_right (n := 2) (by omega) h6)
      clear hL hX hN hG hT hbal hth hrd q1 q2 q3 q4 q5 q6 b1 b3 hi4 hx0 hx1 hx2
      unfold Rk.val at *
      go_enter Tryd.func9, Tryd.ntmps9
      go_wp2_with fail
      refine (RD.out _ S0.out.bl).mono ?_
      rintro e w1 ⟨rfl, hb⟩
      have S1 := Lib.hid (S0.out.go hb)
      obtain ⟨r0, r1, r2, r3, r4⟩ := S1.out.c
      clear hb S0
      go_wp2_with fail
      refine (RA.out _ S1.out.bl).mono ?_
      rintro e wa1 ⟨aR1, cR1, rfl, hl, hg, hb⟩
      have S1a := Lib.hid (S1.out.go hb); have L1 := Lib.hid hl; have G1 := Lib.hid hg
      clear hb hl hg S1 r0 r1 r2 r3 r4
      go_wp2_with fail
      refine (LX.out _ S1a.out.bl).mono ?_
      rintro e wb1 ⟨aX1, cX1, rfl, hi, hb⟩
      have S1b := Lib.hid (S1a.out.go hb)
      have L1 := Lib.hid (L1.out.lo hb); have G1 := Lib.hid (fun g o e => Nat.lt_of_lt_of_le (G1.out g o e) hb.size); have X1 := Lib.hid hi
      clear hb hi S1a
      go_wp2_with fail
      refine (BA.out _ S1b.out.bl).mono ?_
      rintro e wc1 ⟨aG1, cG1, rfl, hr, hga, hb⟩
      have S1c := Lib.hid (S1b.out.go hb)
      have L1 := Lib.hid (L1.out.lo hb); have G1 := Lib.hid (fun g o e => Nat.lt_of_lt_of_le (G1.out g o e) hb.size); have X1 := Lib.hid (X1.out.lo hb); have R1 := Lib.hid hr; have Z1 := Lib.hid hga
      clear hb hr hga S1b
      go_wp2_with fail
      refine (FAL.out wc1 aR1 cR1 aX1 cX1 aG1 cG1 S1c.out.bl L1.out G1.out X1.out R1.out Z1.out).mono ?_
      rintro e w2 ⟨aS, cS, aM, cM, rfl, hi, hi2, hb⟩
      have S2 := Lib.hid (S1c.out.go hb); have SU2 := Lib.hid hi; have MA2 := Lib.hid hi2
      clear hb hi hi2 S1c L1 G1 X1 R1 Z1 FAL
      obtain ⟨r0, r1, r2, r3, r4⟩ := S2.out.c
      go_wp2_with fail
      refine (RA.out _ S2.out.bl).mono ?_
      rintro e wa2 ⟨aR2, cR2, rfl, hl, hg, hb⟩
      have S2a := Lib.hid (S2.out.go hb); have L2 := Lib.hid hl; have G2 := Lib.hid hg
      have SU2 := Lib.hid (SU2.out.lo hb); have MA2 := Lib.hid (MA2.out.lo hb)
      clear hb hl hg S2 r0 r1 r2 r3 r4
      go_wp2_with fail
      refine (LX.out _ S2a.out.bl).mono ?_
      rintro e wb2 ⟨aX2, cX2, rfl, hi, hb⟩
      have S2b := Lib.hid (S2a.out.go hb)
      have L2 := Lib.hid (L2.out.lo hb); have G2 := Lib.hid (fun g o e => Nat.lt_of_lt_of_le (G2.out g o e) hb.size); have X2 := Lib.hid hi
      have SU2 := Lib.hid (SU2.out.lo hb); have MA2 := Lib.hid (MA2.out.lo hb)
      clear hb hi S2a
      go_wp2_with fail
      refine (BA.out _ S2b.out.bl).mono ?_
      rintro e wc2 ⟨aG2, cG2, rfl, hr, hga, hb⟩
      have S2c := Lib.hid (S2b.out.go hb)
      have L2 := Lib.hid (L2.out.lo hb); have G2 := Lib.hid (fun g o e => Nat.lt_of_lt_of_le (G2.out g o e) hb.size); have X2 := Lib.hid (X2.out.lo hb); have R2 := Lib.hid hr; have Z2 := Lib.hid hga
      have SU2 := Lib.hid (SU2.out.lo hb); have MA2 := Lib.hid (MA2.out.lo hb)
      clear hb hr hga S2b
      go_wp2_with fail
      refine (LEF.out wc2 aR2 cR2 aX2 cX2 aG2 cG2 S2c.out.bl L2.out G2.out X2.out R2.out Z2.out).mono ?_
      rintro e w3 ⟨rfl, hb⟩
      have S3 := Lib.hid (S2c.out.go hb); have SU3 := Lib.hid (SU2.out.lo hb); have MA3 := Lib.hid (MA2.out.lo hb)
      clear hb S2c L2 G2 X2 R2 Z2 LEF SU2 MA2
      have BN := Lib.hid (Blk.new w3 #[.int .i64 LO, .int .i64 HI] 63)
      have hb := below_al w3 (.cells #[.int .i64 LO, .int .i64 HI] 63)
      have HGN := Lib.hid (show w.heap.size < w3.heap.size from S3.out.bK.lt)
      go_wp2_with fail
      generalize w3.alloc (.cells #[.int .i64 LO, .int .i64 HI] 63) = w4 at *
      have S4 := Lib.hid (S3.out.go hb); have SU4 := Lib.hid (SU3.out.lo hb); have MA4 := Lib.hid (MA3.out.lo hb)
      clear hb S3 SU3 MA3
      generalize w3.heap.size = gN at *
      have hwi := within2_any SU MA aS aM cS cM w4 SU4.out MA4.out (by have := HSl.out; omega) (by have := HMl.out; omega)
      rw [W1.out] at hwi
      refine hwi.mono ?_
      rintro e xa ⟨rfl, rfl⟩
      clear hwi
      go_wp2_with fail
      have HXX := Lib.hid (HX.out.lo S4.out.bl)
      have hwi := within2_any MA xs aM a cM c w4 MA4.out HXX.out (by have := HMl.out; omega) (by have := HX15.out; omega)
      rw [W2.out] at hwi
      refine hwi.mono ?_
      rintro e xa ⟨rfl, rfl⟩
      clear hwi HXX
      go_upto_region 8 with fail
      go_cut [14, 15] from 21 (fun s14 s15 wx => ∃ gF gS : Nat, s14 = .slice (some ⟨gF, 0, none⟩) xs.length xs.length ∧ s15 = .slice (some ⟨gS, 0, none⟩) xs.length xs.length ∧ Hid (SS r w gN LO HI gF gS xs.length wx (fun _ => false) (fun _ => false)) ∧ Hid (Below w4.heap.size w4 wx) ∧ Hid (w4.heap.size ≤ gF ∧ w4.heap.size ≤ gS))
      case first =>
        have hn1 : w4.heap.size ≠ w4.heap.size + 1 := by omega
        have A0 := Lib.hid (show SS r w gN LO HI w4.heap.size (w4.heap.size + 1) xs.length (((w4.drew).alloc (.cells (arrB (fun _ => false) xs.length) 4)).alloc (.cells (arrB (fun _ => false) xs.length) 4)) (fun _ => false) (fun _ => false) from by
          have hb1 := below_al w4.drew (.cells (arrB (fun _ => false) xs.length) 4)
          have hb2 := below_al (w4.drew.alloc (.cells (arrB (fun _ => false) xs.length) 4)) (.cells (arrB (fun _ => false) xs.length) 4)
          have hb0 : Below w4.heap.size w4 w4.drew := Below.drew (Below.refl _ _)
          have hbb := below_go hb0 (below_go hb1 hb2)
          have hlt := BN.out.lt
          refine ⟨S4.out.go hbb, Blk.alt BN.out (Alt.of_below (p := fun k => w4.heap.size ≤ k) hbb (fun k _ e => e)) (by omega), ?_, ?_, ?_⟩
          · exact Blk.alt (p := fun _ => False) (Blk.new w4.drew _ _) ((Alt.refl _ _).alloc _) id
          · have := Blk.new (w4.drew.alloc (.cells (arrB (fun _ => false) xs.length) 4)) (arrB (fun _ => false) xs.length) 4
            rwa [World.size_alloc] at this
          · have := HGN.out; exact ⟨by omega, by omega, by omega, by omega⟩)
        have A1 := Lib.hid (show SS r w gN LO HI (w4.heap.size + 1) w4.heap.size xs.length (((w4.drew).alloc (.cells (arrB (fun _ => false) xs.length) 4)).alloc (.cells (arrB (fun _ => false) xs.length) 4)) (fun _ => false) (fun _ => false) from
          ⟨A0.out.st, A0.out.bN, A0.out.bS, A0.out.bF, by obtain ⟨h1, h2, h3, h4⟩ := A0.out.h; exact ⟨h1, h3, h2, Ne.symm h4⟩⟩)
        have A2 := Lib.hid (show Below w4.heap.size w4 (((w4.drew).alloc (.cells (arrB (fun _ => false) xs.length) 4)).alloc (.cells (arrB (fun _ => false) xs.length) 4)) from
          below_go (Below.drew (Below.refl _ _)) (below_go (below_al w4.drew _) (below_al _ _)))
        have A3 := Lib.hid (show w4.heap.size ≤ w4.heap.size ∧ w4.heap.size ≤ w4.heap.size + 1 from ⟨by omega, by omega⟩)
        have A4 := Lib.hid (show w4.heap.size ≤ w4.heap.size + 1 ∧ w4.heap.size ≤ w4.heap.size from ⟨by omega, by omega⟩)
        clear hn1
        refine wp_region_held_drew (S := (fun W => True)) (by kernel_rfl) ?_ (fun hHeld => ?_)
        · (try dsimp only) <;> (trivial)
        refine wpAnyH_take (i := 0) (oi := { dst := some 71, op := Op.move (Operand.tmp 1), type := 25, pos := "outright.go:96", after := #[], guard := none }) (v := ?v_su8_0) rfl (by kernel_rfl) (by kernel_rfl) (by kernel_rfl) (fun _ _ _ h => h) (Or.inl ⟨by rfl, ?y_su8_0⟩) (by assumption) ?_
        case y_su8_0 => intro w hSw; (try dsimp only at hSw); go_simp; with_reducible rfl
        try simp only [Act.put, List.setIfInBounds_toArray, List.set_cons_zero, List.set_cons_succ]
        refine wpAnyH_take (i := 1) (oi := { dst := some 72, op := Op.call { callee := Callee.builtin Builtin.len, args := #[Operand.tmp 71], argTypes := #[25] }, type := 3, pos := "outright.go:96", after := #[{ on := 0, ground := Ground.data }], guard := none }) (v := ?v_su8_1) rfl (by kernel_rfl) (by kernel_rfl) (by kernel_rfl) (fun _ _ _ h => h) (Or.inl ⟨by rfl, ?y_su8_1⟩) (by assumption) ?_
        case y_su8_1 => intro w hSw; (try dsimp only at hSw); go_simp; with_reducible rfl
        try simp only [Act.put, List.setIfInBounds_toArray, List.set_cons_zero, List.set_cons_succ]
        refine wpAnyH_take (i := 3) (oi := { dst := some 74, op := Op.move (Operand.tmp 1), type := 25, pos := "outright.go:96", after := #[], guard := none }) (v := ?v_su8_2) rfl (by kernel_rfl) (by kernel_rfl) (by kernel_rfl) (fun _ _ _ h => h) (Or.inl ⟨by rfl, ?y_su8_2⟩) (by assumption) ?_
        case y_su8_2 => intro w hSw; (try dsimp only at hSw); go_simp; with_reducible rfl
        try simp only [Act.put, List.setIfInBounds_toArray, List.set_cons_zero, List.set_cons_succ]
        refine wpAnyH_take (i := 4) (oi := { dst := some 75, op := Op.call { callee := Callee.builtin Builtin.len, args := #[Operand.tmp 74], argTypes := #[25] }, type := 3, pos := "outright.go:96", after := #[{ on := 3, ground := Ground.data }], guard := none }) (v := ?v_su8_3) rfl (by kernel_rfl) (by kernel_rfl) (by kernel_rfl) (fun _ _ _ h => h) (Or.inl ⟨by rfl, ?y_su8_3⟩) (by assumption) ?_
        case y_su8_3 => intro w hSw; (try dsimp only at hSw); go_simp; with_reducible rfl
        try simp only [Act.put, List.setIfInBounds_toArray, List.set_cons_zero, List.set_cons_succ]
        refine wpAnyH_ready (rs := [2, 5]) (by kernel_rfl) (by simp) ?_
        refine AllReadyH.cons (o := zop0) rfl (fun K hK => ?_) ?_
        unfold zop0
        go_simp
        refine hK.out _ _ ?_ (fun hHeld => ?_)
        · (try dsimp only) <;> (trivial)
        clear hK K
        try simp only [Act.put, List.setIfInBounds_toArray, List.set_cons_zero, List.set_cons_succ]
        refine wpAnyH_take (i := 6) (oi := zop1) (v := ?v_su8_4) rfl (by kernel_rfl) (by kernel_rfl) (by kernel_rfl) (fun _ _ _ h => h) (Or.inl ⟨by rfl, ?y_su8_4⟩) (by assumption) ?_
        case y_su8_4 => unfold zop1; intro w hSw; (try dsimp only at hSw); go_simp; with_reducible rfl
        try simp only [zop1, Act.put, List.setIfInBounds_toArray, List.set_cons_zero, List.set_cons_succ]
        refine wpAnyH_ready (rs := [5]) (by kernel_rfl) (by simp) ?_
        refine AllReadyH.cons (o := zop2) rfl (fun K hK => ?_) ?_
        unfold zop2
        go_simp
        refine hK.out _ _ ?_ (fun hHeld => ?_)
        · (try dsimp only) <;> (trivial)
        clear hK K
        try simp only [Act.put, List.setIfInBounds_toArray, List.set_cons_zero, List.set_cons_succ]
        refine wpAnyH_take (i := 7) (oi := zop3) (v := ?v_su8_5) rfl (by kernel_rfl) (by kernel_rfl) (by kernel_rfl) (fun _ _ _ h => h) (Or.inl ⟨by rfl, ?y_su8_5⟩) (by assumption) ?_
        case y_su8_5 => unfold zop3; intro w hSw; (try dsimp only at hSw); go_simp; with_reducible rfl
        try simp only [zop3, Act.put, List.setIfInBounds_toArray, List.set_cons_zero, List.set_cons_succ]
        refine wpAnyH_done (by kernel_rfl) ?_ _
        rotate_left 1
        exact AllReadyH.nil
        refine AllReadyH.cons (o := zop2) rfl (fun K hK => ?_) ?_
        unfold zop2
        go_simp
        refine hK.out _ _ ?_ (fun hHeld => ?_)
        · (try dsimp only) <;> (trivial)
        clear hK K
        try simp only [Act.put, List.setIfInBounds_toArray, List.set_cons_zero, List.set_cons_succ]
        refine wpAnyH_ready (rs := [2]) (by kernel_rfl) (by simp) ?_
        refine AllReadyH.cons (o := zop0) rfl (fun K hK => ?_) ?_
        unfold zop0
        go_simp
        refine hK.out _ _ ?_ (fun hHeld => ?_)
        · (try dsimp only) <;> (trivial)
        clear hK K
        try simp only [Act.put, List.setIfInBounds_toArray, List.set_cons_zero, List.set_cons_succ]
        refine wpAnyH_take (i := 6) (oi := zop1) (v := ?v_su8_6) rfl (by kernel_rfl) (by kernel_rfl) (by kernel_rfl) (fun _ _ _ h => h) (Or.inl ⟨by rfl, ?y_su8_6⟩) (by assumption) ?_
        case y_su8_6 => unfold zop1; intro w hSw; (try dsimp only at hSw); go_simp; with_reducible rfl
        try simp only [zop1, Act.put, List.setIfInBounds_toArray, List.set_cons_zero, List.set_cons_succ]
        refine wpAnyH_take (i := 7) (oi := zop3) (v := ?v_su8_7) rfl (by kernel_rfl) (by kernel_rfl) (by kernel_rfl) (fun _ _ _ h => h) (Or.inl ⟨by rfl, ?y_su8_7⟩) (by assumption) ?_
        case y_su8_7 => unfold zop3; intro w hSw; (try dsimp only at hSw); go_simp; with_reducible rfl
        try simp only [zop3, Act.put, List.setIfInBounds_toArray, List.set_cons_zero, List.set_cons_succ]
        refine wpAnyH_done (by kernel_rfl) ?_ _
        rotate_left 1
        exact AllReadyH.nil
        exact AllReadyH.nil
        all_goals
          go_wp2_with fail
          go_meet
          case rel => first | exact ⟨_, _, rfl, rfl, A0, A2, A3⟩ | exact ⟨_, _, rfl, rfl, A1, A2, A4⟩
      case rest =>
        obtain ⟨gF, gS, rfl, rfl, hS, hB, hGG⟩ := hcut
        obtain ⟨NN, hNN⟩ : ∃ N : Nat, N = 2 ^ xs.length := ⟨_, rfl⟩
        rw [← hNN] at hsh HP6 FA6 ST6 LO6 HI6
        have S5 := Lib.hid (show SS r w gN LO HI gF gS xs.length wc (fa 0) (sta 0) from hS.out.congr (fun j _ => F00.out j) (fun j _ => S00.out j))
        have B5 := Lib.hid hB.out
        clear hS hB S4 BN F00 S00 hNN HGN W1 W2
        go_wp2_with fail
        go_loopg [12, 13, 16, 17, 18, 19] NN (fun g s12 s13 s16 s17 s18 s19 wx => ∃ B : Nat, B ≤ NN ∧ g = NN - B ∧ s12 = .int .i64 (los B) ∧ s13 = .int .i64 (his B) ∧ s16 = .int .i64 (B : Int) ∧ Hid (SS r w gN LO HI gF gS xs.length wx (fa B) (sta B)) ∧ Hid (Below w4.heap.size w4 wx))
        case atStart => exact ⟨0, by omega, by omega, by rw [← L00.out], by rw [← H00.out], rfl, S5, B5⟩
        case round =>
          obtain ⟨B, hB, rfl, rfl, rfl, rfl, hS, hBB⟩ := hrel
          clear S5 B5 L00 H00
          have hxn : (0 : Int) ≤ (xs.length : Int) := by omega
          by_cases hlt : B < NN
          · have hzB : (B : Int) < (NN : Int) := by omega
            have hB64 := HP6.out
            have hlb := HLB.out B
            have FS1B := Lib.hid (FS1.out B); have SS1B := Lib.hid (SS1.out B); have LS1B := Lib.hid (LS1.out B); have HS1B := Lib.hid (HS1.out B)
            have CANB := Lib.hid (fun W a' c' aX cX aG cG aV cV h1 h2 h3 h4 h5 h6 h7 => CAN.out B W a' c' aX cX aG cG aV cV h1 h2 h3 h4 h5 h6 h7)
            have HLVB := Lib.hid (HLV.out B)
            have HLLB := Lib.hid (HLL.out B)
            generalize hcnB : cn B = cnB at *
            obtain ⟨w6, hw6⟩ : ∃ W, W = wr := ⟨_, rfl⟩
            subst hw6
            have O6 := Lib.hid (OwnI.nil w6)
            go_wp2_with fail
            go_loopg [17, 18] xs.length (fun g s17 s18 wx => ∃ (j : Nat) (v : Value), j ≤ xs.length ∧ g = xs.length - j ∧ s18 = .int .i64 (j : Int) ∧ s17 = v ∧ Hid (OwnI w6 wx v (fewT xs (B : Int) j)))
            case atStart => exact ⟨0, _, by omega, by omega, rfl, rfl, O6⟩
            case round =>
              obtain ⟨j, v, hj, rfl, rfl, hv, hO⟩ := hrel
              have hv2 := hv.symm
              clear hv O6
              subst hv2
              by_cases hlj : j < xs.length
              · have hz0 : (0 : Int) ≤ (j : Int) := by omega
                have hz1 : (j : Int) < (xs.length : Int) := by omega
                obtain ⟨x, hx⟩ : ∃ x, xs[j]? = some x := ⟨xs[j]'hlj, List.getElem?_eq_getElem _⟩
                obtain ⟨g, o, rfl, k1⟩ := HX.out _ _ hx
                have k2 : wr.cell? ⟨g, o + j, none⟩ = some (.int .i64 x) := cell_lo (hS.out.go hO.out.bl).st.bl k1
                have HTT := Lib.hid (fewT_at (u := (B : Int)) hx)
                have HLn := Lib.hid (HFL.out (B : Int) j)
                have HAL := Lib.hid (show w6.heap.size ≤ wr.heap.size + 1 by have := hO.out.bl.size; omega)
                generalize hzs : fewT xs (B : Int) j = zs at *
                generalize hz2 : fewT xs (B : Int) (j + 1) = zs2 at *
                have HL2 := Lib.hid (show zs.length + 1 ≤ maxLen by have := HLn.out; unfold maxLen; omega)
                have HL3 := Lib.hid (show (zs.length + 1) * 8 ≤ 140737488355328 by have := HLn.out; omega)
                clear hx k1 hzs
                cases hq : (((B : Int) / 2 ^ j).tmod 2 == 1)
                · have HN := Lib.hid (show zs2 = zs by rw [HTT.out]; unfold bitU; rw [hq]; simp)
                  go_wp2_with fail
                  go_roundg (xs.length - (j + 1))
                  case measure => omega
                  case rel => exact ⟨j + 1, _, by omega, rfl, by simp, rfl, by rw [hz2, HN.out]; exact hO⟩
                · have HN := Lib.hid (show zs2 = zs ++ [x] by rw [HTT.out]; unfold bitU; rw [hq]; rfl)
                  go_wp2_with (at_builtin; go_must (refine wpList_append_lies _ rfl _ _ 25 rfl w6.heap.size 3 i3 (.int .i64 0) 1 8 Tryd.underlying25 hi3 hy0 hy1 hy2 rfl (by decide) _ zs.length (zs.map (Value.int .i64)) rfl (hO.out.ow.alloc _) ⟨wr.heap.size, 0, none⟩ 1 1 [.int .i64 x] rfl rfl (World.news_of_block (cs := #[.int .i64 x]) (t := 3) (fr := (0, 0)) (heap_alloc_new wr _)) (by simp [Value.oneCell']) (by decide) HL2.out HL3.out (by simpa using HAL.out) (wr.heap.size + 1) (by simp) ?_); intro gA capA wA hown hgrow hat hlt1; have OP := Lib.hid (hO.out.push hgrow hown); clear hown hgrow hat hlt1)
                  go_roundg (xs.length - (j + 1))
                  case measure => omega
                  case rel => exact ⟨j + 1, _, by omega, rfl, by simp, rfl, by rw [hz2, HN.out]; exact OP⟩
              · have hz1 : ¬ (j : Int) < (xs.length : Int) := by omega
                obtain rfl : j = xs.length := by omega
                have hO2 := hO.out
                rw [← HLVB.out] at hO2
                obtain ⟨aV, cV, rfl, hIV, hNV⟩ := hO2.out
                have S7 := Lib.hid (hS.out.go hO2.bl)
                have B7 := Lib.hid (below_go hBB.out hO2.bl)
                have V7 := Lib.hid hIV
                have NV := Lib.hid hNV
                have HVG := Lib.hid (show ∀ g o, aV = some ⟨g, o, none⟩ → g ≠ gF ∧ g ≠ gS from fun g o e => by
                  have h1 := own_base hO2.ow (k := g) (by rw [e]; rfl)
                  have h2 := hS.out.bF.lt; have h3 := hS.out.bS.lt
                  exact ⟨by omega, by omega⟩)
                clear hO hO2 hIV hNV hlj hS hBB
                obtain ⟨r0, r1, r2, r3, r4⟩ := S7.out.st.c
                go_wp2_with fail
                refine (RA.out _ S7.out.st.bl).mono ?_
                rintro e wa7 ⟨aR7, cR7, rfl, hl, hg, hb⟩
                have S7a := Lib.hid (S7.out.go hb); have L7 := Lib.hid hl; have G7 := Lib.hid hg
                have V7 := Lib.hid (V7.out.lo hb); have B7 := Lib.hid (below_go B7.out hb)
                clear hb hl hg S7 r0 r1 r2 r3 r4
                go_wp2_with fail
                refine (LX.out _ S7a.out.st.bl).mono ?_
                rintro e wb7 ⟨aX7, cX7, rfl, hi, hb⟩
                have S7b := Lib.hid (S7a.out.go hb)
                have L7 := Lib.hid (L7.out.lo hb); have G7 := Lib.hid (fun g o e => Nat.lt_of_lt_of_le (G7.out g o e) hb.size); have X7 := Lib.hid hi
                have V7 := Lib.hid (V7.out.lo hb); have B7 := Lib.hid (below_go B7.out hb)
                clear hb hi S7a
                go_wp2_with fail
                refine (BA.out _ S7b.out.st.bl).mono ?_
                rintro e wc7 ⟨aG7, cG7, rfl, hr, hga, hb⟩
                have S7c := Lib.hid (S7b.out.go hb)
                have L7 := Lib.hid (L7.out.lo hb); have G7 := Lib.hid (fun g o e => Nat.lt_of_lt_of_le (G7.out g o e) hb.size); have X7 := Lib.hid (X7.out.lo hb); have R7 := Lib.hid hr; have Z7 := Lib.hid hga
                have V7 := Lib.hid (V7.out.lo hb); have B7 := Lib.hid (below_go B7.out hb)
                clear hb hr hga S7b
                go_wp2_with fail
                refine (lawints_any (lv B) aV cV wc7 V7.out NV.out (by have := HLLB.out; omega)).mono ?_
                rintro e w8 ⟨aY, cY, rfl, hi, hb⟩
                have S8 := Lib.hid (S7c.out.go hb); have B8 := Lib.hid (below_go B7.out hb); have V8 := Lib.hid (V7.out.lo hb)
                have L8 := Lib.hid (L7.out.lo hb); have G8 := Lib.hid (fun g o e => Nat.lt_of_lt_of_le (G7.out g o e) hb.size); have X8 := Lib.hid (X7.out.lo hb); have R8 := Lib.hid (R7.out.lower hb); have Z8 := Lib.hid (fun g o e => Nat.lt_of_lt_of_le (Z7.out g o e) hb.size)
                have Y8 := Lib.hid hi
                clear hb hi S7c B7 V7 L7 G7 X7 R7 Z7
                go_wp2_with fail
                refine (CANB.out w8 aR7 cR7 aX7 cX7 aG7 cG7 aY cY S8.out.st.bl L8.out G8.out X8.out R8.out Z8.out Y8.out).mono ?_
                rintro e w9 ⟨rfl, hb⟩
                have S9 := Lib.hid (S8.out.go hb); have B9 := Lib.hid (below_go B8.out hb); have V9 := Lib.hid (V8.out.lo hb)
                clear hb S8 B8 V8 L8 G8 X8 R8 Z8 Y8 CANB NV
                cases cnB
                · have HF := Lib.hid (show ∀ j, fa B j = fa (B + 1) j from fun j => by rw [FS1B.out]; simp)
                  have HT := Lib.hid (show ∀ j, sta B j = sta (B + 1) j from fun j => by rw [SS1B.out]; simp)
                  have SE := Lib.hid (S9.out.congr (fun j _ => HF.out j) (fun j _ => HT.out j))
                  have HLO := Lib.hid (show los (B + 1) = los B by rw [LS1B.out]; simp)
                  have HHI := Lib.hid (show his (B + 1) = his B by rw [HS1B.out]; simp)
                  clear S9 V9 HF HT
                  go_wp2_with fail
                  go_roundg (NN - (B + 1))
                  case measure => omega
                  case rel => exact ⟨B + 1, by omega, rfl, by rw [HLO.out], by rw [HHI.out], by simp, SE, B9⟩
                · have HLO := Lib.hid (show los (B + 1) = min (los B) ((lv B).length : Nat) by rw [LS1B.out]; simp)
                  have HHI := Lib.hid (show his (B + 1) = max (his B) ((lv B).length : Nat) by rw [HS1B.out]; simp)
                  obtain ⟨lo2, hm1⟩ : ∃ x, (if (((lv B).length : Nat) : Int) < los B then (((lv B).length : Nat) : Int) else los B) = x := ⟨_, rfl⟩
                  obtain ⟨hi2, hm2⟩ : ∃ x, (if his B < (((lv B).length : Nat) : Int) then (((lv B).length : Nat) : Int) else his B) = x := ⟨_, rfl⟩
                  have HLO := Lib.hid (show los (B + 1) = lo2 by rw [HLO.out, ← hm1]; split <;> omega)
                  have HHI := Lib.hid (show his (B + 1) = hi2 by rw [HHI.out, ← hm2]; split <;> omega)
                  have HFK := Lib.hid (show ∀ j, fa (B + 1) j = (fa B j || !hasI (lv B) (xs.getD j 0)) from fun j => by rw [FS1B.out]; simp)
                  have HTK := Lib.hid (show ∀ j, sta (B + 1) j = (sta B j || hasI (lv B) (xs.getD j 0)) from fun j => by rw [SS1B.out]; simp)
                  have SI := Lib.hid (show SS r w gN LO HI gF gS xs.length w9 (mixB (fa B) (fa (B + 1)) 0) (mixB (sta B) (sta (B + 1)) 0) from S9.out.congr (fun j _ => mixB_0 _ _ j) (fun j _ => mixB_0 _ _ j))
                  have HS9 := Lib.hid (fun x W (ha : Alt (fun k => k = gF ∨ k = gS) w9 W) => has_any (lv B) x aV cV W (ints_alt V9.out ha fun g o e hc => by have := HVG.out g o e; omega) (by have := HLLB.out; omega))
                  have A9 := Lib.hid (Alt.refl (fun k => k = gF ∨ k = gS) w9)
                  clear S9 V9
                  go_wp2_with fail
                  clear hm1 hm2
                  go_loopg [19] xs.length (fun g s19 wx => ∃ k : Nat, k ≤ xs.length ∧ g = xs.length - k ∧ s19 = .int .i64 (k : Int) ∧ Hid (SS r w gN LO HI gF gS xs.length wx (mixB (fa B) (fa (B + 1)) k) (mixB (sta B) (sta (B + 1)) k)) ∧ Hid (Alt (fun k => k = gF ∨ k = gS) w9 wx) ∧ Hid (Below w4.heap.size w4 wx))
                  case atStart => exact ⟨0, by omega, by omega, rfl, SI, A9, B9⟩
                  case round =>
                    obtain ⟨k, hk, rfl, rfl, hS, hA, hBB⟩ := hrel
                    clear SI A9 B9
                    by_cases hlk : k < xs.length
                    · have hz0 : (0 : Int) ≤ (k : Int) := by omega
                      have hz1 : (k : Int) < (xs.length : Int) := by omega
                      obtain ⟨x, hx⟩ : ∃ x, xs[k]? = some x := ⟨xs[k]'hlk, List.getElem?_eq_getElem _⟩
                      obtain ⟨g, o, rfl, k1⟩ := HX.out _ _ hx
                      have HH := Lib.hid (HS9.out x wr.drew hA.out.drew)
                      have e1 := HFK.out k
                      have e2 := HTK.out k
                      rw [getD_of hx] at e1 e2
                      have HE1 := Lib.hid e1; have HE2 := Lib.hid e2
                      have T0 := Lib.hid (hS.out.go (Below.drew (Below.refl _ _)))
                      have kF : wr.drew.cell? ⟨gF, k, none⟩ = some (.bool (fa B k)) := by have := T0.out.bF.cell k (arrB_at hlk); rwa [mixB_k] at this
                      have kS : wr.drew.cell? ⟨gS, k, none⟩ = some (.bool (sta B k)) := by have := T0.out.bS.cell k (arrB_at hlk); rwa [mixB_k] at this
                      have zF := T0.out.bF.fr k
                      have HMF := Lib.hid (show ∀ v, fa (B + 1) k = v → ∀ j, mixB (fa B) (fa (B + 1)) (k + 1) j = if j = k then v else mixB (fa B) (fa (B + 1)) k j from fun v hv j => mixB_s hv j)
                      have HMS := Lib.hid (show ∀ v, sta (B + 1) k = v → ∀ j, mixB (sta B) (sta (B + 1)) (k + 1) j = if j = k then v else mixB (sta B) (sta (B + 1)) k j from fun v hv j => mixB_s hv j)
                      generalize hasI (lv B) x = hh at *
                      have HGGk := Lib.hid (show w4.heap.size ≤ gF ∧ w4.heap.size ≤ gS from hGG.out)
                      clear hx e1 e2
                      generalize hbF : fa B k = bF at *
                      generalize hbS : sta B k = bS at *
                      clear hbF hbS
                      cases bF
                      · cases bS
                        · have M1 := Lib.hid (HMF.out (!hh) (by rw [HE1.out]; simp))
                          have M2 := Lib.hid (HMS.out (hh) (by rw [HE2.out]; simp))
                          have T1 := Lib.hid ((hS.out.setF M1.out).go (Below.drew (Below.refl _ _)))
                          have T2 := Lib.hid (((hS.out.setF M1.out).setS M2.out).go (Below.drew (Below.refl _ _)))
                          have kS1 : (wr.setCell ⟨gF, k, none⟩ (.bool (!hh))).drew.cell? ⟨gS, k, none⟩ = some (.bool false) := by
                            have hne := T0.out.h.2.2.2
                            have : (wr.setCell ⟨gF, k, none⟩ (.bool (!hh))).drew.cell? ⟨gS, k, none⟩ = wr.cell? ⟨gS, k, none⟩ := World.cell?_setCell_far _ _ _ _ (by simpa using hne)
                            rw [this]; exact kS
                          have zS1 := T1.out.bS.fr k
                          have P0 := Lib.hid (show wr.drew.cell? ⟨g, o + k, none⟩ = some (.int .i64 x) from cell_lo T0.out.st.bl k1)
                          have P1 := Lib.hid (show (wr.setCell ⟨gF, k, none⟩ (.bool (!hh))).drew.cell? ⟨g, o + k, none⟩ = some (.int .i64 x) from cell_lo T1.out.st.bl k1)
                          have P2 := Lib.hid (show ((wr.setCell ⟨gF, k, none⟩ (.bool (!hh))).setCell ⟨gS, k, none⟩ (.bool (hh))).drew.cell? ⟨g, o + k, none⟩ = some (.int .i64 x) from cell_lo T2.out.st.bl k1)
                          have A2 := Lib.hid (show Alt (fun k => k = gF ∨ k = gS) w9 ((wr.setCell ⟨gF, k, none⟩ (.bool (!hh))).setCell ⟨gS, k, none⟩ (.bool (hh))).drew from ((hA.out.setCell (q := ⟨gF, k, none⟩) (.inl rfl) _).setCell (q := ⟨gS, k, none⟩) (.inr rfl) _).drew)
                          have B2 := Lib.hid (show Below w4.heap.size w4 ((wr.setCell ⟨gF, k, none⟩ (.bool (!hh))).setCell ⟨gS, k, none⟩ (.bool (hh))).drew from Below.drew (below_set (below_set hBB.out HGGk.out.1) HGGk.out.2))
                          clear HE1 HE2 HMF HMS M1 M2 T1 k1 hS hA hBB HFK HTK
                          go_wp2_with fail
                          refine wp_region_held_drew (S := (fun W => W.cell? ⟨g, o + k, none⟩ = some (.int .i64 x))) (by kernel_rfl) ?_ (fun hHeld => ?_)
                          · (try dsimp only); (with_reducible first | exact P2.out | exact P1.out | exact P0.out)
                          refine wpAnyH_take (i := 0) (oi := zop4) (v := ?v_su23ff_8) rfl (by kernel_rfl) (by kernel_rfl) (by kernel_rfl) (fun _ _ _ h => h) (Or.inl ⟨by rfl, ?y_su23ff_8⟩) (by assumption) ?_
                          case y_su23ff_8 => unfold zop4; intro w hSw; (try dsimp only at hSw); go_simp; with_reducible rfl
                          try simp only [zop4, Act.put, List.setIfInBounds_toArray, List.set_cons_zero, List.set_cons_succ]
                          refine wpAnyH_take (i := 1) (oi := zop5) (v := ?v_su23ff_9) rfl (by kernel_rfl) (by kernel_rfl) (by kernel_rfl) (fun _ _ _ h => h) (Or.inl ⟨by rfl, ?y_su23ff_9⟩) (by assumption) ?_
                          case y_su23ff_9 => unfold zop5; intro w hSw; (try dsimp only at hSw); go_simp; with_reducible rfl
                          try simp only [zop5, Act.put, List.setIfInBounds_toArray, List.set_cons_zero, List.set_cons_succ]
                          refine wpAnyH_take (i := 2) (oi := zop6) (v := ?v_su23ff_10) rfl (by kernel_rfl) (by kernel_rfl) (by kernel_rfl) (fun _ _ _ h => h) (Or.inl ⟨by rfl, ?y_su23ff_10⟩) (by assumption) ?_
                          case y_su23ff_10 => unfold zop6; intro w hSw; (try dsimp only at hSw); go_simp; with_reducible rfl
                          try simp only [zop6, Act.put, List.setIfInBounds_toArray, List.set_cons_zero, List.set_cons_succ]
                          refine wpAnyH_take (i := 3) (oi := zop7) (v := ?v_su23ff_11) rfl (by kernel_rfl) (by kernel_rfl) (by kernel_rfl) (fun _ _ _ h => h) (Or.inl ⟨by rfl, ?y_su23ff_11⟩) (by assumption) ?_
                          case y_su23ff_11 => unfold zop7; intro w hSw; (try dsimp only at hSw); go_simp; with_reducible rfl
                          try simp only [zop7, Act.put, List.setIfInBounds_toArray, List.set_cons_zero, List.set_cons_succ]
                          refine wpAnyH_take (i := 4) (oi := zop8) (v := ?v_su23ff_12) rfl (by kernel_rfl) (by kernel_rfl) (by kernel_rfl) (fun _ _ _ h => h) (Or.inl ⟨by rfl, ?y_su23ff_12⟩) (by assumption) ?_
                          case y_su23ff_12 => unfold zop8; intro w hSw; (try dsimp only at hSw); go_simp; with_reducible rfl
                          try simp only [zop8, Act.put, List.setIfInBounds_toArray, List.set_cons_zero, List.set_cons_succ]
                          refine wpAnyH_take (i := 5) (oi := zop9) (v := ?v_su23ff_13) rfl (by kernel_rfl) (by kernel_rfl) (by kernel_rfl) (fun _ _ _ h => h) (Or.inl ⟨by rfl, ?y_su23ff_13⟩) (by assumption) ?_
                          case y_su23ff_13 => unfold zop9; intro w hSw; (try dsimp only at hSw); go_simp; with_reducible rfl
                          try simp only [zop9, Act.put, List.setIfInBounds_toArray, List.set_cons_zero, List.set_cons_succ]
                          refine wpAnyH_take (i := 6) (oi := zop10) (v := ?v_su23ff_14) rfl (by kernel_rfl) (by kernel_rfl) (by kernel_rfl) (fun _ _ _ h => h) (Or.inl ⟨by rfl, ?y_su23ff_14⟩) (by assumption) ?_
                          case y_su23ff_14 => unfold zop10; intro w hSw; (try dsimp only at hSw); go_simp; with_reducible rfl
                          try simp only [zop10, Act.put, List.setIfInBounds_toArray, List.set_cons_zero, List.set_cons_succ]
                          refine wpAnyH_take (i := 17) (oi := zop11) (v := ?v_su23ff_15) rfl (by kernel_rfl) (by kernel_rfl) (by kernel_rfl) (fun _ _ _ h => h) (Or.inl ⟨by rfl, ?y_su23ff_15⟩) (by assumption) ?_
                          case y_su23ff_15 => unfold zop11; intro w hSw; (try dsimp only at hSw); go_simp; with_reducible rfl
                          try simp only [zop11, Act.put, List.setIfInBounds_toArray, List.set_cons_zero, List.set_cons_succ]
                          refine wpAnyH_take (i := 18) (oi := zop12) (v := ?v_su23ff_16) rfl (by kernel_rfl) (by kernel_rfl) (by kernel_rfl) (fun _ _ _ h => h) (Or.inl ⟨by rfl, ?y_su23ff_16⟩) (by assumption) ?_
                          case y_su23ff_16 => unfold zop12; intro w hSw; (try dsimp only at hSw); go_simp; with_reducible rfl
                          try simp only [zop12, Act.put, List.setIfInBounds_toArray, List.set_cons_zero, List.set_cons_succ]
                          refine wpAnyH_take (i := 19) (oi := zop13) (v := ?v_su23ff_17) rfl (by kernel_rfl) (by kernel_rfl) (by kernel_rfl) (fun _ _ _ h => h) (Or.inl ⟨by rfl, ?y_su23ff_17⟩) (by assumption) ?_
                          case y_su23ff_17 => unfold zop13; intro w hSw; (try dsimp only at hSw); go_simp; with_reducible rfl
                          try simp only [zop13, Act.put, List.setIfInBounds_toArray, List.set_cons_zero, List.set_cons_succ]
                          refine wpAnyH_ready (rs := [7, 20]) (by kernel_rfl) (by simp) ?_
                          refine AllReadyH.cons (o := zop14) rfl (fun K hK => ?_) ?_
                          unfold zop14
                          go_simp
                          refine hK.out _ _ ?_ (fun hHeld => ?_)
                          · (try dsimp only); (with_reducible first | exact P2.out | exact P1.out | exact P0.out)
                          clear hK K
                          try simp only [Act.put, List.setIfInBounds_toArray, List.set_cons_zero, List.set_cons_succ]
                          refine wpAnyH_take (i := 8) (oi := zop15) (v := ?v_su23ff_18) rfl (by kernel_rfl) (by kernel_rfl) (by kernel_rfl) (fun _ _ _ h => h) (Or.inl ⟨by rfl, ?y_su23ff_18⟩) (by assumption) ?_
                          case y_su23ff_18 => unfold zop15; intro w hSw; (try dsimp only at hSw); go_simp; with_reducible rfl
                          try simp only [zop15, Act.put, List.setIfInBounds_toArray, List.set_cons_zero, List.set_cons_succ]
                          refine wpAnyH_take (i := 9) (oi := zop16) (v := ?v_su23ff_19) rfl (by kernel_rfl) (by kernel_rfl) (by kernel_rfl) (fun _ _ _ h => h) (Or.inl ⟨by rfl, ?y_su23ff_19⟩) (by assumption) ?_
                          case y_su23ff_19 => unfold zop16; intro w hSw; (try dsimp only at hSw); go_simp; with_reducible rfl
                          try simp only [zop16, Act.put, List.setIfInBounds_toArray, List.set_cons_zero, List.set_cons_succ]
                          refine wpAnyH_take (i := 10) (oi := zop17) (v := ?v_su23ff_20) rfl (by kernel_rfl) (by kernel_rfl) (by kernel_rfl) (fun _ _ _ h => h) (Or.inl ⟨by rfl, ?y_su23ff_20⟩) (by assumption) ?_
                          case y_su23ff_20 => unfold zop17; intro w hSw; (try dsimp only at hSw); go_simp; with_reducible rfl
                          try simp only [zop17, Act.put, List.setIfInBounds_toArray, List.set_cons_zero, List.set_cons_succ]
                          refine wpAnyH_take (i := 11) (oi := zop18) (v := ?v_su23ff_21) rfl (by kernel_rfl) (by kernel_rfl) (by kernel_rfl) (fun _ _ _ h => h) (Or.inl ⟨by rfl, ?y_su23ff_21⟩) (by assumption) ?_
                          case y_su23ff_21 => unfold zop18; intro w hSw; (try dsimp only at hSw); go_simp; with_reducible rfl
                          try simp only [zop18, Act.put, List.setIfInBounds_toArray, List.set_cons_zero, List.set_cons_succ]
                          refine wpAnyH_take (i := 12) (oi := zop19) (v := ?v_su23ff_22) rfl (by kernel_rfl) (by kernel_rfl) (by kernel_rfl) (fun _ _ _ h => h) (Or.inl ⟨by rfl, ?y_su23ff_22⟩) (by assumption) ?_
                          case y_su23ff_22 => unfold zop19; intro w hSw; (try dsimp only at hSw); go_simp; with_reducible rfl
                          try simp only [zop19, Act.put, List.setIfInBounds_toArray, List.set_cons_zero, List.set_cons_succ]
                          refine wpAnyH_take (i := 13) (oi := zop20) (v := ?v_su23ff_23) rfl (by kernel_rfl) (by kernel_rfl) (by kernel_rfl) (fun _ _ _ h => h) (Or.inl ⟨by rfl, ?y_su23ff_23⟩) (by assumption) ?_
                          case y_su23ff_23 => unfold zop20; intro w hSw; (try dsimp only at hSw); go_simp; with_reducible rfl
                          try simp only [zop20, Act.put, List.setIfInBounds_toArray, List.set_cons_zero, List.set_cons_succ]
                          refine wpAnyH_ready (rs := [14, 20]) (by kernel_rfl) (by simp) ?_
                          refine AllReadyH.cons (o := zop21) rfl (fun K hK => ?_) ?_
                          unfold zop21
                          go_simp
                          (first | (go_at_call 39; (with_reducible refine HH.out.mono ?_); rintro e wI ⟨rfl, rfl⟩))
                          go_wp2_with fail
                          refine hK.out _ _ ?_ (fun hHeld => ?_)
                          · (try dsimp only); (with_reducible first | exact P2.out | exact P1.out | exact P0.out)
                          clear hK K
                          try simp only [Act.put, List.setIfInBounds_toArray, List.set_cons_zero, List.set_cons_succ]
                          refine wpAnyH_take (i := 15) (oi := zop22) (v := ?v_su23ff_24) rfl (by kernel_rfl) (by kernel_rfl) (by kernel_rfl) (fun _ _ _ h => h) (Or.inl ⟨by rfl, ?y_su23ff_24⟩) (by assumption) ?_
                          case y_su23ff_24 => unfold zop22; intro w hSw; (try dsimp only at hSw); go_simp; with_reducible rfl
                          try simp only [zop22, Act.put, List.setIfInBounds_toArray, List.set_cons_zero, List.set_cons_succ]
                          refine wpAnyH_take (i := 16) (oi := zop23) (v := ?v_su23ff_25) rfl (by kernel_rfl) (by kernel_rfl) (by kernel_rfl) (fun _ _ _ h => h) (Or.inl ⟨by rfl, ?y_su23ff_25⟩) (by assumption) ?_
                          case y_su23ff_25 => unfold zop23; intro w hSw; (try dsimp only at hSw); go_simp; with_reducible rfl
                          try simp only [zop23, Act.put, List.setIfInBounds_toArray, List.set_cons_zero, List.set_cons_succ]
                          refine wpAnyH_ready (rs := [20]) (by kernel_rfl) (by simp) ?_
                          refine AllReadyH.cons (o := zop24) rfl (fun K hK => ?_) ?_
                          unfold zop24
                          go_simp
                          refine hK.out _ _ ?_ (fun hHeld => ?_)
                          · (try dsimp only); (with_reducible first | exact P2.out | exact P1.out | exact P0.out)
                          clear hK K
                          try simp only [Act.put, List.setIfInBounds_toArray, List.set_cons_zero, List.set_cons_succ]
                          refine wpAnyH_take (i := 21) (oi := zop25) (v := ?v_su23ff_26) rfl (by kernel_rfl) (by kernel_rfl) (by kernel_rfl) (fun _ _ _ h => h) (Or.inl ⟨by rfl, ?y_su23ff_26⟩) (by assumption) ?_
                          case y_su23ff_26 => unfold zop25; intro w hSw; (try dsimp only at hSw); go_simp; with_reducible rfl
                          try simp only [zop25, Act.put, List.setIfInBounds_toArray, List.set_cons_zero, List.set_cons_succ]
                          refine wpAnyH_take (i := 22) (oi := zop26) (v := ?v_su23ff_27) rfl (by kernel_rfl) (by kernel_rfl) (by kernel_rfl) (fun _ _ _ h => h) (Or.inl ⟨by rfl, ?y_su23ff_27⟩) (by assumption) ?_
                          case y_su23ff_27 => unfold zop26; intro w hSw; (try dsimp only at hSw); go_simp; with_reducible rfl
                          try simp only [zop26, Act.put, List.setIfInBounds_toArray, List.set_cons_zero, List.set_cons_succ]
                          refine wpAnyH_take (i := 23) (oi := zop27) (v := ?v_su23ff_28) rfl (by kernel_rfl) (by kernel_rfl) (by kernel_rfl) (fun _ _ _ h => h) (Or.inl ⟨by rfl, ?y_su23ff_28⟩) (by assumption) ?_
                          case y_su23ff_28 => unfold zop27; intro w hSw; (try dsimp only at hSw); go_simp; with_reducible rfl
                          try simp only [zop27, Act.put, List.setIfInBounds_toArray, List.set_cons_zero, List.set_cons_succ]
                          refine wpAnyH_take (i := 24) (oi := zop28) (v := ?v_su23ff_29) rfl (by kernel_rfl) (by kernel_rfl) (by kernel_rfl) (fun _ _ _ h => h) (Or.inl ⟨by rfl, ?y_su23ff_29⟩) (by assumption) ?_
                          case y_su23ff_29 => unfold zop28; intro w hSw; (try dsimp only at hSw); go_simp; with_reducible rfl
                          try simp only [zop28, Act.put, List.setIfInBounds_toArray, List.set_cons_zero, List.set_cons_succ]
                          refine wpAnyH_take (i := 25) (oi := zop29) (v := ?v_su23ff_30) rfl (by kernel_rfl) (by kernel_rfl) (by kernel_rfl) (fun _ _ _ h => h) (Or.inl ⟨by rfl, ?y_su23ff_30⟩) (by assumption) ?_
                          case y_su23ff_30 => unfold zop29; intro w hSw; (try dsimp only at hSw); go_simp; with_reducible rfl
                          try simp only [zop29, Act.put, List.setIfInBounds_toArray, List.set_cons_zero, List.set_cons_succ]
                          refine wpAnyH_take (i := 26) (oi := zop30) (v := ?v_su23ff_31) rfl (by kernel_rfl) (by kernel_rfl) (by kernel_rfl) (fun _ _ _ h => h) (Or.inl ⟨by rfl, ?y_su23ff_31⟩) (by assumption) ?_
                          case y_su23ff_31 => unfold zop30; intro w hSw; (try dsimp only at hSw); go_simp; with_reducible rfl
                          try simp only [zop30, Act.put, List.setIfInBounds_toArray, List.set_cons_zero, List.set_cons_succ]
                          refine wpAnyH_ready (rs := [27]) (by kernel_rfl) (by simp) ?_
                          refine AllReadyH.cons (o := zop31) rfl (fun K hK => ?_) ?_
                          unfold zop31
                          go_simp
                          (first | (go_at_call 39; (with_reducible refine HH.out.mono ?_); rintro e wI ⟨rfl, rfl⟩))
                          go_wp2_with fail
                          refine hK.out _ _ ?_ (fun hHeld => ?_)
                          · (try dsimp only); (with_reducible first | exact P2.out | exact P1.out | exact P0.out)
                          clear hK K
                          try simp only [Act.put, List.setIfInBounds_toArray, List.set_cons_zero, List.set_cons_succ]
                          refine wpAnyH_take (i := 28) (oi := zop32) (v := ?v_su23ff_32) rfl (by kernel_rfl) (by kernel_rfl) (by kernel_rfl) (fun _ _ _ h => h) (Or.inl ⟨by rfl, ?y_su23ff_32⟩) (by assumption) ?_
                          case y_su23ff_32 => unfold zop32; intro w hSw; (try dsimp only at hSw); go_simp; with_reducible rfl
                          try simp only [zop32, Act.put, List.setIfInBounds_toArray, List.set_cons_zero, List.set_cons_succ]
                          refine wpAnyH_take (i := 29) (oi := zop33) (v := ?v_su23ff_33) rfl (by kernel_rfl) (by kernel_rfl) (by kernel_rfl) (fun _ _ _ h => h) (Or.inl ⟨by rfl, ?y_su23ff_33⟩) (by assumption) ?_
                          case y_su23ff_33 => unfold zop33; intro w hSw; (try dsimp only at hSw); go_simp; with_reducible rfl
                          try simp only [zop33, Act.put, List.setIfInBounds_toArray, List.set_cons_zero, List.set_cons_succ]
                          refine wpAnyH_ready (rs := [30]) (by kernel_rfl) (by simp) ?_
                          refine AllReadyH.cons (o := zop34) rfl (fun K hK => ?_) ?_
                          unfold zop34
                          go_simp
                          refine hK.out _ _ ?_ (fun hHeld => ?_)
                          · (try dsimp only); (with_reducible first | exact P2.out | exact P1.out | exact P0.out)
                          clear hK K
                          try simp only [Act.put, List.setIfInBounds_toArray, List.set_cons_zero, List.set_cons_succ]
                          refine wpAnyH_take (i := 31) (oi := zop35) (v := ?v_su23ff_34) rfl (by kernel_rfl) (by kernel_rfl) (by kernel_rfl) (fun _ _ _ h => h) (Or.inl ⟨by rfl, ?y_su23ff_34⟩) (by assumption) ?_
                          case y_su23ff_34 => unfold zop35; intro w hSw; (try dsimp only at hSw); go_simp; with_reducible rfl
                          try simp only [zop35, Act.put, List.setIfInBounds_toArray, List.set_cons_zero, List.set_cons_succ]
                          refine wpAnyH_ready (rs := [32]) (by kernel_rfl) (by simp) ?_
                          refine AllReadyH.cons (o := zop36) rfl (fun K hK => ?_) ?_
                          unfold zop36
                          go_simp
                          refine hK.out _ _ ?_ (fun hHeld => ?_)
                          · (try dsimp only); (with_reducible first | exact P2.out | exact P1.out | exact P0.out)
                          clear hK K
                          try simp only [Act.put, List.setIfInBounds_toArray, List.set_cons_zero, List.set_cons_succ]
                          refine wpAnyH_done (by kernel_rfl) ?_ _
                          rotate_left 1
                          exact AllReadyH.nil
                          exact AllReadyH.nil
                          exact AllReadyH.nil
                          exact AllReadyH.nil
                          refine AllReadyH.cons (o := zop24) rfl (fun K hK => ?_) ?_
                          unfold zop24
                          go_simp
                          refine hK.out _ _ ?_ (fun hHeld => ?_)
                          · (try dsimp only); (with_reducible first | exact P2.out | exact P1.out | exact P0.out)
                          clear hK K
                          try simp only [Act.put, List.setIfInBounds_toArray, List.set_cons_zero, List.set_cons_succ]
                          refine wpAnyH_ready (rs := [14]) (by kernel_rfl) (by simp) ?_
                          refine AllReadyH.cons (o := zop21) rfl (fun K hK => ?_) ?_
                          unfold zop21
                          go_simp
                          (first | (go_at_call 39; (with_reducible refine HH.out.mono ?_); rintro e wI ⟨rfl, rfl⟩))
                          go_wp2_with fail
                          refine hK.out _ _ ?_ (fun hHeld => ?_)
                          · (try dsimp only); (with_reducible first | exact P2.out | exact P1.out | exact P0.out)
                          clear hK K
                          try simp only [Act.put, List.setIfInBounds_toArray, List.set_cons_zero, List.set_cons_succ]
                          refine wpAnyH_take (i := 15) (oi := zop22) (v := ?v_su23ff_35) rfl (by kernel_rfl) (by kernel_rfl) (by kernel_rfl) (fun _ _ _ h => h) (Or.inl ⟨by rfl, ?y_su23ff_35⟩) (by assumption) ?_
                          case y_su23ff_35 => unfold zop22; intro w hSw; (try dsimp only at hSw); go_simp; with_reducible rfl
                          try simp only [zop22, Act.put, List.setIfInBounds_toArray, List.set_cons_zero, List.set_cons_succ]
                          refine wpAnyH_take (i := 16) (oi := zop23) (v := ?v_su23ff_36) rfl (by kernel_rfl) (by kernel_rfl) (by kernel_rfl) (fun _ _ _ h => h) (Or.inl ⟨by rfl, ?y_su23ff_36⟩) (by assumption) ?_
                          case y_su23ff_36 => unfold zop23; intro w hSw; (try dsimp only at hSw); go_simp; with_reducible rfl
                          try simp only [zop23, Act.put, List.setIfInBounds_toArray, List.set_cons_zero, List.set_cons_succ]
                          refine wpAnyH_take (i := 21) (oi := zop25) (v := ?v_su23ff_37) rfl (by kernel_rfl) (by kernel_rfl) (by kernel_rfl) (fun _ _ _ h => h) (Or.inl ⟨by rfl, ?y_su23ff_37⟩) (by assumption) ?_
                          case y_su23ff_37 => unfold zop25; intro w hSw; (try dsimp only at hSw); go_simp; with_reducible rfl
                          try simp only [zop25, Act.put, List.setIfInBounds_toArray, List.set_cons_zero, List.set_cons_succ]
                          refine wpAnyH_take (i := 22) (oi := zop26) (v := ?v_su23ff_38) rfl (by kernel_rfl) (by kernel_rfl) (by kernel_rfl) (fun _ _ _ h => h) (Or.inl ⟨by rfl, ?y_su23ff_38⟩) (by assumption) ?_
                          case y_su23ff_38 => unfold zop26; intro w hSw; (try dsimp only at hSw); go_simp; with_reducible rfl
                          try simp only [zop26, Act.put, List.setIfInBounds_toArray, List.set_cons_zero, List.set_cons_succ]
                          refine wpAnyH_take (i := 23) (oi := zop27) (v := ?v_su23ff_39) rfl (by kernel_rfl) (by kernel_rfl) (by kernel_rfl) (fun _ _ _ h => h) (Or.inl ⟨by rfl, ?y_su23ff_39⟩) (by assumption) ?_
                          case y_su23ff_39 => unfold zop27; intro w hSw; (try dsimp only at hSw); go_simp; with_reducible rfl
                          try simp only [zop27, Act.put, List.setIfInBounds_toArray, List.set_cons_zero, List.set_cons_succ]
                          refine wpAnyH_take (i := 24) (oi := zop28) (v := ?v_su23ff_40) rfl (by kernel_rfl) (by kernel_rfl) (by kernel_rfl) (fun _ _ _ h => h) (Or.inl ⟨by rfl, ?y_su23ff_40⟩) (by assumption) ?_
                          case y_su23ff_40 => unfold zop28; intro w hSw; (try dsimp only at hSw); go_simp; with_reducible rfl
                          try simp only [zop28, Act.put, List.setIfInBounds_toArray, List.set_cons_zero, List.set_cons_succ]
                          refine wpAnyH_take (i := 25) (oi := zop29) (v := ?v_su23ff_41) rfl (by kernel_rfl) (by kernel_rfl) (by kernel_rfl) (fun _ _ _ h => h) (Or.inl ⟨by rfl, ?y_su23ff_41⟩) (by assumption) ?_
                          case y_su23ff_41 => unfold zop29; intro w hSw; (try dsimp only at hSw); go_simp; with_reducible rfl
                          try simp only [zop29, Act.put, List.setIfInBounds_toArray, List.set_cons_zero, List.set_cons_succ]
                          refine wpAnyH_take (i := 26) (oi := zop30) (v := ?v_su23ff_42) rfl (by kernel_rfl) (by kernel_rfl) (by kernel_rfl) (fun _ _ _ h => h) (Or.inl ⟨by rfl, ?y_su23ff_42⟩) (by assumption) ?_
                          case y_su23ff_42 => unfold zop30; intro w hSw; (try dsimp only at hSw); go_simp; with_reducible rfl
                          try simp only [zop30, Act.put, List.setIfInBounds_toArray, List.set_cons_zero, List.set_cons_succ]
                          refine wpAnyH_ready (rs := [27]) (by kernel_rfl) (by simp) ?_
                          refine AllReadyH.cons (o := zop31) rfl (fun K hK => ?_) ?_
                          unfold zop31
                          go_simp
                          (first | (go_at_call 39; (with_reducible refine HH.out.mono ?_); rintro e wI ⟨rfl, rfl⟩))
                          go_wp2_with fail
                          refine hK.out _ _ ?_ (fun hHeld => ?_)
                          · (try dsimp only); (with_reducible first | exact P2.out | exact P1.out | exact P0.out)
                          clear hK K
                          try simp only [Act.put, List.setIfInBounds_toArray, List.set_cons_zero, List.set_cons_succ]
                          refine wpAnyH_take (i := 28) (oi := zop32) (v := ?v_su23ff_43) rfl (by kernel_rfl) (by kernel_rfl) (by kernel_rfl) (fun _ _ _ h => h) (Or.inl ⟨by rfl, ?y_su23ff_43⟩) (by assumption) ?_
                          case y_su23ff_43 => unfold zop32; intro w hSw; (try dsimp only at hSw); go_simp; with_reducible rfl
                          try simp only [zop32, Act.put, List.setIfInBounds_toArray, List.set_cons_zero, List.set_cons_succ]
                          refine wpAnyH_take (i := 29) (oi := zop33) (v := ?v_su23ff_44) rfl (by kernel_rfl) (by kernel_rfl) (by kernel_rfl) (fun _ _ _ h => h) (Or.inl ⟨by rfl, ?y_su23ff_44⟩) (by assumption) ?_
                          case y_su23ff_44 => unfold zop33; intro w hSw; (try dsimp only at hSw); go_simp; with_reducible rfl
                          try simp only [zop33, Act.put, List.setIfInBounds_toArray, List.set_cons_zero, List.set_cons_succ]
                          refine wpAnyH_ready (rs := [30]) (by kernel_rfl) (by simp) ?_
                          refine AllReadyH.cons (o := zop34) rfl (fun K hK => ?_) ?_
                          unfold zop34
                          go_simp
                          refine hK.out _ _ ?_ (fun hHeld => ?_)
                          · (try dsimp only); (with_reducible first | exact P2.out | exact P1.out | exact P0.out)
                          clear hK K
                          try simp only [Act.put, List.setIfInBounds_toArray, List.set_cons_zero, List.set_cons_succ]
                          refine wpAnyH_take (i := 31) (oi := zop35) (v := ?v_su23ff_45) rfl (by kernel_rfl) (by kernel_rfl) (by kernel_rfl) (fun _ _ _ h => h) (Or.inl ⟨by rfl, ?y_su23ff_45⟩) (by assumption) ?_
                          case y_su23ff_45 => unfold zop35; intro w hSw; (try dsimp only at hSw); go_simp; with_reducible rfl
                          try simp only [zop35, Act.put, List.setIfInBounds_toArray, List.set_cons_zero, List.set_cons_succ]
                          refine wpAnyH_ready (rs := [32]) (by kernel_rfl) (by simp) ?_
                          refine AllReadyH.cons (o := zop36) rfl (fun K hK => ?_) ?_
                          unfold zop36
                          go_simp
                          refine hK.out _ _ ?_ (fun hHeld => ?_)
                          · (try dsimp only); (with_reducible first | exact P2.out | exact P1.out | exact P0.out)
                          clear hK K
                          try simp only [Act.put, List.setIfInBounds_toArray, List.set_cons_zero, List.set_cons_succ]
                          refine wpAnyH_done (by kernel_rfl) ?_ _
                          rotate_left 1
                          exact AllReadyH.nil
                          exact AllReadyH.nil
                          exact AllReadyH.nil
                          exact AllReadyH.nil
                          exact AllReadyH.nil
                          refine AllReadyH.cons (o := zop24) rfl (fun K hK => ?_) ?_
                          unfold zop24
                          go_simp
                          refine hK.out _ _ ?_ (fun hHeld => ?_)
                          · (try dsimp only); (with_reducible first | exact P2.out | exact P1.out | exact P0.out)
                          clear hK K
                          try simp only [Act.put, List.setIfInBounds_toArray, List.set_cons_zero, List.set_cons_succ]
                          refine wpAnyH_ready (rs := [7]) (by kernel_rfl) (by simp) ?_
                          refine AllReadyH.cons (o := zop14) rfl (fun K hK => ?_) ?_
                          unfold zop14
                          go_simp
                          refine hK.out _ _ ?_ (fun hHeld => ?_)
                          · (try dsimp only); (with_reducible first | exact P2.out | exact P1.out | exact P0.out)
                          clear hK K
                          try simp only [Act.put, List.setIfInBounds_toArray, List.set_cons_zero, List.set_cons_succ]
                          refine wpAnyH_take (i := 8) (oi := zop15) (v := ?v_su23ff_46) rfl (by kernel_rfl) (by kernel_rfl) (by kernel_rfl) (fun _ _ _ h => h) (Or.inl ⟨by rfl, ?y_su23ff_46⟩) (by assumption) ?_
                          case y_su23ff_46 => unfold zop15; intro w hSw; (try dsimp only at hSw); go_simp; with_reducible rfl
                          try simp only [zop15, Act.put, List.setIfInBounds_toArray, List.set_cons_zero, List.set_cons_succ]
                          refine wpAnyH_take (i := 9) (oi := zop16) (v := ?v_su23ff_47) rfl (by kernel_rfl) (by kernel_rfl) (by kernel_rfl) (fun _ _ _ h => h) (Or.inl ⟨by rfl, ?y_su23ff_47⟩) (by assumption) ?_
                          case y_su23ff_47 => unfold zop16; intro w hSw; (try dsimp only at hSw); go_simp; with_reducible rfl
                          try simp only [zop16, Act.put, List.setIfInBounds_toArray, List.set_cons_zero, List.set_cons_succ]
                          refine wpAnyH_take (i := 10) (oi := zop17) (v := ?v_su23ff_48) rfl (by kernel_rfl) (by kernel_rfl) (by kernel_rfl) (fun _ _ _ h => h) (Or.inl ⟨by rfl, ?y_su23ff_48⟩) (by assumption) ?_
                          case y_su23ff_48 => unfold zop17; intro w hSw; (try dsimp only at hSw); go_simp; with_reducible rfl
                          try simp only [zop17, Act.put, List.setIfInBounds_toArray, List.set_cons_zero, List.set_cons_succ]
                          refine wpAnyH_take (i := 11) (oi := zop18) (v := ?v_su23ff_49) rfl (by kernel_rfl) (by kernel_rfl) (by kernel_rfl) (fun _ _ _ h => h) (Or.inl ⟨by rfl, ?y_su23ff_49⟩) (by assumption) ?_
                          case y_su23ff_49 => unfold zop18; intro w hSw; (try dsimp only at hSw); go_simp; with_reducible rfl
                          try simp only [zop18, Act.put, List.setIfInBounds_toArray, List.set_cons_zero, List.set_cons_succ]
                          refine wpAnyH_take (i := 12) (oi := zop19) (v := ?v_su23ff_50) rfl (by kernel_rfl) (by kernel_rfl) (by kernel_rfl) (fun _ _ _ h => h) (Or.inl ⟨by rfl, ?y_su23ff_50⟩) (by assumption) ?_
                          case y_su23ff_50 => unfold zop19; intro w hSw; (try dsimp only at hSw); go_simp; with_reducible rfl
                          try simp only [zop19, Act.put, List.setIfInBounds_toArray, List.set_cons_zero, List.set_cons_succ]
                          refine wpAnyH_take (i := 13) (oi := zop20) (v := ?v_su23ff_51) rfl (by kernel_rfl) (by kernel_rfl) (by kernel_rfl) (fun _ _ _ h => h) (Or.inl ⟨by rfl, ?y_su23ff_51⟩) (by assumption) ?_
                          case y_su23ff_51 => unfold zop20; intro w hSw; (try dsimp only at hSw); go_simp; with_reducible rfl
                          try simp only [zop20, Act.put, List.setIfInBounds_toArray, List.set_cons_zero, List.set_cons_succ]
                          refine wpAnyH_ready (rs := [14]) (by kernel_rfl) (by simp) ?_
                          refine AllReadyH.cons (o := zop21) rfl (fun K hK => ?_) ?_
                          unfold zop21
                          go_simp
                          (first | (go_at_call 39; (with_reducible refine HH.out.mono ?_); rintro e wI ⟨rfl, rfl⟩))
                          go_wp2_with fail
                          refine hK.out _ _ ?_ (fun hHeld => ?_)
                          · (try dsimp only); (with_reducible first | exact P2.out | exact P1.out | exact P0.out)
                          clear hK K
                          try simp only [Act.put, List.setIfInBounds_toArray, List.set_cons_zero, List.set_cons_succ]
                          refine wpAnyH_take (i := 15) (oi := zop22) (v := ?v_su23ff_52) rfl (by kernel_rfl) (by kernel_rfl) (by kernel_rfl) (fun _ _ _ h => h) (Or.inl ⟨by rfl, ?y_su23ff_52⟩) (by assumption) ?_
                          case y_su23ff_52 => unfold zop22; intro w hSw; (try dsimp only at hSw); go_simp; with_reducible rfl
                          try simp only [zop22, Act.put, List.setIfInBounds_toArray, List.set_cons_zero, List.set_cons_succ]
                          refine wpAnyH_take (i := 16) (oi := zop23) (v := ?v_su23ff_53) rfl (by kernel_rfl) (by kernel_rfl) (by kernel_rfl) (fun _ _ _ h => h) (Or.inl ⟨by rfl, ?y_su23ff_53⟩) (by assumption) ?_
                          case y_su23ff_53 => unfold zop23; intro w hSw; (try dsimp only at hSw); go_simp; with_reducible rfl
                          try simp only [zop23, Act.put, List.setIfInBounds_toArray, List.set_cons_zero, List.set_cons_succ]
                          refine wpAnyH_take (i := 21) (oi := zop25) (v := ?v_su23ff_54) rfl (by kernel_rfl) (by kernel_rfl) (by kernel_rfl) (fun _ _ _ h => h) (Or.inl ⟨by rfl, ?y_su23ff_54⟩) (by assumption) ?_
                          case y_su23ff_54 => unfold zop25; intro w hSw; (try dsimp only at hSw); go_simp; with_reducible rfl
                          try simp only [zop25, Act.put, List.setIfInBounds_toArray, List.set_cons_zero, List.set_cons_succ]
                          refine wpAnyH_take (i := 22) (oi := zop26) (v := ?v_su23ff_55) rfl (by kernel_rfl) (by kernel_rfl) (by kernel_rfl) (fun _ _ _ h => h) (Or.inl ⟨by rfl, ?y_su23ff_55⟩) (by assumption) ?_
                          case y_su23ff_55 => unfold zop26; intro w hSw; (try dsimp only at hSw); go_simp; with_reducible rfl
                          try simp only [zop26, Act.put, List.setIfInBounds_toArray, List.set_cons_zero, List.set_cons_succ]
                          refine wpAnyH_take (i := 23) (oi := zop27) (v := ?v_su23ff_56) rfl (by kernel_rfl) (by kernel_rfl) (by kernel_rfl) (fun _ _ _ h => h) (Or.inl ⟨by rfl, ?y_su23ff_56⟩) (by assumption) ?_
                          case y_su23ff_56 => unfold zop27; intro w hSw; (try dsimp only at hSw); go_simp; with_reducible rfl
                          try simp only [zop27, Act.put, List.setIfInBounds_toArray, List.set_cons_zero, List.set_cons_succ]
                          refine wpAnyH_take (i := 24) (oi := zop28) (v := ?v_su23ff_57) rfl (by kernel_rfl) (by kernel_rfl) (by kernel_rfl) (fun _ _ _ h => h) (Or.inl ⟨by rfl, ?y_su23ff_57⟩) (by assumption) ?_
                          case y_su23ff_57 => unfold zop28; intro w hSw; (try dsimp only at hSw); go_simp; with_reducible rfl
                          try simp only [zop28, Act.put, List.setIfInBounds_toArray, List.set_cons_zero, List.set_cons_succ]
                          refine wpAnyH_take (i := 25) (oi := zop29) (v := ?v_su23ff_58) rfl (by kernel_rfl) (by kernel_rfl) (by kernel_rfl) (fun _ _ _ h => h) (Or.inl ⟨by rfl, ?y_su23ff_58⟩) (by assumption) ?_
                          case y_su23ff_58 => unfold zop29; intro w hSw; (try dsimp only at hSw); go_simp; with_reducible rfl
                          try simp only [zop29, Act.put, List.setIfInBounds_toArray, List.set_cons_zero, List.set_cons_succ]
                          refine wpAnyH_take (i := 26) (oi := zop30) (v := ?v_su23ff_59) rfl (by kernel_rfl) (by kernel_rfl) (by kernel_rfl) (fun _ _ _ h => h) (Or.inl ⟨by rfl, ?y_su23ff_59⟩) (by assumption) ?_
                          case y_su23ff_59 => unfold zop30; intro w hSw; (try dsimp only at hSw); go_simp; with_reducible rfl
                          try simp only [zop30, Act.put, List.setIfInBounds_toArray, List.set_cons_zero, List.set_cons_succ]
                          refine wpAnyH_ready (rs := [27]) (by kernel_rfl) (by simp) ?_
                          refine AllReadyH.cons (o := zop31) rfl (fun K hK => ?_) ?_
                          unfold zop31
                          go_simp
                          (first | (go_at_call 39; (with_reducible refine HH.out.mono ?_); rintro e wI ⟨rfl, rfl⟩))
                          go_wp2_with fail
                          refine hK.out _ _ ?_ (fun hHeld => ?_)
                          · (try dsimp only); (with_reducible first | exact P2.out | exact P1.out | exact P0.out)
                          clear hK K
                          try simp only [Act.put, List.setIfInBounds_toArray, List.set_cons_zero, List.set_cons_succ]
                          refine wpAnyH_take (i := 28) (oi := zop32) (v := ?v_su23ff_60) rfl (by kernel_rfl) (by kernel_rfl) (by kernel_rfl) (fun _ _ _ h => h) (Or.inl ⟨by rfl, ?y_su23ff_60⟩) (by assumption) ?_
                          case y_su23ff_60 => unfold zop32; intro w hSw; (try dsimp only at hSw); go_simp; with_reducible rfl
                          try simp only [zop32, Act.put, List.setIfInBounds_toArray, List.set_cons_zero, List.set_cons_succ]
                          refine wpAnyH_take (i := 29) (oi := zop33) (v := ?v_su23ff_61) rfl (by kernel_rfl) (by kernel_rfl) (by kernel_rfl) (fun _ _ _ h => h) (Or.inl ⟨by rfl, ?y_su23ff_61⟩) (by assumption) ?_
                          case y_su23ff_61 => unfold zop33; intro w hSw; (try dsimp only at hSw); go_simp; with_reducible rfl
                          try simp only [zop33, Act.put, List.setIfInBounds_toArray, List.set_cons_zero, List.set_cons_succ]
                          refine wpAnyH_ready (rs := [30]) (by kernel_rfl) (by simp) ?_
                          refine AllReadyH.cons (o := zop34) rfl (fun K hK => ?_) ?_
                          unfold zop34
                          go_simp
                          refine hK.out _ _ ?_ (fun hHeld => ?_)
                          · (try dsimp only); (with_reducible first | exact P2.out | exact P1.out | exact P0.out)
                          clear hK K
                          try simp only [Act.put, List.setIfInBounds_toArray, List.set_cons_zero, List.set_cons_succ]
                          refine wpAnyH_take (i := 31) (oi := zop35) (v := ?v_su23ff_62) rfl (by kernel_rfl) (by kernel_rfl) (by kernel_rfl) (fun _ _ _ h => h) (Or.inl ⟨by rfl, ?y_su23ff_62⟩) (by assumption) ?_
                          case y_su23ff_62 => unfold zop35; intro w hSw; (try dsimp only at hSw); go_simp; with_reducible rfl
                          try simp only [zop35, Act.put, List.setIfInBounds_toArray, List.set_cons_zero, List.set_cons_succ]
                          refine wpAnyH_ready (rs := [32]) (by kernel_rfl) (by simp) ?_
                          refine AllReadyH.cons (o := zop36) rfl (fun K hK => ?_) ?_
                          unfold zop36
                          go_simp
                          refine hK.out _ _ ?_ (fun hHeld => ?_)
                          · (try dsimp only); (with_reducible first | exact P2.out | exact P1.out | exact P0.out)
                          clear hK K
                          try simp only [Act.put, List.setIfInBounds_toArray, List.set_cons_zero, List.set_cons_succ]
                          refine wpAnyH_done (by kernel_rfl) ?_ _
                          rotate_left 1
                          exact AllReadyH.nil
                          exact AllReadyH.nil
                          exact AllReadyH.nil
                          exact AllReadyH.nil
                          exact AllReadyH.nil
                          exact AllReadyH.nil
                          all_goals
                            clear kF kS kS1 zF zS1 P0 P1 P2 HH
                            go_wp2_with fail
                            go_roundg (xs.length - (k + 1))
                            case measure => omega
                            case rel => exact ⟨k + 1, by omega, rfl, by simp, T2, A2, B2⟩
                        · have M1 := Lib.hid (HMF.out (!hh) (by rw [HE1.out]; simp))
                          have M2 := Lib.hid (HMS.out (true) (by rw [HE2.out]; simp))
                          have T1 := Lib.hid ((hS.out.setF M1.out).go (Below.drew (Below.refl _ _)))
                          have T2 := Lib.hid (((hS.out.setF M1.out).setS M2.out).go (Below.drew (Below.refl _ _)))
                          have kS1 : (wr.setCell ⟨gF, k, none⟩ (.bool (!hh))).drew.cell? ⟨gS, k, none⟩ = some (.bool true) := by
                            have hne := T0.out.h.2.2.2
                            have : (wr.setCell ⟨gF, k, none⟩ (.bool (!hh))).drew.cell? ⟨gS, k, none⟩ = wr.cell? ⟨gS, k, none⟩ := World.cell?_setCell_far _ _ _ _ (by simpa using hne)
                            rw [this]; exact kS
                          have zS1 := T1.out.bS.fr k
                          have P0 := Lib.hid (show wr.drew.cell? ⟨g, o + k, none⟩ = some (.int .i64 x) from cell_lo T0.out.st.bl k1)
                          have P1 := Lib.hid (show (wr.setCell ⟨gF, k, none⟩ (.bool (!hh))).drew.cell? ⟨g, o + k, none⟩ = some (.int .i64 x) from cell_lo T1.out.st.bl k1)
                          have P2 := Lib.hid (show ((wr.setCell ⟨gF, k, none⟩ (.bool (!hh))).setCell ⟨gS, k, none⟩ (.bool (true))).drew.cell? ⟨g, o + k, none⟩ = some (.int .i64 x) from cell_lo T2.out.st.bl k1)
                          have A2 := Lib.hid (show Alt (fun k => k = gF ∨ k = gS) w9 ((wr.setCell ⟨gF, k, none⟩ (.bool (!hh))).setCell ⟨gS, k, none⟩ (.bool (true))).drew from ((hA.out.setCell (q := ⟨gF, k, none⟩) (.inl rfl) _).setCell (q := ⟨gS, k, none⟩) (.inr rfl) _).drew)
                          have B2 := Lib.hid (show Below w4.heap.size w4 ((wr.setCell ⟨gF, k, none⟩ (.bool (!hh))).setCell ⟨gS, k, none⟩ (.bool (true))).drew from Below.drew (below_set (below_set hBB.out HGGk.out.1) HGGk.out.2))
                          clear HE1 HE2 HMF HMS M1 M2 T1 k1 hS hA hBB HFK HTK
                          go_wp2_with fail
                          refine wp_region_held_drew (S := (fun W => W.cell? ⟨g, o + k, none⟩ = some (.int .i64 x))) (by kernel_rfl) ?_ (fun hHeld => ?_)
                          · (try dsimp only); (with_reducible first | exact P2.out | exact P1.out | exact P0.out)
                          refine wpAnyH_take (i := 0) (oi := zop4) (v := ?v_su23ft_63) rfl (by kernel_rfl) (by kernel_rfl) (by kernel_rfl) (fun _ _ _ h => h) (Or.inl ⟨by rfl, ?y_su23ft_63⟩) (by assumption) ?_
                          case y_su23ft_63 => unfold zop4; intro w hSw; (try dsimp only at hSw); go_simp; with_reducible rfl
                          try simp only [zop4, Act.put, List.setIfInBounds_toArray, List.set_cons_zero, List.set_cons_succ]
                          refine wpAnyH_take (i := 1) (oi := zop5) (v := ?v_su23ft_64) rfl (by kernel_rfl) (by kernel_rfl) (by kernel_rfl) (fun _ _ _ h => h) (Or.inl ⟨by rfl, ?y_su23ft_64⟩) (by assumption) ?_
                          case y_su23ft_64 => unfold zop5; intro w hSw; (try dsimp only at hSw); go_simp; with_reducible rfl
                          try simp only [zop5, Act.put, List.setIfInBounds_toArray, List.set_cons_zero, List.set_cons_succ]
                          refine wpAnyH_take (i := 2) (oi := zop6) (v := ?v_su23ft_65) rfl (by kernel_rfl) (by kernel_rfl) (by kernel_rfl) (fun _ _ _ h => h) (Or.inl ⟨by rfl, ?y_su23ft_65⟩) (by assumption) ?_
                          case y_su23ft_65 => unfold zop6; intro w hSw; (try dsimp only at hSw); go_simp; with_reducible rfl
                          try simp only [zop6, Act.put, List.setIfInBounds_toArray, List.set_cons_zero, List.set_cons_succ]
                          refine wpAnyH_take (i := 3) (oi := zop7) (v := ?v_su23ft_66) rfl (by kernel_rfl) (by kernel_rfl) (by kernel_rfl) (fun _ _ _ h => h) (Or.inl ⟨by rfl, ?y_su23ft_66⟩) (by assumption) ?_
                          case y_su23ft_66 => unfold zop7; intro w hSw; (try dsimp only at hSw); go_simp; with_reducible rfl
                          try simp only [zop7, Act.put, List.setIfInBounds_toArray, List.set_cons_zero, List.set_cons_succ]
                          refine wpAnyH_take (i := 4) (oi := zop8) (v := ?v_su23ft_67) rfl (by kernel_rfl) (by kernel_rfl) (by kernel_rfl) (fun _ _ _ h => h) (Or.inl ⟨by rfl, ?y_su23ft_67⟩) (by assumption) ?_
                          case y_su23ft_67 => unfold zop8; intro w hSw; (try dsimp only at hSw); go_simp; with_reducible rfl
                          try simp only [zop8, Act.put, List.setIfInBounds_toArray, List.set_cons_zero, List.set_cons_succ]
                          refine wpAnyH_take (i := 5) (oi := zop9) (v := ?v_su23ft_68) rfl (by kernel_rfl) (by kernel_rfl) (by kernel_rfl) (fun _ _ _ h => h) (Or.inl ⟨by rfl, ?y_su23ft_68⟩) (by assumption) ?_
                          case y_su23ft_68 => unfold zop9; intro w hSw; (try dsimp only at hSw); go_simp; with_reducible rfl
                          try simp only [zop9, Act.put, List.setIfInBounds_toArray, List.set_cons_zero, List.set_cons_succ]
                          refine wpAnyH_take (i := 6) (oi := zop10) (v := ?v_su23ft_69) rfl (by kernel_rfl) (by kernel_rfl) (by kernel_rfl) (fun _ _ _ h => h) (Or.inl ⟨by rfl, ?y_su23ft_69⟩) (by assumption) ?_
                          case y_su23ft_69 => unfold zop10; intro w hSw; (try dsimp only at hSw); go_simp; with_reducible rfl
                          try simp only [zop10, Act.put, List.setIfInBounds_toArray, List.set_cons_zero, List.set_cons_succ]
                          refine wpAnyH_take (i := 17) (oi := zop11) (v := ?v_su23ft_70) rfl (by kernel_rfl) (by kernel_rfl) (by kernel_rfl) (fun _ _ _ h => h) (Or.inl ⟨by rfl, ?y_su23ft_70⟩) (by assumption) ?_
                          case y_su23ft_70 => unfold zop11; intro w hSw; (try dsimp only at hSw); go_simp; with_reducible rfl
                          try simp only [zop11, Act.put, List.setIfInBounds_toArray, List.set_cons_zero, List.set_cons_succ]
                          refine wpAnyH_take (i := 18) (oi := zop12) (v := ?v_su23ft_71) rfl (by kernel_rfl) (by kernel_rfl) (by kernel_rfl) (fun _ _ _ h => h) (Or.inl ⟨by rfl, ?y_su23ft_71⟩) (by assumption) ?_
                          case y_su23ft_71 => unfold zop12; intro w hSw; (try dsimp only at hSw); go_simp; with_reducible rfl
                          try simp only [zop12, Act.put, List.setIfInBounds_toArray, List.set_cons_zero, List.set_cons_succ]
                          refine wpAnyH_take (i := 19) (oi := zop13) (v := ?v_su23ft_72) rfl (by kernel_rfl) (by kernel_rfl) (by kernel_rfl) (fun _ _ _ h => h) (Or.inl ⟨by rfl, ?y_su23ft_72⟩) (by assumption) ?_
                          case y_su23ft_72 => unfold zop13; intro w hSw; (try dsimp only at hSw); go_simp; with_reducible rfl
                          try simp only [zop13, Act.put, List.setIfInBounds_toArray, List.set_cons_zero, List.set_cons_succ]
                          refine wpAnyH_ready (rs := [7, 20]) (by kernel_rfl) (by simp) ?_
                          refine AllReadyH.cons (o := zop14) rfl (fun K hK => ?_) ?_
                          unfold zop14
                          go_simp
                          refine hK.out _ _ ?_ (fun hHeld => ?_)
                          · (try dsimp only); (with_reducible first | exact P2.out | exact P1.out | exact P0.out)
                          clear hK K
                          try simp only [Act.put, List.setIfInBounds_toArray, List.set_cons_zero, List.set_cons_succ]
                          refine wpAnyH_take (i := 8) (oi := zop15) (v := ?v_su23ft_73) rfl (by kernel_rfl) (by kernel_rfl) (by kernel_rfl) (fun _ _ _ h => h) (Or.inl ⟨by rfl, ?y_su23ft_73⟩) (by assumption) ?_
                          case y_su23ft_73 => unfold zop15; intro w hSw; (try dsimp only at hSw); go_simp; with_reducible rfl
                          try simp only [zop15, Act.put, List.setIfInBounds_toArray, List.set_cons_zero, List.set_cons_succ]
                          refine wpAnyH_take (i := 9) (oi := zop16) (v := ?v_su23ft_74) rfl (by kernel_rfl) (by kernel_rfl) (by kernel_rfl) (fun _ _ _ h => h) (Or.inl ⟨by rfl, ?y_su23ft_74⟩) (by assumption) ?_
                          case y_su23ft_74 => unfold zop16; intro w hSw; (try dsimp only at hSw); go_simp; with_reducible rfl
                          try simp only [zop16, Act.put, List.setIfInBounds_toArray, List.set_cons_zero, List.set_cons_succ]
                          refine wpAnyH_take (i := 10) (oi := zop17) (v := ?v_su23ft_75) rfl (by kernel_rfl) (by kernel_rfl) (by kernel_rfl) (fun _ _ _ h => h) (Or.inl ⟨by rfl, ?y_su23ft_75⟩) (by assumption) ?_
                          case y_su23ft_75 => unfold zop17; intro w hSw; (try dsimp only at hSw); go_simp; with_reducible rfl
                          try simp only [zop17, Act.put, List.setIfInBounds_toArray, List.set_cons_zero, List.set_cons_succ]
                          refine wpAnyH_take (i := 11) (oi := zop18) (v := ?v_su23ft_76) rfl (by kernel_rfl) (by kernel_rfl) (by kernel_rfl) (fun _ _ _ h => h) (Or.inl ⟨by rfl, ?y_su23ft_76⟩) (by assumption) ?_
                          case y_su23ft_76 => unfold zop18; intro w hSw; (try dsimp only at hSw); go_simp; with_reducible rfl
                          try simp only [zop18, Act.put, List.setIfInBounds_toArray, List.set_cons_zero, List.set_cons_succ]
                          refine wpAnyH_take (i := 12) (oi := zop19) (v := ?v_su23ft_77) rfl (by kernel_rfl) (by kernel_rfl) (by kernel_rfl) (fun _ _ _ h => h) (Or.inl ⟨by rfl, ?y_su23ft_77⟩) (by assumption) ?_
                          case y_su23ft_77 => unfold zop19; intro w hSw; (try dsimp only at hSw); go_simp; with_reducible rfl
                          try simp only [zop19, Act.put, List.setIfInBounds_toArray, List.set_cons_zero, List.set_cons_succ]
                          refine wpAnyH_take (i := 13) (oi := zop20) (v := ?v_su23ft_78) rfl (by kernel_rfl) (by kernel_rfl) (by kernel_rfl) (fun _ _ _ h => h) (Or.inl ⟨by rfl, ?y_su23ft_78⟩) (by assumption) ?_
                          case y_su23ft_78 => unfold zop20; intro w hSw; (try dsimp only at hSw); go_simp; with_reducible rfl
                          try simp only [zop20, Act.put, List.setIfInBounds_toArray, List.set_cons_zero, List.set_cons_succ]
                          refine wpAnyH_ready (rs := [14, 20]) (by kernel_rfl) (by simp) ?_
                          refine AllReadyH.cons (o := zop21) rfl (fun K hK => ?_) ?_
                          unfold zop21
                          go_simp
                          (first | (go_at_call 39; (with_reducible refine HH.out.mono ?_); rintro e wI ⟨rfl, rfl⟩))
                          go_wp2_with fail
                          refine hK.out _ _ ?_ (fun hHeld => ?_)
                          · (try dsimp only); (with_reducible first | exact P2.out | exact P1.out | exact P0.out)
                          clear hK K
                          try simp only [Act.put, List.setIfInBounds_toArray, List.set_cons_zero, List.set_cons_succ]
                          refine wpAnyH_take (i := 15) (oi := zop22) (v := ?v_su23ft_79) rfl (by kernel_rfl) (by kernel_rfl) (by kernel_rfl) (fun _ _ _ h => h) (Or.inl ⟨by rfl, ?y_su23ft_79⟩) (by assumption) ?_
                          case y_su23ft_79 => unfold zop22; intro w hSw; (try dsimp only at hSw); go_simp; with_reducible rfl
                          try simp only [zop22, Act.put, List.setIfInBounds_toArray, List.set_cons_zero, List.set_cons_succ]
                          refine wpAnyH_take (i := 16) (oi := zop23) (v := ?v_su23ft_80) rfl (by kernel_rfl) (by kernel_rfl) (by kernel_rfl) (fun _ _ _ h => h) (Or.inl ⟨by rfl, ?y_su23ft_80⟩) (by assumption) ?_
                          case y_su23ft_80 => unfold zop23; intro w hSw; (try dsimp only at hSw); go_simp; with_reducible rfl
                          try simp only [zop23, Act.put, List.setIfInBounds_toArray, List.set_cons_zero, List.set_cons_succ]
                          refine wpAnyH_ready (rs := [20]) (by kernel_rfl) (by simp) ?_
                          refine AllReadyH.cons (o := zop24) rfl (fun K hK => ?_) ?_
                          unfold zop24
                          go_simp
                          refine hK.out _ _ ?_ (fun hHeld => ?_)
                          · (try dsimp only); (with_reducible first | exact P2.out | exact P1.out | exact P0.out)
                          clear hK K
                          try simp only [Act.put, List.setIfInBounds_toArray, List.set_cons_zero, List.set_cons_succ]
                          refine wpAnyH_take (i := 21) (oi := zop25) (v := ?v_su23ft_81) rfl (by kernel_rfl) (by kernel_rfl) (by kernel_rfl) (fun _ _ _ h => h) (Or.inl ⟨by rfl, ?y_su23ft_81⟩) (by assumption) ?_
                          case y_su23ft_81 => unfold zop25; intro w hSw; (try dsimp only at hSw); go_simp; with_reducible rfl
                          try simp only [zop25, Act.put, List.setIfInBounds_toArray, List.set_cons_zero, List.set_cons_succ]
                          refine wpAnyH_take (i := 22) (oi := zop26) (v := undef) rfl (by kernel_rfl) (by kernel_rfl) (by kernel_rfl) (fun _ _ _ h => h) (Or.inr ⟨by rfl, rfl⟩) (by assumption) ?_
                          try simp only [zop26, Act.put, List.setIfInBounds_toArray, List.set_cons_zero, List.set_cons_succ]
                          refine wpAnyH_take (i := 23) (oi := zop27) (v := undef) rfl (by kernel_rfl) (by kernel_rfl) (by kernel_rfl) (fun _ _ _ h => h) (Or.inr ⟨by rfl, rfl⟩) (by assumption) ?_
                          try simp only [zop27, Act.put, List.setIfInBounds_toArray, List.set_cons_zero, List.set_cons_succ]
                          refine wpAnyH_take (i := 24) (oi := zop28) (v := undef) rfl (by kernel_rfl) (by kernel_rfl) (by kernel_rfl) (fun _ _ _ h => h) (Or.inr ⟨by rfl, rfl⟩) (by assumption) ?_
                          try simp only [zop28, Act.put, List.setIfInBounds_toArray, List.set_cons_zero, List.set_cons_succ]
                          refine wpAnyH_take (i := 25) (oi := zop29) (v := undef) rfl (by kernel_rfl) (by kernel_rfl) (by kernel_rfl) (fun _ _ _ h => h) (Or.inr ⟨by rfl, rfl⟩) (by assumption) ?_
                          try simp only [zop29, Act.put, List.setIfInBounds_toArray, List.set_cons_zero, List.set_cons_succ]
                          refine wpAnyH_take (i := 26) (oi := zop30) (v := undef) rfl (by kernel_rfl) (by kernel_rfl) (by kernel_rfl) (fun _ _ _ h => h) (Or.inr ⟨by rfl, rfl⟩) (by assumption) ?_
                          try simp only [zop30, Act.put, List.setIfInBounds_toArray, List.set_cons_zero, List.set_cons_succ]
                          refine wpAnyH_take (i := 27) (oi := zop31) (v := undef) rfl (by kernel_rfl) (by kernel_rfl) (by kernel_rfl) (fun _ _ _ h => h) (Or.inr ⟨by rfl, rfl⟩) (by assumption) ?_
                          try simp only [zop31, Act.put, List.setIfInBounds_toArray, List.set_cons_zero, List.set_cons_succ]
                          refine wpAnyH_take (i := 28) (oi := zop32) (v := ?v_su23ft_82) rfl (by kernel_rfl) (by kernel_rfl) (by kernel_rfl) (fun _ _ _ h => h) (Or.inl ⟨by rfl, ?y_su23ft_82⟩) (by assumption) ?_
                          case y_su23ft_82 => unfold zop32; intro w hSw; (try dsimp only at hSw); go_simp; with_reducible rfl
                          try simp only [zop32, Act.put, List.setIfInBounds_toArray, List.set_cons_zero, List.set_cons_succ]
                          refine wpAnyH_take (i := 29) (oi := zop33) (v := ?v_su23ft_83) rfl (by kernel_rfl) (by kernel_rfl) (by kernel_rfl) (fun _ _ _ h => h) (Or.inl ⟨by rfl, ?y_su23ft_83⟩) (by assumption) ?_
                          case y_su23ft_83 => unfold zop33; intro w hSw; (try dsimp only at hSw); go_simp; with_reducible rfl
                          try simp only [zop33, Act.put, List.setIfInBounds_toArray, List.set_cons_zero, List.set_cons_succ]
                          refine wpAnyH_ready (rs := [30]) (by kernel_rfl) (by simp) ?_
                          refine AllReadyH.cons (o := zop34) rfl (fun K hK => ?_) ?_
                          unfold zop34
                          go_simp
                          refine hK.out _ _ ?_ (fun hHeld => ?_)
                          · (try dsimp only); (with_reducible first | exact P2.out | exact P1.out | exact P0.out)
                          clear hK K
                          try simp only [Act.put, List.setIfInBounds_toArray, List.set_cons_zero, List.set_cons_succ]
                          refine wpAnyH_take (i := 31) (oi := zop35) (v := ?v_su23ft_84) rfl (by kernel_rfl) (by kernel_rfl) (by kernel_rfl) (fun _ _ _ h => h) (Or.inl ⟨by rfl, ?y_su23ft_84⟩) (by assumption) ?_
                          case y_su23ft_84 => unfold zop35; intro w hSw; (try dsimp only at hSw); go_simp; with_reducible rfl
                          try simp only [zop35, Act.put, List.setIfInBounds_toArray, List.set_cons_zero, List.set_cons_succ]
                          refine wpAnyH_ready (rs := [32]) (by kernel_rfl) (by simp) ?_
                          refine AllReadyH.cons (o := zop36) rfl (fun K hK => ?_) ?_
                          unfold zop36
                          go_simp
                          refine hK.out _ _ ?_ (fun hHeld => ?_)
                          · (try dsimp only); (with_reducible first | exact P2.out | exact P1.out | exact P0.out)
                          clear hK K
                          try simp only [Act.put, List.setIfInBounds_toArray, List.set_cons_zero, List.set_cons_succ]
                          refine wpAnyH_done (by kernel_rfl) ?_ _
                          rotate_left 1
                          exact AllReadyH.nil
                          exact AllReadyH.nil
                          exact AllReadyH.nil
                          refine AllReadyH.cons (o := zop24) rfl (fun K hK => ?_) ?_
                          unfold zop24
                          go_simp
                          refine hK.out _ _ ?_ (fun hHeld => ?_)
                          · (try dsimp only); (with_reducible first | exact P2.out | exact P1.out | exact P0.out)
                          clear hK K
                          try simp only [Act.put, List.setIfInBounds_toArray, List.set_cons_zero, List.set_cons_succ]
                          refine wpAnyH_ready (rs := [14]) (by kernel_rfl) (by simp) ?_
                          refine AllReadyH.cons (o := zop21) rfl (fun K hK => ?_) ?_
                          unfold zop21
                          go_simp
                          (first | (go_at_call 39; (with_reducible refine HH.out.mono ?_); rintro e wI ⟨rfl, rfl⟩))
                          go_wp2_with fail
                          refine hK.out _ _ ?_ (fun hHeld => ?_)
                          · (try dsimp only); (with_reducible first | exact P2.out | exact P1.out | exact P0.out)
                          clear hK K
                          try simp only [Act.put, List.setIfInBounds_toArray, List.set_cons_zero, List.set_cons_succ]
                          refine wpAnyH_take (i := 15) (oi := zop22) (v := ?v_su23ft_85) rfl (by kernel_rfl) (by kernel_rfl) (by kernel_rfl) (fun _ _ _ h => h) (Or.inl ⟨by rfl, ?y_su23ft_85⟩) (by assumption) ?_
                          case y_su23ft_85 => unfold zop22; intro w hSw; (try dsimp only at hSw); go_simp; with_reducible rfl
                          try simp only [zop22, Act.put, List.setIfInBounds_toArray, List.set_cons_zero, List.set_cons_succ]
                          refine wpAnyH_take (i := 16) (oi := zop23) (v := ?v_su23ft_86) rfl (by kernel_rfl) (by kernel_rfl) (by kernel_rfl) (fun _ _ _ h => h) (Or.inl ⟨by rfl, ?y_su23ft_86⟩) (by assumption) ?_
                          case y_su23ft_86 => unfold zop23; intro w hSw; (try dsimp only at hSw); go_simp; with_reducible rfl
                          try simp only [zop23, Act.put, List.setIfInBounds_toArray, List.set_cons_zero, List.set_cons_succ]
                          refine wpAnyH_take (i := 21) (oi := zop25) (v := ?v_su23ft_87) rfl (by kernel_rfl) (by kernel_rfl) (by kernel_rfl) (fun _ _ _ h => h) (Or.inl ⟨by rfl, ?y_su23ft_87⟩) (by assumption) ?_
                          case y_su23ft_87 => unfold zop25; intro w hSw; (try dsimp only at hSw); go_simp; with_reducible rfl
                          try simp only [zop25, Act.put, List.setIfInBounds_toArray, List.set_cons_zero, List.set_cons_succ]
                          refine wpAnyH_take (i := 22) (oi := zop26) (v := undef) rfl (by kernel_rfl) (by kernel_rfl) (by kernel_rfl) (fun _ _ _ h => h) (Or.inr ⟨by rfl, rfl⟩) (by assumption) ?_
                          try simp only [zop26, Act.put, List.setIfInBounds_toArray, List.set_cons_zero, List.set_cons_succ]
                          refine wpAnyH_take (i := 23) (oi := zop27) (v := undef) rfl (by kernel_rfl) (by kernel_rfl) (by kernel_rfl) (fun _ _ _ h => h) (Or.inr ⟨by rfl, rfl⟩) (by assumption) ?_
                          try simp only [zop27, Act.put, List.setIfInBounds_toArray, List.set_cons_zero, List.set_cons_succ]
                          refine wpAnyH_take (i := 24) (oi := zop28) (v := undef) rfl (by kernel_rfl) (by kernel_rfl) (by kernel_rfl) (fun _ _ _ h => h) (Or.inr ⟨by rfl, rfl⟩) (by assumption) ?_
                          try simp only [zop28, Act.put, List.setIfInBounds_toArray, List.set_cons_zero, List.set_cons_succ]
                          refine wpAnyH_take (i := 25) (oi := zop29) (v := undef) rfl (by kernel_rfl) (by kernel_rfl) (by kernel_rfl) (fun _ _ _ h => h) (Or.inr ⟨by rfl, rfl⟩) (by assumption) ?_
                          try simp only [zop29, Act.put, List.setIfInBounds_toArray, List.set_cons_zero, List.set_cons_succ]
                          refine wpAnyH_take (i := 26) (oi := zop30) (v := undef) rfl (by kernel_rfl) (by kernel_rfl) (by kernel_rfl) (fun _ _ _ h => h) (Or.inr ⟨by rfl, rfl⟩) (by assumption) ?_
                          try simp only [zop30, Act.put, List.setIfInBounds_toArray, List.set_cons_zero, List.set_cons_succ]
                          refine wpAnyH_take (i := 27) (oi := zop31) (v := undef) rfl (by kernel_rfl) (by kernel_rfl) (by kernel_rfl) (fun _ _ _ h => h) (Or.inr ⟨by rfl, rfl⟩) (by assumption) ?_
                          try simp only [zop31, Act.put, List.setIfInBounds_toArray, List.set_cons_zero, List.set_cons_succ]
                          refine wpAnyH_take (i := 28) (oi := zop32) (v := ?v_su23ft_88) rfl (by kernel_rfl) (by kernel_rfl) (by kernel_rfl) (fun _ _ _ h => h) (Or.inl ⟨by rfl, ?y_su23ft_88⟩) (by assumption) ?_
                          case y_su23ft_88 => unfold zop32; intro w hSw; (try dsimp only at hSw); go_simp; with_reducible rfl
                          try simp only [zop32, Act.put, List.setIfInBounds_toArray, List.set_cons_zero, List.set_cons_succ]
                          refine wpAnyH_take (i := 29) (oi := zop33) (v := ?v_su23ft_89) rfl (by kernel_rfl) (by kernel_rfl) (by kernel_rfl) (fun _ _ _ h => h) (Or.inl ⟨by rfl, ?y_su23ft_89⟩) (by assumption) ?_
                          case y_su23ft_89 => unfold zop33; intro w hSw; (try dsimp only at hSw); go_simp; with_reducible rfl
                          try simp only [zop33, Act.put, List.setIfInBounds_toArray, List.set_cons_zero, List.set_cons_succ]
                          refine wpAnyH_ready (rs := [30]) (by kernel_rfl) (by simp) ?_
                          refine AllReadyH.cons (o := zop34) rfl (fun K hK => ?_) ?_
                          unfold zop34
                          go_simp
                          refine hK.out _ _ ?_ (fun hHeld => ?_)
                          · (try dsimp only); (with_reducible first | exact P2.out | exact P1.out | exact P0.out)
                          clear hK K
                          try simp only [Act.put, List.setIfInBounds_toArray, List.set_cons_zero, List.set_cons_succ]
                          refine wpAnyH_take (i := 31) (oi := zop35) (v := ?v_su23ft_90) rfl (by kernel_rfl) (by kernel_rfl) (by kernel_rfl) (fun _ _ _ h => h) (Or.inl ⟨by rfl, ?y_su23ft_90⟩) (by assumption) ?_
                          case y_su23ft_90 => unfold zop35; intro w hSw; (try dsimp only at hSw); go_simp; with_reducible rfl
                          try simp only [zop35, Act.put, List.setIfInBounds_toArray, List.set_cons_zero, List.set_cons_succ]
                          refine wpAnyH_ready (rs := [32]) (by kernel_rfl) (by simp) ?_
                          refine AllReadyH.cons (o := zop36) rfl (fun K hK => ?_) ?_
                          unfold zop36
                          go_simp
                          refine hK.out _ _ ?_ (fun hHeld => ?_)
                          · (try dsimp only); (with_reducible first | exact P2.out | exact P1.out | exact P0.out)
                          clear hK K
                          try simp only [Act.put, List.setIfInBounds_toArray, List.set_cons_zero, List.set_cons_succ]
                          refine wpAnyH_done (by kernel_rfl) ?_ _
                          rotate_left 1
                          exact AllReadyH.nil
                          exact AllReadyH.nil
                          exact AllReadyH.nil
                          exact AllReadyH.nil
                          refine AllReadyH.cons (o := zop24) rfl (fun K hK => ?_) ?_
                          unfold zop24
                          go_simp
                          refine hK.out _ _ ?_ (fun hHeld => ?_)
                          · (try dsimp only); (with_reducible first | exact P2.out | exact P1.out | exact P0.out)
                          clear hK K
                          try simp only [Act.put, List.setIfInBounds_toArray, List.set_cons_zero, List.set_cons_succ]
                          refine wpAnyH_ready (rs := [7]) (by kernel_rfl) (by simp) ?_
                          refine AllReadyH.cons (o := zop14) rfl (fun K hK => ?_) ?_
                          unfold zop14
                          go_simp
                          refine hK.out _ _ ?_ (fun hHeld => ?_)
                          · (try dsimp only); (with_reducible first | exact P2.out | exact P1.out | exact P0.out)
                          clear hK K
                          try simp only [Act.put, List.setIfInBounds_toArray, List.set_cons_zero, List.set_cons_succ]
                          refine wpAnyH_take (i := 8) (oi := zop15) (v := ?v_su23ft_91) rfl (by kernel_rfl) (by kernel_rfl) (by kernel_rfl) (fun _ _ _ h => h) (Or.inl ⟨by rfl, ?y_su23ft_91⟩) (by assumption) ?_
                          case y_su23ft_91 => unfold zop15; intro w hSw; (try dsimp only at hSw); go_simp; with_reducible rfl
                          try simp only [zop15, Act.put, List.setIfInBounds_toArray, List.set_cons_zero, List.set_cons_succ]
                          refine wpAnyH_take (i := 9) (oi := zop16) (v := ?v_su23ft_92) rfl (by kernel_rfl) (by kernel_rfl) (by kernel_rfl) (fun _ _ _ h => h) (Or.inl ⟨by rfl, ?y_su23ft_92⟩) (by assumption) ?_
                          case y_su23ft_92 => unfold zop16; intro w hSw; (try dsimp only at hSw); go_simp; with_reducible rfl
                          try simp only [zop16, Act.put, List.setIfInBounds_toArray, List.set_cons_zero, List.set_cons_succ]
                          refine wpAnyH_take (i := 10) (oi := zop17) (v := ?v_su23ft_93) rfl (by kernel_rfl) (by kernel_rfl) (by kernel_rfl) (fun _ _ _ h => h) (Or.inl ⟨by rfl, ?y_su23ft_93⟩) (by assumption) ?_
                          case y_su23ft_93 => unfold zop17; intro w hSw; (try dsimp only at hSw); go_simp; with_reducible rfl
                          try simp only [zop17, Act.put, List.setIfInBounds_toArray, List.set_cons_zero, List.set_cons_succ]
                          refine wpAnyH_take (i := 11) (oi := zop18) (v := ?v_su23ft_94) rfl (by kernel_rfl) (by kernel_rfl) (by kernel_rfl) (fun _ _ _ h => h) (Or.inl ⟨by rfl, ?y_su23ft_94⟩) (by assumption) ?_
                          case y_su23ft_94 => unfold zop18; intro w hSw; (try dsimp only at hSw); go_simp; with_reducible rfl
                          try simp only [zop18, Act.put, List.setIfInBounds_toArray, List.set_cons_zero, List.set_cons_succ]
                          refine wpAnyH_take (i := 12) (oi := zop19) (v := ?v_su23ft_95) rfl (by kernel_rfl) (by kernel_rfl) (by kernel_rfl) (fun _ _ _ h => h) (Or.inl ⟨by rfl, ?y_su23ft_95⟩) (by assumption) ?_
                          case y_su23ft_95 => unfold zop19; intro w hSw; (try dsimp only at hSw); go_simp; with_reducible rfl
                          try simp only [zop19, Act.put, List.setIfInBounds_toArray, List.set_cons_zero, List.set_cons_succ]
                          refine wpAnyH_take (i := 13) (oi := zop20) (v := ?v_su23ft_96) rfl (by kernel_rfl) (by kernel_rfl) (by kernel_rfl) (fun _ _ _ h => h) (Or.inl ⟨by rfl, ?y_su23ft_96⟩) (by assumption) ?_
                          case y_su23ft_96 => unfold zop20; intro w hSw; (try dsimp only at hSw); go_simp; with_reducible rfl
                          try simp only [zop20, Act.put, List.setIfInBounds_toArray, List.set_cons_zero, List.set_cons_succ]
                          refine wpAnyH_ready (rs := [14]) (by kernel_rfl) (by simp) ?_
                          refine AllReadyH.cons (o := zop21) rfl (fun K hK => ?_) ?_
                          unfold zop21
                          go_simp
                          (first | (go_at_call 39; (with_reducible refine HH.out.mono ?_); rintro e wI ⟨rfl, rfl⟩))
                          go_wp2_with fail
                          refine hK.out _ _ ?_ (fun hHeld => ?_)
                          · (try dsimp only); (with_reducible first | exact P2.out | exact P1.out | exact P0.out)
                          clear hK K
                          try simp only [Act.put, List.setIfInBounds_toArray, List.set_cons_zero, List.set_cons_succ]
                          refine wpAnyH_take (i := 15) (oi := zop22) (v := ?v_su23ft_97) rfl (by kernel_rfl) (by kernel_rfl) (by kernel_rfl) (fun _ _ _ h => h) (Or.inl ⟨by rfl, ?y_su23ft_97⟩) (by assumption) ?_
                          case y_su23ft_97 => unfold zop22; intro w hSw; (try dsimp only at hSw); go_simp; with_reducible rfl
                          try simp only [zop22, Act.put, List.setIfInBounds_toArray, List.set_cons_zero, List.set_cons_succ]
                          refine wpAnyH_take (i := 16) (oi := zop23) (v := ?v_su23ft_98) rfl (by kernel_rfl) (by kernel_rfl) (by kernel_rfl) (fun _ _ _ h => h) (Or.inl ⟨by rfl, ?y_su23ft_98⟩) (by assumption) ?_
                          case y_su23ft_98 => unfold zop23; intro w hSw; (try dsimp only at hSw); go_simp; with_reducible rfl
                          try simp only [zop23, Act.put, List.setIfInBounds_toArray, List.set_cons_zero, List.set_cons_succ]
                          refine wpAnyH_take (i := 21) (oi := zop25) (v := ?v_su23ft_99) rfl (by kernel_rfl) (by kernel_rfl) (by kernel_rfl) (fun _ _ _ h => h) (Or.inl ⟨by rfl, ?y_su23ft_99⟩) (by assumption) ?_
                          case y_su23ft_99 => unfold zop25; intro w hSw; (try dsimp only at hSw); go_simp; with_reducible rfl
                          try simp only [zop25, Act.put, List.setIfInBounds_toArray, List.set_cons_zero, List.set_cons_succ]
                          refine wpAnyH_take (i := 22) (oi := zop26) (v := undef) rfl (by kernel_rfl) (by kernel_rfl) (by kernel_rfl) (fun _ _ _ h => h) (Or.inr ⟨by rfl, rfl⟩) (by assumption) ?_
                          try simp only [zop26, Act.put, List.setIfInBounds_toArray, List.set_cons_zero, List.set_cons_succ]
                          refine wpAnyH_take (i := 23) (oi := zop27) (v := undef) rfl (by kernel_rfl) (by kernel_rfl) (by kernel_rfl) (fun _ _ _ h => h) (Or.inr ⟨by rfl, rfl⟩) (by assumption) ?_
                          try simp only [zop27, Act.put, List.setIfInBounds_toArray, List.set_cons_zero, List.set_cons_succ]
                          refine wpAnyH_take (i := 24) (oi := zop28) (v := undef) rfl (by kernel_rfl) (by kernel_rfl) (by kernel_rfl) (fun _ _ _ h => h) (Or.inr ⟨by rfl, rfl⟩) (by assumption) ?_
                          try simp only [zop28, Act.put, List.setIfInBounds_toArray, List.set_cons_zero, List.set_cons_succ]
                          refine wpAnyH_take (i := 25) (oi := zop29) (v := undef) rfl (by kernel_rfl) (by kernel_rfl) (by kernel_rfl) (fun _ _ _ h => h) (Or.inr ⟨by rfl, rfl⟩) (by assumption) ?_
                          try simp only [zop29, Act.put, List.setIfInBounds_toArray, List.set_cons_zero, List.set_cons_succ]
                          refine wpAnyH_take (i := 26) (oi := zop30) (v := undef) rfl (by kernel_rfl) (by kernel_rfl) (by kernel_rfl) (fun _ _ _ h => h) (Or.inr ⟨by rfl, rfl⟩) (by assumption) ?_
                          try simp only [zop30, Act.put, List.setIfInBounds_toArray, List.set_cons_zero, List.set_cons_succ]
                          refine wpAnyH_take (i := 27) (oi := zop31) (v := undef) rfl (by kernel_rfl) (by kernel_rfl) (by kernel_rfl) (fun _ _ _ h => h) (Or.inr ⟨by rfl, rfl⟩) (by assumption) ?_
                          try simp only [zop31, Act.put, List.setIfInBounds_toArray, List.set_cons_zero, List.set_cons_succ]
                          refine wpAnyH_take (i := 28) (oi := zop32) (v := ?v_su23ft_100) rfl (by kernel_rfl) (by kernel_rfl) (by kernel_rfl) (fun _ _ _ h => h) (Or.inl ⟨by rfl, ?y_su23ft_100⟩) (by assumption) ?_
                          case y_su23ft_100 => unfold zop32; intro w hSw; (try dsimp only at hSw); go_simp; with_reducible rfl
                          try simp only [zop32, Act.put, List.setIfInBounds_toArray, List.set_cons_zero, List.set_cons_succ]
                          refine wpAnyH_take (i := 29) (oi := zop33) (v := ?v_su23ft_101) rfl (by kernel_rfl) (by kernel_rfl) (by kernel_rfl) (fun _ _ _ h => h) (Or.inl ⟨by rfl, ?y_su23ft_101⟩) (by assumption) ?_
                          case y_su23ft_101 => unfold zop33; intro w hSw; (try dsimp only at hSw); go_simp; with_reducible rfl
                          try simp only [zop33, Act.put, List.setIfInBounds_toArray, List.set_cons_zero, List.set_cons_succ]
                          refine wpAnyH_ready (rs := [30]) (by kernel_rfl) (by simp) ?_
                          refine AllReadyH.cons (o := zop34) rfl (fun K hK => ?_) ?_
                          unfold zop34
                          go_simp
                          refine hK.out _ _ ?_ (fun hHeld => ?_)
                          · (try dsimp only); (with_reducible first | exact P2.out | exact P1.out | exact P0.out)
                          clear hK K
                          try simp only [Act.put, List.setIfInBounds_toArray, List.set_cons_zero, List.set_cons_succ]
                          refine wpAnyH_take (i := 31) (oi := zop35) (v := ?v_su23ft_102) rfl (by kernel_rfl) (by kernel_rfl) (by kernel_rfl) (fun _ _ _ h => h) (Or.inl ⟨by rfl, ?y_su23ft_102⟩) (by assumption) ?_
                          case y_su23ft_102 => unfold zop35; intro w hSw; (try dsimp only at hSw); go_simp; with_reducible rfl
                          try simp only [zop35, Act.put, List.setIfInBounds_toArray, List.set_cons_zero, List.set_cons_succ]
                          refine wpAnyH_ready (rs := [32]) (by kernel_rfl) (by simp) ?_
                          refine AllReadyH.cons (o := zop36) rfl (fun K hK => ?_) ?_
                          unfold zop36
                          go_simp
                          refine hK.out _ _ ?_ (fun hHeld => ?_)
                          · (try dsimp only); (with_reducible first | exact P2.out | exact P1.out | exact P0.out)
                          clear hK K
                          try simp only [Act.put, List.setIfInBounds_toArray, List.set_cons_zero, List.set_cons_succ]
                          refine wpAnyH_done (by kernel_rfl) ?_ _
                          rotate_left 1
                          exact AllReadyH.nil
                          exact AllReadyH.nil
                          exact AllReadyH.nil
                          exact AllReadyH.nil
                          exact AllReadyH.nil
                          all_goals
                            clear kF kS kS1 zF zS1 P0 P1 P2 HH
                            go_wp2_with fail
                            go_roundg (xs.length - (k + 1))
                            case measure => omega
                            case rel => exact ⟨k + 1, by omega, rfl, by simp, T2, A2, B2⟩
                      · cases bS
                        · have M1 := Lib.hid (HMF.out (true) (by rw [HE1.out]; simp))
                          have M2 := Lib.hid (HMS.out (hh) (by rw [HE2.out]; simp))
                          have T1 := Lib.hid ((hS.out.setF M1.out).go (Below.drew (Below.refl _ _)))
                          have T2 := Lib.hid (((hS.out.setF M1.out).setS M2.out).go (Below.drew (Below.refl _ _)))
                          have kS1 : (wr.setCell ⟨gF, k, none⟩ (.bool (true))).drew.cell? ⟨gS, k, none⟩ = some (.bool false) := by
                            have hne := T0.out.h.2.2.2
                            have : (wr.setCell ⟨gF, k, none⟩ (.bool (true))).drew.cell? ⟨gS, k, none⟩ = wr.cell? ⟨gS, k, none⟩ := World.cell?_setCell_far _ _ _ _ (by simpa using hne)
                            rw [this]; exact kS
                          have zS1 := T1.out.bS.fr k
                          have P0 := Lib.hid (show wr.drew.cell? ⟨g, o + k, none⟩ = some (.int .i64 x) from cell_lo T0.out.st.bl k1)
                          have P1 := Lib.hid (show (wr.setCell ⟨gF, k, none⟩ (.bool (true))).drew.cell? ⟨g, o + k, none⟩ = some (.int .i64 x) from cell_lo T1.out.st.bl k1)
                          have P2 := Lib.hid (show ((wr.setCell ⟨gF, k, none⟩ (.bool (true))).setCell ⟨gS, k, none⟩ (.bool (hh))).drew.cell? ⟨g, o + k, none⟩ = some (.int .i64 x) from cell_lo T2.out.st.bl k1)
                          have A2 := Lib.hid (show Alt (fun k => k = gF ∨ k = gS) w9 ((wr.setCell ⟨gF, k, none⟩ (.bool (true))).setCell ⟨gS, k, none⟩ (.bool (hh))).drew from ((hA.out.setCell (q := ⟨gF, k, none⟩) (.inl rfl) _).setCell (q := ⟨gS, k, none⟩) (.inr rfl) _).drew)
                          have B2 := Lib.hid (show Below w4.heap.size w4 ((wr.setCell ⟨gF, k, none⟩ (.bool (true))).setCell ⟨gS, k, none⟩ (.bool (hh))).drew from Below.drew (below_set (below_set hBB.out HGGk.out.1) HGGk.out.2))
                          clear HE1 HE2 HMF HMS M1 M2 T1 k1 hS hA hBB HFK HTK
                          go_wp2_with fail
                          refine wp_region_held_drew (S := (fun W => W.cell? ⟨g, o + k, none⟩ = some (.int .i64 x))) (by kernel_rfl) ?_ (fun hHeld => ?_)
                          · (try dsimp only); (with_reducible first | exact P2.out | exact P1.out | exact P0.out)
                          refine wpAnyH_take (i := 0) (oi := zop4) (v := ?v_su23tf_103) rfl (by kernel_rfl) (by kernel_rfl) (by kernel_rfl) (fun _ _ _ h => h) (Or.inl ⟨by rfl, ?y_su23tf_103⟩) (by assumption) ?_
                          case y_su23tf_103 => unfold zop4; intro w hSw; (try dsimp only at hSw); go_simp; with_reducible rfl
                          try simp only [zop4, Act.put, List.setIfInBounds_toArray, List.set_cons_zero, List.set_cons_succ]
                          refine wpAnyH_take (i := 1) (oi := zop5) (v := ?v_su23tf_104) rfl (by kernel_rfl) (by kernel_rfl) (by kernel_rfl) (fun _ _ _ h => h) (Or.inl ⟨by rfl, ?y_su23tf_104⟩) (by assumption) ?_
                          case y_su23tf_104 => unfold zop5; intro w hSw; (try dsimp only at hSw); go_simp; with_reducible rfl
                          try simp only [zop5, Act.put, List.setIfInBounds_toArray, List.set_cons_zero, List.set_cons_succ]
                          refine wpAnyH_take (i := 2) (oi := zop6) (v := ?v_su23tf_105) rfl (by kernel_rfl) (by kernel_rfl) (by kernel_rfl) (fun _ _ _ h => h) (Or.inl ⟨by rfl, ?y_su23tf_105⟩) (by assumption) ?_
                          case y_su23tf_105 => unfold zop6; intro w hSw; (try dsimp only at hSw); go_simp; with_reducible rfl
                          try simp only [zop6, Act.put, List.setIfInBounds_toArray, List.set_cons_zero, List.set_cons_succ]
                          refine wpAnyH_take (i := 3) (oi := zop7) (v := ?v_su23tf_106) rfl (by kernel_rfl) (by kernel_rfl) (by kernel_rfl) (fun _ _ _ h => h) (Or.inl ⟨by rfl, ?y_su23tf_106⟩) (by assumption) ?_
                          case y_su23tf_106 => unfold zop7; intro w hSw; (try dsimp only at hSw); go_simp; with_reducible rfl
                          try simp only [zop7, Act.put, List.setIfInBounds_toArray, List.set_cons_zero, List.set_cons_succ]
                          refine wpAnyH_take (i := 4) (oi := zop8) (v := ?v_su23tf_107) rfl (by kernel_rfl) (by kernel_rfl) (by kernel_rfl) (fun _ _ _ h => h) (Or.inl ⟨by rfl, ?y_su23tf_107⟩) (by assumption) ?_
                          case y_su23tf_107 => unfold zop8; intro w hSw; (try dsimp only at hSw); go_simp; with_reducible rfl
                          try simp only [zop8, Act.put, List.setIfInBounds_toArray, List.set_cons_zero, List.set_cons_succ]
                          refine wpAnyH_take (i := 5) (oi := zop9) (v := ?v_su23tf_108) rfl (by kernel_rfl) (by kernel_rfl) (by kernel_rfl) (fun _ _ _ h => h) (Or.inl ⟨by rfl, ?y_su23tf_108⟩) (by assumption) ?_
                          case y_su23tf_108 => unfold zop9; intro w hSw; (try dsimp only at hSw); go_simp; with_reducible rfl
                          try simp only [zop9, Act.put, List.setIfInBounds_toArray, List.set_cons_zero, List.set_cons_succ]
                          refine wpAnyH_take (i := 6) (oi := zop10) (v := ?v_su23tf_109) rfl (by kernel_rfl) (by kernel_rfl) (by kernel_rfl) (fun _ _ _ h => h) (Or.inl ⟨by rfl, ?y_su23tf_109⟩) (by assumption) ?_
                          case y_su23tf_109 => unfold zop10; intro w hSw; (try dsimp only at hSw); go_simp; with_reducible rfl
                          try simp only [zop10, Act.put, List.setIfInBounds_toArray, List.set_cons_zero, List.set_cons_succ]
                          refine wpAnyH_take (i := 17) (oi := zop11) (v := ?v_su23tf_110) rfl (by kernel_rfl) (by kernel_rfl) (by kernel_rfl) (fun _ _ _ h => h) (Or.inl ⟨by rfl, ?y_su23tf_110⟩) (by assumption) ?_
                          case y_su23tf_110 => unfold zop11; intro w hSw; (try dsimp only at hSw); go_simp; with_reducible rfl
                          try simp only [zop11, Act.put, List.setIfInBounds_toArray, List.set_cons_zero, List.set_cons_succ]
                          refine wpAnyH_take (i := 18) (oi := zop12) (v := ?v_su23tf_111) rfl (by kernel_rfl) (by kernel_rfl) (by kernel_rfl) (fun _ _ _ h => h) (Or.inl ⟨by rfl, ?y_su23tf_111⟩) (by assumption) ?_
                          case y_su23tf_111 => unfold zop12; intro w hSw; (try dsimp only at hSw); go_simp; with_reducible rfl
                          try simp only [zop12, Act.put, List.setIfInBounds_toArray, List.set_cons_zero, List.set_cons_succ]
                          refine wpAnyH_take (i := 19) (oi := zop13) (v := ?v_su23tf_112) rfl (by kernel_rfl) (by kernel_rfl) (by kernel_rfl) (fun _ _ _ h => h) (Or.inl ⟨by rfl, ?y_su23tf_112⟩) (by assumption) ?_
                          case y_su23tf_112 => unfold zop13; intro w hSw; (try dsimp only at hSw); go_simp; with_reducible rfl
                          try simp only [zop13, Act.put, List.setIfInBounds_toArray, List.set_cons_zero, List.set_cons_succ]
                          refine wpAnyH_ready (rs := [7, 20]) (by kernel_rfl) (by simp) ?_
                          refine AllReadyH.cons (o := zop14) rfl (fun K hK => ?_) ?_
                          unfold zop14
                          go_simp
                          refine hK.out _ _ ?_ (fun hHeld => ?_)
                          · (try dsimp only); (with_reducible first | exact P2.out | exact P1.out | exact P0.out)
                          clear hK K
                          try simp only [Act.put, List.setIfInBounds_toArray, List.set_cons_zero, List.set_cons_succ]
                          refine wpAnyH_take (i := 8) (oi := zop15) (v := ?v_su23tf_113) rfl (by kernel_rfl) (by kernel_rfl) (by kernel_rfl) (fun _ _ _ h => h) (Or.inl ⟨by rfl, ?y_su23tf_113⟩) (by assumption) ?_
                          case y_su23tf_113 => unfold zop15; intro w hSw; (try dsimp only at hSw); go_simp; with_reducible rfl
                          try simp only [zop15, Act.put, List.setIfInBounds_toArray, List.set_cons_zero, List.set_cons_succ]
                          refine wpAnyH_take (i := 9) (oi := zop16) (v := undef) rfl (by kernel_rfl) (by kernel_rfl) (by kernel_rfl) (fun _ _ _ h => h) (Or.inr ⟨by rfl, rfl⟩) (by assumption) ?_
                          try simp only [zop16, Act.put, List.setIfInBounds_toArray, List.set_cons_zero, List.set_cons_succ]
                          refine wpAnyH_take (i := 10) (oi := zop17) (v := undef) rfl (by kernel_rfl) (by kernel_rfl) (by kernel_rfl) (fun _ _ _ h => h) (Or.inr ⟨by rfl, rfl⟩) (by assumption) ?_
                          try simp only [zop17, Act.put, List.setIfInBounds_toArray, List.set_cons_zero, List.set_cons_succ]
                          refine wpAnyH_take (i := 11) (oi := zop18) (v := undef) rfl (by kernel_rfl) (by kernel_rfl) (by kernel_rfl) (fun _ _ _ h => h) (Or.inr ⟨by rfl, rfl⟩) (by assumption) ?_
                          try simp only [zop18, Act.put, List.setIfInBounds_toArray, List.set_cons_zero, List.set_cons_succ]
                          refine wpAnyH_take (i := 12) (oi := zop19) (v := undef) rfl (by kernel_rfl) (by kernel_rfl) (by kernel_rfl) (fun _ _ _ h => h) (Or.inr ⟨by rfl, rfl⟩) (by assumption) ?_
                          try simp only [zop19, Act.put, List.setIfInBounds_toArray, List.set_cons_zero, List.set_cons_succ]
                          refine wpAnyH_take (i := 13) (oi := zop20) (v := undef) rfl (by kernel_rfl) (by kernel_rfl) (by kernel_rfl) (fun _ _ _ h => h) (Or.inr ⟨by rfl, rfl⟩) (by assumption) ?_
                          try simp only [zop20, Act.put, List.setIfInBounds_toArray, List.set_cons_zero, List.set_cons_succ]
                          refine wpAnyH_take (i := 14) (oi := zop21) (v := undef) rfl (by kernel_rfl) (by kernel_rfl) (by kernel_rfl) (fun _ _ _ h => h) (Or.inr ⟨by rfl, rfl⟩) (by assumption) ?_
                          try simp only [zop21, Act.put, List.setIfInBounds_toArray, List.set_cons_zero, List.set_cons_succ]
                          refine wpAnyH_take (i := 15) (oi := zop22) (v := undef) rfl (by kernel_rfl) (by kernel_rfl) (by kernel_rfl) (fun _ _ _ h => h) (Or.inr ⟨by rfl, rfl⟩) (by assumption) ?_
                          try simp only [zop22, Act.put, List.setIfInBounds_toArray, List.set_cons_zero, List.set_cons_succ]
                          refine wpAnyH_take (i := 16) (oi := zop23) (v := ?v_su23tf_114) rfl (by kernel_rfl) (by kernel_rfl) (by kernel_rfl) (fun _ _ _ h => h) (Or.inl ⟨by rfl, ?y_su23tf_114⟩) (by assumption) ?_
                          case y_su23tf_114 => unfold zop23; intro w hSw; (try dsimp only at hSw); go_simp; with_reducible rfl
                          try simp only [zop23, Act.put, List.setIfInBounds_toArray, List.set_cons_zero, List.set_cons_succ]
                          refine wpAnyH_ready (rs := [20]) (by kernel_rfl) (by simp) ?_
                          refine AllReadyH.cons (o := zop24) rfl (fun K hK => ?_) ?_
                          unfold zop24
                          go_simp
                          refine hK.out _ _ ?_ (fun hHeld => ?_)
                          · (try dsimp only); (with_reducible first | exact P2.out | exact P1.out | exact P0.out)
                          clear hK K
                          try simp only [Act.put, List.setIfInBounds_toArray, List.set_cons_zero, List.set_cons_succ]
                          refine wpAnyH_take (i := 21) (oi := zop25) (v := ?v_su23tf_115) rfl (by kernel_rfl) (by kernel_rfl) (by kernel_rfl) (fun _ _ _ h => h) (Or.inl ⟨by rfl, ?y_su23tf_115⟩) (by assumption) ?_
                          case y_su23tf_115 => unfold zop25; intro w hSw; (try dsimp only at hSw); go_simp; with_reducible rfl
                          try simp only [zop25, Act.put, List.setIfInBounds_toArray, List.set_cons_zero, List.set_cons_succ]
                          refine wpAnyH_take (i := 22) (oi := zop26) (v := ?v_su23tf_116) rfl (by kernel_rfl) (by kernel_rfl) (by kernel_rfl) (fun _ _ _ h => h) (Or.inl ⟨by rfl, ?y_su23tf_116⟩) (by assumption) ?_
                          case y_su23tf_116 => unfold zop26; intro w hSw; (try dsimp only at hSw); go_simp; with_reducible rfl
                          try simp only [zop26, Act.put, List.setIfInBounds_toArray, List.set_cons_zero, List.set_cons_succ]
                          refine wpAnyH_take (i := 23) (oi := zop27) (v := ?v_su23tf_117) rfl (by kernel_rfl) (by kernel_rfl) (by kernel_rfl) (fun _ _ _ h => h) (Or.inl ⟨by rfl, ?y_su23tf_117⟩) (by assumption) ?_
                          case y_su23tf_117 => unfold zop27; intro w hSw; (try dsimp only at hSw); go_simp; with_reducible rfl
                          try simp only [zop27, Act.put, List.setIfInBounds_toArray, List.set_cons_zero, List.set_cons_succ]
                          refine wpAnyH_take (i := 24) (oi := zop28) (v := ?v_su23tf_118) rfl (by kernel_rfl) (by kernel_rfl) (by kernel_rfl) (fun _ _ _ h => h) (Or.inl ⟨by rfl, ?y_su23tf_118⟩) (by assumption) ?_
                          case y_su23tf_118 => unfold zop28; intro w hSw; (try dsimp only at hSw); go_simp; with_reducible rfl
                          try simp only [zop28, Act.put, List.setIfInBounds_toArray, List.set_cons_zero, List.set_cons_succ]
                          refine wpAnyH_take (i := 25) (oi := zop29) (v := ?v_su23tf_119) rfl (by kernel_rfl) (by kernel_rfl) (by kernel_rfl) (fun _ _ _ h => h) (Or.inl ⟨by rfl, ?y_su23tf_119⟩) (by assumption) ?_
                          case y_su23tf_119 => unfold zop29; intro w hSw; (try dsimp only at hSw); go_simp; with_reducible rfl
                          try simp only [zop29, Act.put, List.setIfInBounds_toArray, List.set_cons_zero, List.set_cons_succ]
                          refine wpAnyH_take (i := 26) (oi := zop30) (v := ?v_su23tf_120) rfl (by kernel_rfl) (by kernel_rfl) (by kernel_rfl) (fun _ _ _ h => h) (Or.inl ⟨by rfl, ?y_su23tf_120⟩) (by assumption) ?_
                          case y_su23tf_120 => unfold zop30; intro w hSw; (try dsimp only at hSw); go_simp; with_reducible rfl
                          try simp only [zop30, Act.put, List.setIfInBounds_toArray, List.set_cons_zero, List.set_cons_succ]
                          refine wpAnyH_ready (rs := [27]) (by kernel_rfl) (by simp) ?_
                          refine AllReadyH.cons (o := zop31) rfl (fun K hK => ?_) ?_
                          unfold zop31
                          go_simp
                          (first | (go_at_call 39; (with_reducible refine HH.out.mono ?_); rintro e wI ⟨rfl, rfl⟩))
                          go_wp2_with fail
                          refine hK.out _ _ ?_ (fun hHeld => ?_)
                          · (try dsimp only); (with_reducible first | exact P2.out | exact P1.out | exact P0.out)
                          clear hK K
                          try simp only [Act.put, List.setIfInBounds_toArray, List.set_cons_zero, List.set_cons_succ]
                          refine wpAnyH_take (i := 28) (oi := zop32) (v := ?v_su23tf_121) rfl (by kernel_rfl) (by kernel_rfl) (by kernel_rfl) (fun _ _ _ h => h) (Or.inl ⟨by rfl, ?y_su23tf_121⟩) (by assumption) ?_
                          case y_su23tf_121 => unfold zop32; intro w hSw; (try dsimp only at hSw); go_simp; with_reducible rfl
                          try simp only [zop32, Act.put, List.setIfInBounds_toArray, List.set_cons_zero, List.set_cons_succ]
                          refine wpAnyH_take (i := 29) (oi := zop33) (v := ?v_su23tf_122) rfl (by kernel_rfl) (by kernel_rfl) (by kernel_rfl) (fun _ _ _ h => h) (Or.inl ⟨by rfl, ?y_su23tf_122⟩) (by assumption) ?_
                          case y_su23tf_122 => unfold zop33; intro w hSw; (try dsimp only at hSw); go_simp; with_reducible rfl
                          try simp only [zop33, Act.put, List.setIfInBounds_toArray, List.set_cons_zero, List.set_cons_succ]
                          refine wpAnyH_ready (rs := [30]) (by kernel_rfl) (by simp) ?_
                          refine AllReadyH.cons (o := zop34) rfl (fun K hK => ?_) ?_
                          unfold zop34
                          go_simp
                          refine hK.out _ _ ?_ (fun hHeld => ?_)
                          · (try dsimp only); (with_reducible first | exact P2.out | exact P1.out | exact P0.out)
                          clear hK K
                          try simp only [Act.put, List.setIfInBounds_toArray, List.set_cons_zero, List.set_cons_succ]
                          refine wpAnyH_take (i := 31) (oi := zop35) (v := ?v_su23tf_123) rfl (by kernel_rfl) (by kernel_rfl) (by kernel_rfl) (fun _ _ _ h => h) (Or.inl ⟨by rfl, ?y_su23tf_123⟩) (by assumption) ?_
                          case y_su23tf_123 => unfold zop35; intro w hSw; (try dsimp only at hSw); go_simp; with_reducible rfl
                          try simp only [zop35, Act.put, List.setIfInBounds_toArray, List.set_cons_zero, List.set_cons_succ]
                          refine wpAnyH_ready (rs := [32]) (by kernel_rfl) (by simp) ?_
                          refine AllReadyH.cons (o := zop36) rfl (fun K hK => ?_) ?_
                          unfold zop36
                          go_simp
                          refine hK.out _ _ ?_ (fun hHeld => ?_)
                          · (try dsimp only); (with_reducible first | exact P2.out | exact P1.out | exact P0.out)
                          clear hK K
                          try simp only [Act.put, List.setIfInBounds_toArray, List.set_cons_zero, List.set_cons_succ]
                          refine wpAnyH_done (by kernel_rfl) ?_ _
                          rotate_left 1
                          exact AllReadyH.nil
                          exact AllReadyH.nil
                          exact AllReadyH.nil
                          exact AllReadyH.nil
                          refine AllReadyH.cons (o := zop24) rfl (fun K hK => ?_) ?_
                          unfold zop24
                          go_simp
                          refine hK.out _ _ ?_ (fun hHeld => ?_)
                          · (try dsimp only); (with_reducible first | exact P2.out | exact P1.out | exact P0.out)
                          clear hK K
                          try simp only [Act.put, List.setIfInBounds_toArray, List.set_cons_zero, List.set_cons_succ]
                          refine wpAnyH_ready (rs := [7]) (by kernel_rfl) (by simp) ?_
                          refine AllReadyH.cons (o := zop14) rfl (fun K hK => ?_) ?_
                          unfold zop14
                          go_simp
                          refine hK.out _ _ ?_ (fun hHeld => ?_)
                          · (try dsimp only); (with_reducible first | exact P2.out | exact P1.out | exact P0.out)
                          clear hK K
                          try simp only [Act.put, List.setIfInBounds_toArray, List.set_cons_zero, List.set_cons_succ]
                          refine wpAnyH_take (i := 8) (oi := zop15) (v := ?v_su23tf_124) rfl (by kernel_rfl) (by kernel_rfl) (by kernel_rfl) (fun _ _ _ h => h) (Or.inl ⟨by rfl, ?y_su23tf_124⟩) (by assumption) ?_
                          case y_su23tf_124 => unfold zop15; intro w hSw; (try dsimp only at hSw); go_simp; with_reducible rfl
                          try simp only [zop15, Act.put, List.setIfInBounds_toArray, List.set_cons_zero, List.set_cons_succ]
                          refine wpAnyH_take (i := 9) (oi := zop16) (v := undef) rfl (by kernel_rfl) (by kernel_rfl) (by kernel_rfl) (fun _ _ _ h => h) (Or.inr ⟨by rfl, rfl⟩) (by assumption) ?_
                          try simp only [zop16, Act.put, List.setIfInBounds_toArray, List.set_cons_zero, List.set_cons_succ]
                          refine wpAnyH_take (i := 10) (oi := zop17) (v := undef) rfl (by kernel_rfl) (by kernel_rfl) (by kernel_rfl) (fun _ _ _ h => h) (Or.inr ⟨by rfl, rfl⟩) (by assumption) ?_
                          try simp only [zop17, Act.put, List.setIfInBounds_toArray, List.set_cons_zero, List.set_cons_succ]
                          refine wpAnyH_take (i := 11) (oi := zop18) (v := undef) rfl (by kernel_rfl) (by kernel_rfl) (by kernel_rfl) (fun _ _ _ h => h) (Or.inr ⟨by rfl, rfl⟩) (by assumption) ?_
                          try simp only [zop18, Act.put, List.setIfInBounds_toArray, List.set_cons_zero, List.set_cons_succ]
                          refine wpAnyH_take (i := 12) (oi := zop19) (v := undef) rfl (by kernel_rfl) (by kernel_rfl) (by kernel_rfl) (fun _ _ _ h => h) (Or.inr ⟨by rfl, rfl⟩) (by assumption) ?_
                          try simp only [zop19, Act.put, List.setIfInBounds_toArray, List.set_cons_zero, List.set_cons_succ]
                          refine wpAnyH_take (i := 13) (oi := zop20) (v := undef) rfl (by kernel_rfl) (by kernel_rfl) (by kernel_rfl) (fun _ _ _ h => h) (Or.inr ⟨by rfl, rfl⟩) (by assumption) ?_
                          try simp only [zop20, Act.put, List.setIfInBounds_toArray, List.set_cons_zero, List.set_cons_succ]
                          refine wpAnyH_take (i := 14) (oi := zop21) (v := undef) rfl (by kernel_rfl) (by kernel_rfl) (by kernel_rfl) (fun _ _ _ h => h) (Or.inr ⟨by rfl, rfl⟩) (by assumption) ?_
                          try simp only [zop21, Act.put, List.setIfInBounds_toArray, List.set_cons_zero, List.set_cons_succ]
                          refine wpAnyH_take (i := 15) (oi := zop22) (v := undef) rfl (by kernel_rfl) (by kernel_rfl) (by kernel_rfl) (fun _ _ _ h => h) (Or.inr ⟨by rfl, rfl⟩) (by assumption) ?_
                          try simp only [zop22, Act.put, List.setIfInBounds_toArray, List.set_cons_zero, List.set_cons_succ]
                          refine wpAnyH_take (i := 16) (oi := zop23) (v := ?v_su23tf_125) rfl (by kernel_rfl) (by kernel_rfl) (by kernel_rfl) (fun _ _ _ h => h) (Or.inl ⟨by rfl, ?y_su23tf_125⟩) (by assumption) ?_
                          case y_su23tf_125 => unfold zop23; intro w hSw; (try dsimp only at hSw); go_simp; with_reducible rfl
                          try simp only [zop23, Act.put, List.setIfInBounds_toArray, List.set_cons_zero, List.set_cons_succ]
                          refine wpAnyH_take (i := 21) (oi := zop25) (v := ?v_su23tf_126) rfl (by kernel_rfl) (by kernel_rfl) (by kernel_rfl) (fun _ _ _ h => h) (Or.inl ⟨by rfl, ?y_su23tf_126⟩) (by assumption) ?_
                          case y_su23tf_126 => unfold zop25; intro w hSw; (try dsimp only at hSw); go_simp; with_reducible rfl
                          try simp only [zop25, Act.put, List.setIfInBounds_toArray, List.set_cons_zero, List.set_cons_succ]
                          refine wpAnyH_take (i := 22) (oi := zop26) (v := ?v_su23tf_127) rfl (by kernel_rfl) (by kernel_rfl) (by kernel_rfl) (fun _ _ _ h => h) (Or.inl ⟨by rfl, ?y_su23tf_127⟩) (by assumption) ?_
                          case y_su23tf_127 => unfold zop26; intro w hSw; (try dsimp only at hSw); go_simp; with_reducible rfl
                          try simp only [zop26, Act.put, List.setIfInBounds_toArray, List.set_cons_zero, List.set_cons_succ]
                          refine wpAnyH_take (i := 23) (oi := zop27) (v := ?v_su23tf_128) rfl (by kernel_rfl) (by kernel_rfl) (by kernel_rfl) (fun _ _ _ h => h) (Or.inl ⟨by rfl, ?y_su23tf_128⟩) (by assumption) ?_
                          case y_su23tf_128 => unfold zop27; intro w hSw; (try dsimp only at hSw); go_simp; with_reducible rfl
                          try simp only [zop27, Act.put, List.setIfInBounds_toArray, List.set_cons_zero, List.set_cons_succ]
                          refine wpAnyH_take (i := 24) (oi := zop28) (v := ?v_su23tf_129) rfl (by kernel_rfl) (by kernel_rfl) (by kernel_rfl) (fun _ _ _ h => h) (Or.inl ⟨by rfl, ?y_su23tf_129⟩) (by assumption) ?_
                          case y_su23tf_129 => unfold zop28; intro w hSw; (try dsimp only at hSw); go_simp; with_reducible rfl
                          try simp only [zop28, Act.put, List.setIfInBounds_toArray, List.set_cons_zero, List.set_cons_succ]
                          refine wpAnyH_take (i := 25) (oi := zop29) (v := ?v_su23tf_130) rfl (by kernel_rfl) (by kernel_rfl) (by kernel_rfl) (fun _ _ _ h => h) (Or.inl ⟨by rfl, ?y_su23tf_130⟩) (by assumption) ?_
                          case y_su23tf_130 => unfold zop29; intro w hSw; (try dsimp only at hSw); go_simp; with_reducible rfl
                          try simp only [zop29, Act.put, List.setIfInBounds_toArray, List.set_cons_zero, List.set_cons_succ]
                          refine wpAnyH_take (i := 26) (oi := zop30) (v := ?v_su23tf_131) rfl (by kernel_rfl) (by kernel_rfl) (by kernel_rfl) (fun _ _ _ h => h) (Or.inl ⟨by rfl, ?y_su23tf_131⟩) (by assumption) ?_
                          case y_su23tf_131 => unfold zop30; intro w hSw; (try dsimp only at hSw); go_simp; with_reducible rfl
                          try simp only [zop30, Act.put, List.setIfInBounds_toArray, List.set_cons_zero, List.set_cons_succ]
                          refine wpAnyH_ready (rs := [27]) (by kernel_rfl) (by simp) ?_
                          refine AllReadyH.cons (o := zop31) rfl (fun K hK => ?_) ?_
                          unfold zop31
                          go_simp
                          (first | (go_at_call 39; (with_reducible refine HH.out.mono ?_); rintro e wI ⟨rfl, rfl⟩))
                          go_wp2_with fail
                          refine hK.out _ _ ?_ (fun hHeld => ?_)
                          · (try dsimp only); (with_reducible first | exact P2.out | exact P1.out | exact P0.out)
                          clear hK K
                          try simp only [Act.put, List.setIfInBounds_toArray, List.set_cons_zero, List.set_cons_succ]
                          refine wpAnyH_take (i := 28) (oi := zop32) (v := ?v_su23tf_132) rfl (by kernel_rfl) (by kernel_rfl) (by kernel_rfl) (fun _ _ _ h => h) (Or.inl ⟨by rfl, ?y_su23tf_132⟩) (by assumption) ?_
                          case y_su23tf_132 => unfold zop32; intro w hSw; (try dsimp only at hSw); go_simp; with_reducible rfl
                          try simp only [zop32, Act.put, List.setIfInBounds_toArray, List.set_cons_zero, List.set_cons_succ]
                          refine wpAnyH_take (i := 29) (oi := zop33) (v := ?v_su23tf_133) rfl (by kernel_rfl) (by kernel_rfl) (by kernel_rfl) (fun _ _ _ h => h) (Or.inl ⟨by rfl, ?y_su23tf_133⟩) (by assumption) ?_
                          case y_su23tf_133 => unfold zop33; intro w hSw; (try dsimp only at hSw); go_simp; with_reducible rfl
                          try simp only [zop33, Act.put, List.setIfInBounds_toArray, List.set_cons_zero, List.set_cons_succ]
                          refine wpAnyH_ready (rs := [30]) (by kernel_rfl) (by simp) ?_
                          refine AllReadyH.cons (o := zop34) rfl (fun K hK => ?_) ?_
                          unfold zop34
                          go_simp
                          refine hK.out _ _ ?_ (fun hHeld => ?_)
                          · (try dsimp only); (with_reducible first | exact P2.out | exact P1.out | exact P0.out)
                          clear hK K
                          try simp only [Act.put, List.setIfInBounds_toArray, List.set_cons_zero, List.set_cons_succ]
                          refine wpAnyH_take (i := 31) (oi := zop35) (v := ?v_su23tf_134) rfl (by kernel_rfl) (by kernel_rfl) (by kernel_rfl) (fun _ _ _ h => h) (Or.inl ⟨by rfl, ?y_su23tf_134⟩) (by assumption) ?_
                          case y_su23tf_134 => unfold zop35; intro w hSw; (try dsimp only at hSw); go_simp; with_reducible rfl
                          try simp only [zop35, Act.put, List.setIfInBounds_toArray, List.set_cons_zero, List.set_cons_succ]
                          refine wpAnyH_ready (rs := [32]) (by kernel_rfl) (by simp) ?_
                          refine AllReadyH.cons (o := zop36) rfl (fun K hK => ?_) ?_
                          unfold zop36
                          go_simp
                          refine hK.out _ _ ?_ (fun hHeld => ?_)
                          · (try dsimp only); (with_reducible first | exact P2.out | exact P1.out | exact P0.out)
                          clear hK K
                          try simp only [Act.put, List.setIfInBounds_toArray, List.set_cons_zero, List.set_cons_succ]
                          refine wpAnyH_done (by kernel_rfl) ?_ _
                          rotate_left 1
                          exact AllReadyH.nil
                          exact AllReadyH.nil
                          exact AllReadyH.nil
                          exact AllReadyH.nil
                          exact AllReadyH.nil
                          all_goals
                            clear kF kS kS1 zF zS1 P0 P1 P2 HH
                            go_wp2_with fail
                            go_roundg (xs.length - (k + 1))
                            case measure => omega
                            case rel => exact ⟨k + 1, by omega, rfl, by simp, T2, A2, B2⟩
                        · have M1 := Lib.hid (HMF.out (true) (by rw [HE1.out]; simp))
                          have M2 := Lib.hid (HMS.out (true) (by rw [HE2.out]; simp))
                          have T1 := Lib.hid ((hS.out.setF M1.out).go (Below.drew (Below.refl _ _)))
                          have T2 := Lib.hid (((hS.out.setF M1.out).setS M2.out).go (Below.drew (Below.refl _ _)))
                          have kS1 : (wr.setCell ⟨gF, k, none⟩ (.bool (true))).drew.cell? ⟨gS, k, none⟩ = some (.bool true) := by
                            have hne := T0.out.h.2.2.2
                            have : (wr.setCell ⟨gF, k, none⟩ (.bool (true))).drew.cell? ⟨gS, k, none⟩ = wr.cell? ⟨gS, k, none⟩ := World.cell?_setCell_far _ _ _ _ (by simpa using hne)
                            rw [this]; exact kS
                          have zS1 := T1.out.bS.fr k
                          have P0 := Lib.hid (show wr.drew.cell? ⟨g, o + k, none⟩ = some (.int .i64 x) from cell_lo T0.out.st.bl k1)
                          have P1 := Lib.hid (show (wr.setCell ⟨gF, k, none⟩ (.bool (true))).drew.cell? ⟨g, o + k, none⟩ = some (.int .i64 x) from cell_lo T1.out.st.bl k1)
                          have P2 := Lib.hid (show ((wr.setCell ⟨gF, k, none⟩ (.bool (true))).setCell ⟨gS, k, none⟩ (.bool (true))).drew.cell? ⟨g, o + k, none⟩ = some (.int .i64 x) from cell_lo T2.out.st.bl k1)
                          have A2 := Lib.hid (show Alt (fun k => k = gF ∨ k = gS) w9 ((wr.setCell ⟨gF, k, none⟩ (.bool (true))).setCell ⟨gS, k, none⟩ (.bool (true))).drew from ((hA.out.setCell (q := ⟨gF, k, none⟩) (.inl rfl) _).setCell (q := ⟨gS, k, none⟩) (.inr rfl) _).drew)
                          have B2 := Lib.hid (show Below w4.heap.size w4 ((wr.setCell ⟨gF, k, none⟩ (.bool (true))).setCell ⟨gS, k, none⟩ (.bool (true))).drew from Below.drew (below_set (below_set hBB.out HGGk.out.1) HGGk.out.2))
                          clear HE1 HE2 HMF HMS M1 M2 T1 k1 hS hA hBB HFK HTK
                          go_wp2_with fail
                          refine wp_region_held_drew (S := (fun W => W.cell? ⟨g, o + k, none⟩ = some (.int .i64 x))) (by kernel_rfl) ?_ (fun hHeld => ?_)
                          · (try dsimp only); (with_reducible first | exact P2.out | exact P1.out | exact P0.out)
                          refine wpAnyH_take (i := 0) (oi := zop4) (v := ?v_su23tt_135) rfl (by kernel_rfl) (by kernel_rfl) (by kernel_rfl) (fun _ _ _ h => h) (Or.inl ⟨by rfl, ?y_su23tt_135⟩) (by assumption) ?_
                          case y_su23tt_135 => unfold zop4; intro w hSw; (try dsimp only at hSw); go_simp; with_reducible rfl
                          try simp only [zop4, Act.put, List.setIfInBounds_toArray, List.set_cons_zero, List.set_cons_succ]
                          refine wpAnyH_take (i := 1) (oi := zop5) (v := ?v_su23tt_136) rfl (by kernel_rfl) (by kernel_rfl) (by kernel_rfl) (fun _ _ _ h => h) (Or.inl ⟨by rfl, ?y_su23tt_136⟩) (by assumption) ?_
                          case y_su23tt_136 => unfold zop5; intro w hSw; (try dsimp only at hSw); go_simp; with_reducible rfl
                          try simp only [zop5, Act.put, List.setIfInBounds_toArray, List.set_cons_zero, List.set_cons_succ]
                          refine wpAnyH_take (i := 2) (oi := zop6) (v := ?v_su23tt_137) rfl (by kernel_rfl) (by kernel_rfl) (by kernel_rfl) (fun _ _ _ h => h) (Or.inl ⟨by rfl, ?y_su23tt_137⟩) (by assumption) ?_
                          case y_su23tt_137 => unfold zop6; intro w hSw; (try dsimp only at hSw); go_simp; with_reducible rfl
                          try simp only [zop6, Act.put, List.setIfInBounds_toArray, List.set_cons_zero, List.set_cons_succ]
                          refine wpAnyH_take (i := 3) (oi := zop7) (v := ?v_su23tt_138) rfl (by kernel_rfl) (by kernel_rfl) (by kernel_rfl) (fun _ _ _ h => h) (Or.inl ⟨by rfl, ?y_su23tt_138⟩) (by assumption) ?_
                          case y_su23tt_138 => unfold zop7; intro w hSw; (try dsimp only at hSw); go_simp; with_reducible rfl
                          try simp only [zop7, Act.put, List.setIfInBounds_toArray, List.set_cons_zero, List.set_cons_succ]
                          refine wpAnyH_take (i := 4) (oi := zop8) (v := ?v_su23tt_139) rfl (by kernel_rfl) (by kernel_rfl) (by kernel_rfl) (fun _ _ _ h => h) (Or.inl ⟨by rfl, ?y_su23tt_139⟩) (by assumption) ?_
                          case y_su23tt_139 => unfold zop8; intro w hSw; (try dsimp only at hSw); go_simp; with_reducible rfl
                          try simp only [zop8, Act.put, List.setIfInBounds_toArray, List.set_cons_zero, List.set_cons_succ]
                          refine wpAnyH_take (i := 5) (oi := zop9) (v := ?v_su23tt_140) rfl (by kernel_rfl) (by kernel_rfl) (by kernel_rfl) (fun _ _ _ h => h) (Or.inl ⟨by rfl, ?y_su23tt_140⟩) (by assumption) ?_
                          case y_su23tt_140 => unfold zop9; intro w hSw; (try dsimp only at hSw); go_simp; with_reducible rfl
                          try simp only [zop9, Act.put, List.setIfInBounds_toArray, List.set_cons_zero, List.set_cons_succ]
                          refine wpAnyH_take (i := 6) (oi := zop10) (v := ?v_su23tt_141) rfl (by kernel_rfl) (by kernel_rfl) (by kernel_rfl) (fun _ _ _ h => h) (Or.inl ⟨by rfl, ?y_su23tt_141⟩) (by assumption) ?_
                          case y_su23tt_141 => unfold zop10; intro w hSw; (try dsimp only at hSw); go_simp; with_reducible rfl
                          try simp only [zop10, Act.put, List.setIfInBounds_toArray, List.set_cons_zero, List.set_cons_succ]
                          refine wpAnyH_take (i := 17) (oi := zop11) (v := ?v_su23tt_142) rfl (by kernel_rfl) (by kernel_rfl) (by kernel_rfl) (fun _ _ _ h => h) (Or.inl ⟨by rfl, ?y_su23tt_142⟩) (by assumption) ?_
                          case y_su23tt_142 => unfold zop11; intro w hSw; (try dsimp only at hSw); go_simp; with_reducible rfl
                          try simp only [zop11, Act.put, List.setIfInBounds_toArray, List.set_cons_zero, List.set_cons_succ]
                          refine wpAnyH_take (i := 18) (oi := zop12) (v := ?v_su23tt_143) rfl (by kernel_rfl) (by kernel_rfl) (by kernel_rfl) (fun _ _ _ h => h) (Or.inl ⟨by rfl, ?y_su23tt_143⟩) (by assumption) ?_
                          case y_su23tt_143 => unfold zop12; intro w hSw; (try dsimp only at hSw); go_simp; with_reducible rfl
                          try simp only [zop12, Act.put, List.setIfInBounds_toArray, List.set_cons_zero, List.set_cons_succ]
                          refine wpAnyH_take (i := 19) (oi := zop13) (v := ?v_su23tt_144) rfl (by kernel_rfl) (by kernel_rfl) (by kernel_rfl) (fun _ _ _ h => h) (Or.inl ⟨by rfl, ?y_su23tt_144⟩) (by assumption) ?_
                          case y_su23tt_144 => unfold zop13; intro w hSw; (try dsimp only at hSw); go_simp; with_reducible rfl
                          try simp only [zop13, Act.put, List.setIfInBounds_toArray, List.set_cons_zero, List.set_cons_succ]
                          refine wpAnyH_ready (rs := [7, 20]) (by kernel_rfl) (by simp) ?_
                          refine AllReadyH.cons (o := zop14) rfl (fun K hK => ?_) ?_
                          unfold zop14
                          go_simp
                          refine hK.out _ _ ?_ (fun hHeld => ?_)
                          · (try dsimp only); (with_reducible first | exact P2.out | exact P1.out | exact P0.out)
                          clear hK K
                          try simp only [Act.put, List.setIfInBounds_toArray, List.set_cons_zero, List.set_cons_succ]
                          refine wpAnyH_take (i := 8) (oi := zop15) (v := ?v_su23tt_145) rfl (by kernel_rfl) (by kernel_rfl) (by kernel_rfl) (fun _ _ _ h => h) (Or.inl ⟨by rfl, ?y_su23tt_145⟩) (by assumption) ?_
                          case y_su23tt_145 => unfold zop15; intro w hSw; (try dsimp only at hSw); go_simp; with_reducible rfl
                          try simp only [zop15, Act.put, List.setIfInBounds_toArray, List.set_cons_zero, List.set_cons_succ]
                          refine wpAnyH_take (i := 9) (oi := zop16) (v := undef) rfl (by kernel_rfl) (by kernel_rfl) (by kernel_rfl) (fun _ _ _ h => h) (Or.inr ⟨by rfl, rfl⟩) (by assumption) ?_
                          try simp only [zop16, Act.put, List.setIfInBounds_toArray, List.set_cons_zero, List.set_cons_succ]
                          refine wpAnyH_take (i := 10) (oi := zop17) (v := undef) rfl (by kernel_rfl) (by kernel_rfl) (by kernel_rfl) (fun _ _ _ h => h) (Or.inr ⟨by rfl, rfl⟩) (by assumption) ?_
                          try simp only [zop17, Act.put, List.setIfInBounds_toArray, List.set_cons_zero, List.set_cons_succ]
                          refine wpAnyH_take (i := 11) (oi := zop18) (v := undef) rfl (by kernel_rfl) (by kernel_rfl) (by kernel_rfl) (fun _ _ _ h => h) (Or.inr ⟨by rfl, rfl⟩) (by assumption) ?_
                          try simp only [zop18, Act.put, List.setIfInBounds_toArray, List.set_cons_zero, List.set_cons_succ]
                          refine wpAnyH_take (i := 12) (oi := zop19) (v := undef) rfl (by kernel_rfl) (by kernel_rfl) (by kernel_rfl) (fun _ _ _ h => h) (Or.inr ⟨by rfl, rfl⟩) (by assumption) ?_
                          try simp only [zop19, Act.put, List.setIfInBounds_toArray, List.set_cons_zero, List.set_cons_succ]
                          refine wpAnyH_take (i := 13) (oi := zop20) (v := undef) rfl (by kernel_rfl) (by kernel_rfl) (by kernel_rfl) (fun _ _ _ h => h) (Or.inr ⟨by rfl, rfl⟩) (by assumption) ?_
                          try simp only [zop20, Act.put, List.setIfInBounds_toArray, List.set_cons_zero, List.set_cons_succ]
                          refine wpAnyH_take (i := 14) (oi := zop21) (v := undef) rfl (by kernel_rfl) (by kernel_rfl) (by kernel_rfl) (fun _ _ _ h => h) (Or.inr ⟨by rfl, rfl⟩) (by assumption) ?_
                          try simp only [zop21, Act.put, List.setIfInBounds_toArray, List.set_cons_zero, List.set_cons_succ]
                          refine wpAnyH_take (i := 15) (oi := zop22) (v := undef) rfl (by kernel_rfl) (by kernel_rfl) (by kernel_rfl) (fun _ _ _ h => h) (Or.inr ⟨by rfl, rfl⟩) (by assumption) ?_
                          try simp only [zop22, Act.put, List.setIfInBounds_toArray, List.set_cons_zero, List.set_cons_succ]
                          refine wpAnyH_take (i := 16) (oi := zop23) (v := ?v_su23tt_146) rfl (by kernel_rfl) (by kernel_rfl) (by kernel_rfl) (fun _ _ _ h => h) (Or.inl ⟨by rfl, ?y_su23tt_146⟩) (by assumption) ?_
                          case y_su23tt_146 => unfold zop23; intro w hSw; (try dsimp only at hSw); go_simp; with_reducible rfl
                          try simp only [zop23, Act.put, List.setIfInBounds_toArray, List.set_cons_zero, List.set_cons_succ]
                          refine wpAnyH_ready (rs := [20]) (by kernel_rfl) (by simp) ?_
                          refine AllReadyH.cons (o := zop24) rfl (fun K hK => ?_) ?_
                          unfold zop24
                          go_simp
                          refine hK.out _ _ ?_ (fun hHeld => ?_)
                          · (try dsimp only); (with_reducible first | exact P2.out | exact P1.out | exact P0.out)
                          clear hK K
                          try simp only [Act.put, List.setIfInBounds_toArray, List.set_cons_zero, List.set_cons_succ]
                          refine wpAnyH_take (i := 21) (oi := zop25) (v := ?v_su23tt_147) rfl (by kernel_rfl) (by kernel_rfl) (by kernel_rfl) (fun _ _ _ h => h) (Or.inl ⟨by rfl, ?y_su23tt_147⟩) (by assumption) ?_
                          case y_su23tt_147 => unfold zop25; intro w hSw; (try dsimp only at hSw); go_simp; with_reducible rfl
                          try simp only [zop25, Act.put, List.setIfInBounds_toArray, List.set_cons_zero, List.set_cons_succ]
                          refine wpAnyH_take (i := 22) (oi := zop26) (v := undef) rfl (by kernel_rfl) (by kernel_rfl) (by kernel_rfl) (fun _ _ _ h => h) (Or.inr ⟨by rfl, rfl⟩) (by assumption) ?_
                          try simp only [zop26, Act.put, List.setIfInBounds_toArray, List.set_cons_zero, List.set_cons_succ]
                          refine wpAnyH_take (i := 23) (oi := zop27) (v := undef) rfl (by kernel_rfl) (by kernel_rfl) (by kernel_rfl) (fun _ _ _ h => h) (Or.inr ⟨by rfl, rfl⟩) (by assumption) ?_
                          try simp only [zop27, Act.put, List.setIfInBounds_toArray, List.set_cons_zero, List.set_cons_succ]
                          refine wpAnyH_take (i := 24) (oi := zop28) (v := undef) rfl (by kernel_rfl) (by kernel_rfl) (by kernel_rfl) (fun _ _ _ h => h) (Or.inr ⟨by rfl, rfl⟩) (by assumption) ?_
                          try simp only [zop28, Act.put, List.setIfInBounds_toArray, List.set_cons_zero, List.set_cons_succ]
                          refine wpAnyH_take (i := 25) (oi := zop29) (v := undef) rfl (by kernel_rfl) (by kernel_rfl) (by kernel_rfl) (fun _ _ _ h => h) (Or.inr ⟨by rfl, rfl⟩) (by assumption) ?_
                          try simp only [zop29, Act.put, List.setIfInBounds_toArray, List.set_cons_zero, List.set_cons_succ]
                          refine wpAnyH_take (i := 26) (oi := zop30) (v := undef) rfl (by kernel_rfl) (by kernel_rfl) (by kernel_rfl) (fun _ _ _ h => h) (Or.inr ⟨by rfl, rfl⟩) (by assumption) ?_
                          try simp only [zop30, Act.put, List.setIfInBounds_toArray, List.set_cons_zero, List.set_cons_succ]
                          refine wpAnyH_take (i := 27) (oi := zop31) (v := undef) rfl (by kernel_rfl) (by kernel_rfl) (by kernel_rfl) (fun _ _ _ h => h) (Or.inr ⟨by rfl, rfl⟩) (by assumption) ?_
                          try simp only [zop31, Act.put, List.setIfInBounds_toArray, List.set_cons_zero, List.set_cons_succ]
                          refine wpAnyH_take (i := 28) (oi := zop32) (v := ?v_su23tt_148) rfl (by kernel_rfl) (by kernel_rfl) (by kernel_rfl) (fun _ _ _ h => h) (Or.inl ⟨by rfl, ?y_su23tt_148⟩) (by assumption) ?_
                          case y_su23tt_148 => unfold zop32; intro w hSw; (try dsimp only at hSw); go_simp; with_reducible rfl
                          try simp only [zop32, Act.put, List.setIfInBounds_toArray, List.set_cons_zero, List.set_cons_succ]
                          refine wpAnyH_take (i := 29) (oi := zop33) (v := ?v_su23tt_149) rfl (by kernel_rfl) (by kernel_rfl) (by kernel_rfl) (fun _ _ _ h => h) (Or.inl ⟨by rfl, ?y_su23tt_149⟩) (by assumption) ?_
                          case y_su23tt_149 => unfold zop33; intro w hSw; (try dsimp only at hSw); go_simp; with_reducible rfl
                          try simp only [zop33, Act.put, List.setIfInBounds_toArray, List.set_cons_zero, List.set_cons_succ]
                          refine wpAnyH_ready (rs := [30]) (by kernel_rfl) (by simp) ?_
                          refine AllReadyH.cons (o := zop34) rfl (fun K hK => ?_) ?_
                          unfold zop34
                          go_simp
                          refine hK.out _ _ ?_ (fun hHeld => ?_)
                          · (try dsimp only); (with_reducible first | exact P2.out | exact P1.out | exact P0.out)
                          clear hK K
                          try simp only [Act.put, List.setIfInBounds_toArray, List.set_cons_zero, List.set_cons_succ]
                          refine wpAnyH_take (i := 31) (oi := zop35) (v := ?v_su23tt_150) rfl (by kernel_rfl) (by kernel_rfl) (by kernel_rfl) (fun _ _ _ h => h) (Or.inl ⟨by rfl, ?y_su23tt_150⟩) (by assumption) ?_
                          case y_su23tt_150 => unfold zop35; intro w hSw; (try dsimp only at hSw); go_simp; with_reducible rfl
                          try simp only [zop35, Act.put, List.setIfInBounds_toArray, List.set_cons_zero, List.set_cons_succ]
                          refine wpAnyH_ready (rs := [32]) (by kernel_rfl) (by simp) ?_
                          refine AllReadyH.cons (o := zop36) rfl (fun K hK => ?_) ?_
                          unfold zop36
                          go_simp
                          refine hK.out _ _ ?_ (fun hHeld => ?_)
                          · (try dsimp only); (with_reducible first | exact P2.out | exact P1.out | exact P0.out)
                          clear hK K
                          try simp only [Act.put, List.setIfInBounds_toArray, List.set_cons_zero, List.set_cons_succ]
                          refine wpAnyH_done (by kernel_rfl) ?_ _
                          rotate_left 1
                          exact AllReadyH.nil
                          exact AllReadyH.nil
                          exact AllReadyH.nil
                          refine AllReadyH.cons (o := zop24) rfl (fun K hK => ?_) ?_
                          unfold zop24
                          go_simp
                          refine hK.out _ _ ?_ (fun hHeld => ?_)
                          · (try dsimp only); (with_reducible first | exact P2.out | exact P1.out | exact P0.out)
                          clear hK K
                          try simp only [Act.put, List.setIfInBounds_toArray, List.set_cons_zero, List.set_cons_succ]
                          refine wpAnyH_ready (rs := [7]) (by kernel_rfl) (by simp) ?_
                          refine AllReadyH.cons (o := zop14) rfl (fun K hK => ?_) ?_
                          unfold zop14
                          go_simp
                          refine hK.out _ _ ?_ (fun hHeld => ?_)
                          · (try dsimp only); (with_reducible first | exact P2.out | exact P1.out | exact P0.out)
                          clear hK K
                          try simp only [Act.put, List.setIfInBounds_toArray, List.set_cons_zero, List.set_cons_succ]
                          refine wpAnyH_take (i := 8) (oi := zop15) (v := ?v_su23tt_151) rfl (by kernel_rfl) (by kernel_rfl) (by kernel_rfl) (fun _ _ _ h => h) (Or.inl ⟨by rfl, ?y_su23tt_151⟩) (by assumption) ?_
                          case y_su23tt_151 => unfold zop15; intro w hSw; (try dsimp only at hSw); go_simp; with_reducible rfl
                          try simp only [zop15, Act.put, List.setIfInBounds_toArray, List.set_cons_zero, List.set_cons_succ]
                          refine wpAnyH_take (i := 9) (oi := zop16) (v := undef) rfl (by kernel_rfl) (by kernel_rfl) (by kernel_rfl) (fun _ _ _ h => h) (Or.inr ⟨by rfl, rfl⟩) (by assumption) ?_
                          try simp only [zop16, Act.put, List.setIfInBounds_toArray, List.set_cons_zero, List.set_cons_succ]
                          refine wpAnyH_take (i := 10) (oi := zop17) (v := undef) rfl (by kernel_rfl) (by kernel_rfl) (by kernel_rfl) (fun _ _ _ h => h) (Or.inr ⟨by rfl, rfl⟩) (by assumption) ?_
                          try simp only [zop17, Act.put, List.setIfInBounds_toArray, List.set_cons_zero, List.set_cons_succ]
                          refine wpAnyH_take (i := 11) (oi := zop18) (v := undef) rfl (by kernel_rfl) (by kernel_rfl) (by kernel_rfl) (fun _ _ _ h => h) (Or.inr ⟨by rfl, rfl⟩) (by assumption) ?_
                          try simp only [zop18, Act.put, List.setIfInBounds_toArray, List.set_cons_zero, List.set_cons_succ]
                          refine wpAnyH_take (i := 12) (oi := zop19) (v := undef) rfl (by kernel_rfl) (by kernel_rfl) (by kernel_rfl) (fun _ _ _ h => h) (Or.inr ⟨by rfl, rfl⟩) (by assumption) ?_
                          try simp only [zop19, Act.put, List.setIfInBounds_toArray, List.set_cons_zero, List.set_cons_succ]
                          refine wpAnyH_take (i := 13) (oi := zop20) (v := undef) rfl (by kernel_rfl) (by kernel_rfl) (by kernel_rfl) (fun _ _ _ h => h) (Or.inr ⟨by rfl, rfl⟩) (by assumption) ?_
                          try simp only [zop20, Act.put, List.setIfInBounds_toArray, List.set_cons_zero, List.set_cons_succ]
                          refine wpAnyH_take (i := 14) (oi := zop21) (v := undef) rfl (by kernel_rfl) (by kernel_rfl) (by kernel_rfl) (fun _ _ _ h => h) (Or.inr ⟨by rfl, rfl⟩) (by assumption) ?_
                          try simp only [zop21, Act.put, List.setIfInBounds_toArray, List.set_cons_zero, List.set_cons_succ]
                          refine wpAnyH_take (i := 15) (oi := zop22) (v := undef) rfl (by kernel_rfl) (by kernel_rfl) (by kernel_rfl) (fun _ _ _ h => h) (Or.inr ⟨by rfl, rfl⟩) (by assumption) ?_
                          try simp only [zop22, Act.put, List.setIfInBounds_toArray, List.set_cons_zero, List.set_cons_succ]
                          refine wpAnyH_take (i := 16) (oi := zop23) (v := ?v_su23tt_152) rfl (by kernel_rfl) (by kernel_rfl) (by kernel_rfl) (fun _ _ _ h => h) (Or.inl ⟨by rfl, ?y_su23tt_152⟩) (by assumption) ?_
                          case y_su23tt_152 => unfold zop23; intro w hSw; (try dsimp only at hSw); go_simp; with_reducible rfl
                          try simp only [zop23, Act.put, List.setIfInBounds_toArray, List.set_cons_zero, List.set_cons_succ]
                          refine wpAnyH_take (i := 21) (oi := zop25) (v := ?v_su23tt_153) rfl (by kernel_rfl) (by kernel_rfl) (by kernel_rfl) (fun _ _ _ h => h) (Or.inl ⟨by rfl, ?y_su23tt_153⟩) (by assumption) ?_
                          case y_su23tt_153 => unfold zop25; intro w hSw; (try dsimp only at hSw); go_simp; with_reducible rfl
                          try simp only [zop25, Act.put, List.setIfInBounds_toArray, List.set_cons_zero, List.set_cons_succ]
                          refine wpAnyH_take (i := 22) (oi := zop26) (v := undef) rfl (by kernel_rfl) (by kernel_rfl) (by kernel_rfl) (fun _ _ _ h => h) (Or.inr ⟨by rfl, rfl⟩) (by assumption) ?_
                          try simp only [zop26, Act.put, List.setIfInBounds_toArray, List.set_cons_zero, List.set_cons_succ]
                          refine wpAnyH_take (i := 23) (oi := zop27) (v := undef) rfl (by kernel_rfl) (by kernel_rfl) (by kernel_rfl) (fun _ _ _ h => h) (Or.inr ⟨by rfl, rfl⟩) (by assumption) ?_
                          try simp only [zop27, Act.put, List.setIfInBounds_toArray, List.set_cons_zero, List.set_cons_succ]
                          refine wpAnyH_take (i := 24) (oi := zop28) (v := undef) rfl (by kernel_rfl) (by kernel_rfl) (by kernel_rfl) (fun _ _ _ h => h) (Or.inr ⟨by rfl, rfl⟩) (by assumption) ?_
                          try simp only [zop28, Act.put, List.setIfInBounds_toArray, List.set_cons_zero, List.set_cons_succ]
                          refine wpAnyH_take (i := 25) (oi := zop29) (v := undef) rfl (by kernel_rfl) (by kernel_rfl) (by kernel_rfl) (fun _ _ _ h => h) (Or.inr ⟨by rfl, rfl⟩) (by assumption) ?_
                          try simp only [zop29, Act.put, List.setIfInBounds_toArray, List.set_cons_zero, List.set_cons_succ]
                          refine wpAnyH_take (i := 26) (oi := zop30) (v := undef) rfl (by kernel_rfl) (by kernel_rfl) (by kernel_rfl) (fun _ _ _ h => h) (Or.inr ⟨by rfl, rfl⟩) (by assumption) ?_
                          try simp only [zop30, Act.put, List.setIfInBounds_toArray, List.set_cons_zero, List.set_cons_succ]
                          refine wpAnyH_take (i := 27) (oi := zop31) (v := undef) rfl (by kernel_rfl) (by kernel_rfl) (by kernel_rfl) (fun _ _ _ h => h) (Or.inr ⟨by rfl, rfl⟩) (by assumption) ?_
                          try simp only [zop31, Act.put, List.setIfInBounds_toArray, List.set_cons_zero, List.set_cons_succ]
                          refine wpAnyH_take (i := 28) (oi := zop32) (v := ?v_su23tt_154) rfl (by kernel_rfl) (by kernel_rfl) (by kernel_rfl) (fun _ _ _ h => h) (Or.inl ⟨by rfl, ?y_su23tt_154⟩) (by assumption) ?_
                          case y_su23tt_154 => unfold zop32; intro w hSw; (try dsimp only at hSw); go_simp; with_reducible rfl
                          try simp only [zop32, Act.put, List.setIfInBounds_toArray, List.set_cons_zero, List.set_cons_succ]
                          refine wpAnyH_take (i := 29) (oi := zop33) (v := ?v_su23tt_155) rfl (by kernel_rfl) (by kernel_rfl) (by kernel_rfl) (fun _ _ _ h => h) (Or.inl ⟨by rfl, ?y_su23tt_155⟩) (by assumption) ?_
                          case y_su23tt_155 => unfold zop33; intro w hSw; (try dsimp only at hSw); go_simp; with_reducible rfl
                          try simp only [zop33, Act.put, List.setIfInBounds_toArray, List.set_cons_zero, List.set_cons_succ]
                          refine wpAnyH_ready (rs := [30]) (by kernel_rfl) (by simp) ?_
                          refine AllReadyH.cons (o := zop34) rfl (fun K hK => ?_) ?_
                          unfold zop34
                          go_simp
                          refine hK.out _ _ ?_ (fun hHeld => ?_)
                          · (try dsimp only); (with_reducible first | exact P2.out | exact P1.out | exact P0.out)
                          clear hK K
                          try simp only [Act.put, List.setIfInBounds_toArray, List.set_cons_zero, List.set_cons_succ]
                          refine wpAnyH_take (i := 31) (oi := zop35) (v := ?v_su23tt_156) rfl (by kernel_rfl) (by kernel_rfl) (by kernel_rfl) (fun _ _ _ h => h) (Or.inl ⟨by rfl, ?y_su23tt_156⟩) (by assumption) ?_
                          case y_su23tt_156 => unfold zop35; intro w hSw; (try dsimp only at hSw); go_simp; with_reducible rfl
                          try simp only [zop35, Act.put, List.setIfInBounds_toArray, List.set_cons_zero, List.set_cons_succ]
                          refine wpAnyH_ready (rs := [32]) (by kernel_rfl) (by simp) ?_
                          refine AllReadyH.cons (o := zop36) rfl (fun K hK => ?_) ?_
                          unfold zop36
                          go_simp
                          refine hK.out _ _ ?_ (fun hHeld => ?_)
                          · (try dsimp only); (with_reducible first | exact P2.out | exact P1.out | exact P0.out)
                          clear hK K
                          try simp only [Act.put, List.setIfInBounds_toArray, List.set_cons_zero, List.set_cons_succ]
                          refine wpAnyH_done (by kernel_rfl) ?_ _
                          rotate_left 1
                          exact AllReadyH.nil
                          exact AllReadyH.nil
                          exact AllReadyH.nil
                          exact AllReadyH.nil
                          all_goals
                            clear kF kS kS1 zF zS1 P0 P1 P2 HH
                            go_wp2_with fail
                            go_roundg (xs.length - (k + 1))
                            case measure => omega
                            case rel => exact ⟨k + 1, by omega, rfl, by simp, T2, A2, B2⟩
                    · have hz1 : ¬ (k : Int) < (xs.length : Int) := by omega
                      obtain rfl : k = xs.length := by omega
                      have SE := Lib.hid (hS.out.congr (f' := fa (B + 1)) (s' := sta (B + 1)) (fun j hj => mixB_n _ _ hj) (fun j hj => mixB_n _ _ hj))
                      clear hS hA hlk HS9 HFK HTK
                      go_wp2_with fail
                      go_roundg (NN - (B + 1))
                      case measure => omega
                      case rel => exact ⟨B + 1, by omega, rfl, by rw [HLO.out], by rw [HHI.out], by simp, SE, hBB⟩
          · have hzB : ¬ (B : Int) < (NN : Int) := by omega
            obtain rfl : B = NN := by omega
            have hlo := LO6.out
            have hhi := HI6.out
            obtain ⟨wE, hwE⟩ : ∃ W, W = wr := ⟨_, rfl⟩
            subst hwE
            have SUE := Lib.hid (SU4.out.lo hBB.out); have MAE := Lib.hid (MA4.out.lo hBB.out)
            have HHM := Lib.hid (fun x W (hb : Below wE.heap.size wE W) => has_any MA x aM cM W (MAE.out.lo hb) (by have := HMl.out; omega))
            have HHU := Lib.hid (fun x W (hb : Below wE.heap.size wE W) => has_any SU x aS cS W (SUE.out.lo hb) (by have := HSl.out; omega))
            have BE := Lib.hid (Below.refl wE.heap.size wE)
            clear FS1 SS1 LS1 HS1 CAN HLV HLL HFL HLB LO6 HI6 hBB SU4 MA4 SUE MAE hlt
            go_wp2_with fail
            go_loopg [20] xs.length (fun g s20 wx => ∃ k : Nat, k ≤ xs.length ∧ g = xs.length - k ∧ s20 = .int .i64 (k : Int) ∧ Hid (SS r w gN LO HI gF gS xs.length wx (fa B) (sta B)) ∧ Hid (Below wE.heap.size wE wx))
            case atStart => exact ⟨0, by omega, by omega, rfl, hS, BE⟩
            case round =>
              obtain ⟨k, hk, rfl, rfl, hS, hBE⟩ := hrel
              clear BE
              by_cases hlk : k < xs.length
              · have hz0 : (0 : Int) ≤ (k : Int) := by omega
                have hz1 : (k : Int) < (xs.length : Int) := by omega
                obtain ⟨x, hx⟩ : ∃ x, xs[k]? = some x := ⟨xs[k]'hlk, List.getElem?_eq_getElem _⟩
                obtain ⟨g, o, rfl, k1⟩ := HX.out _ _ hx
                have T0 := Lib.hid (hS.out.go (Below.drew (Below.refl _ _)))
                have BE1 := Lib.hid (Below.drew hBE.out)
                have HM1 := Lib.hid (HHM.out x wr.drew BE1.out)
                have HU1 := Lib.hid (HHU.out x wr.drew BE1.out)
                have kF : wr.drew.cell? ⟨gF, k, none⟩ = some (.bool (hasI MA x)) := by rw [← FA6.out k x hx]; exact T0.out.bF.cell k (arrB_at hlk)
                have kS : wr.drew.cell? ⟨gS, k, none⟩ = some (.bool (!hasI SU x)) := by rw [← ST6.out k x hx]; exact T0.out.bS.cell k (arrB_at hlk)
                have kP : wr.drew.cell? ⟨g, o + k, none⟩ = some (.int .i64 x) := cell_lo T0.out.st.bl k1
                generalize hasI MA x = hm at *
                generalize hasI SU x = hs at *
                have K3 := Lib.hid (And.intro kF (And.intro kS kP))
                clear hx k1 kF kS kP
                cases hm
                all_goals
                  cases hs
                all_goals
                  have K4 := Lib.hid (K3.out)
                  simp only [Bool.not_true, Bool.not_false] at K4
                  clear K3
                  go_wp2_with fail
                · refine wp_region_held_drew (S := (fun W => W.cell? ⟨gF, k, none⟩ = some (.bool false) ∧ W.cell? ⟨gS, k, none⟩ = some (.bool true) ∧ W.cell? ⟨g, o + k, none⟩ = some (.int .i64 x))) (by kernel_rfl) ?_ (fun hHeld => ?_)
                  · (try dsimp only); (with_reducible exact K4.out)
                  refine wpAnyH_take (i := 0) (oi := zop37) (v := ?v_su27ff_8) rfl (by kernel_rfl) (by kernel_rfl) (by kernel_rfl) (fun _ _ _ h => h) (Or.inl ⟨by rfl, ?y_su27ff_8⟩) (by assumption) ?_
                  case y_su27ff_8 => unfold zop37; intro w hSw; (try dsimp only at hSw); go_simp; with_reducible rfl
                  try simp only [zop37, Act.put, List.setIfInBounds_toArray, List.set_cons_zero, List.set_cons_succ]
                  refine wpAnyH_take (i := 1) (oi := zop38) (v := ?v_su27ff_9) rfl (by kernel_rfl) (by kernel_rfl) (by kernel_rfl) (fun _ _ _ h => h) (Or.inl ⟨by rfl, ?y_su27ff_9⟩) (by assumption) ?_
                  case y_su27ff_9 => unfold zop38; intro w hSw; (try dsimp only at hSw); go_simp; with_reducible rfl
                  try simp only [zop38, Act.put, List.setIfInBounds_toArray, List.set_cons_zero, List.set_cons_succ]
                  refine wpAnyH_take (i := 2) (oi := zop39) (v := ?v_su27ff_10) rfl (by kernel_rfl) (by kernel_rfl) (by kernel_rfl) (fun _ _ _ h => h) (Or.inl ⟨by rfl, ?y_su27ff_10⟩) (by assumption) ?_
                  case y_su27ff_10 => unfold zop39; intro w hSw; (try dsimp only at hSw); go_simp; with_reducible rfl
                  try simp only [zop39, Act.put, List.setIfInBounds_toArray, List.set_cons_zero, List.set_cons_succ]
                  refine wpAnyH_take (i := 3) (oi := zop40) (v := ?v_su27ff_11) rfl (by kernel_rfl) (by kernel_rfl) (by kernel_rfl) (fun _ _ _ h => h) (Or.inl ⟨by rfl, ?y_su27ff_11⟩) (by assumption) ?_
                  case y_su27ff_11 => unfold zop40; intro w hSw; (try dsimp only at hSw); go_simp; with_reducible rfl
                  try simp only [zop40, Act.put, List.setIfInBounds_toArray, List.set_cons_zero, List.set_cons_succ]
                  refine wpAnyH_take (i := 4) (oi := zop41) (v := ?v_su27ff_12) rfl (by kernel_rfl) (by kernel_rfl) (by kernel_rfl) (fun _ _ _ h => h) (Or.inl ⟨by rfl, ?y_su27ff_12⟩) (by assumption) ?_
                  case y_su27ff_12 => unfold zop41; intro w hSw; (try dsimp only at hSw); go_simp; with_reducible rfl
                  try simp only [zop41, Act.put, List.setIfInBounds_toArray, List.set_cons_zero, List.set_cons_succ]
                  refine wpAnyH_take (i := 5) (oi := zop42) (v := ?v_su27ff_13) rfl (by kernel_rfl) (by kernel_rfl) (by kernel_rfl) (fun _ _ _ h => h) (Or.inl ⟨by rfl, ?y_su27ff_13⟩) (by assumption) ?_
                  case y_su27ff_13 => unfold zop42; intro w hSw; (try dsimp only at hSw); go_simp; with_reducible rfl
                  try simp only [zop42, Act.put, List.setIfInBounds_toArray, List.set_cons_zero, List.set_cons_succ]
                  refine wpAnyH_take (i := 6) (oi := zop43) (v := ?v_su27ff_14) rfl (by kernel_rfl) (by kernel_rfl) (by kernel_rfl) (fun _ _ _ h => h) (Or.inl ⟨by rfl, ?y_su27ff_14⟩) (by assumption) ?_
                  case y_su27ff_14 => unfold zop43; intro w hSw; (try dsimp only at hSw); go_simp; with_reducible rfl
                  try simp only [zop43, Act.put, List.setIfInBounds_toArray, List.set_cons_zero, List.set_cons_succ]
                  refine wpAnyH_take (i := 7) (oi := zop44) (v := ?v_su27ff_15) rfl (by kernel_rfl) (by kernel_rfl) (by kernel_rfl) (fun _ _ _ h => h) (Or.inl ⟨by rfl, ?y_su27ff_15⟩) (by assumption) ?_
                  case y_su27ff_15 => unfold zop44; intro w hSw; (try dsimp only at hSw); go_simp; with_reducible rfl
                  try simp only [zop44, Act.put, List.setIfInBounds_toArray, List.set_cons_zero, List.set_cons_succ]
                  refine wpAnyH_take (i := 8) (oi := zop45) (v := ?v_su27ff_16) rfl (by kernel_rfl) (by kernel_rfl) (by kernel_rfl) (fun _ _ _ h => h) (Or.inl ⟨by rfl, ?y_su27ff_16⟩) (by assumption) ?_
                  case y_su27ff_16 => unfold zop45; intro w hSw; (try dsimp only at hSw); go_simp; with_reducible rfl
                  try simp only [zop45, Act.put, List.setIfInBounds_toArray, List.set_cons_zero, List.set_cons_succ]
                  refine wpAnyH_ready (rs := [9]) (by kernel_rfl) (by simp) ?_
                  refine AllReadyH.cons (o := zop46) rfl (fun K hK => ?_) ?_
                  unfold zop46
                  go_simp
                  (first | (go_at_call 39; (with_reducible first | refine HM1.out.mono ?_ | refine HU1.out.mono ?_); rintro e wI ⟨rfl, rfl⟩))
                  go_wp2_with fail
                  refine hK.out _ _ ?_ (fun hHeld => ?_)
                  · (try dsimp only); (with_reducible exact K4.out)
                  clear hK K
                  try simp only [Act.put, List.setIfInBounds_toArray, List.set_cons_zero, List.set_cons_succ]
                  refine wpAnyH_take (i := 10) (oi := zop47) (v := ?v_su27ff_17) rfl (by kernel_rfl) (by kernel_rfl) (by kernel_rfl) (fun _ _ _ h => h) (Or.inl ⟨by rfl, ?y_su27ff_17⟩) (by assumption) ?_
                  case y_su27ff_17 => unfold zop47; intro w hSw; (try dsimp only at hSw); go_simp; with_reducible rfl
                  try simp only [zop47, Act.put, List.setIfInBounds_toArray, List.set_cons_zero, List.set_cons_succ]
                  refine wpAnyH_take (i := 11) (oi := zop48) (v := ?v_su27ff_18) rfl (by kernel_rfl) (by kernel_rfl) (by kernel_rfl) (fun _ _ _ h => h) (Or.inl ⟨by rfl, ?y_su27ff_18⟩) (by assumption) ?_
                  case y_su27ff_18 => unfold zop48; intro w hSw; (try dsimp only at hSw); go_simp; with_reducible rfl
                  try simp only [zop48, Act.put, List.setIfInBounds_toArray, List.set_cons_zero, List.set_cons_succ]
                  refine wpAnyH_take (i := 12) (oi := zop49) (v := ?v_su27ff_19) rfl (by kernel_rfl) (by kernel_rfl) (by kernel_rfl) (fun _ _ _ h => h) (Or.inl ⟨by rfl, ?y_su27ff_19⟩) (by assumption) ?_
                  case y_su27ff_19 => unfold zop49; intro w hSw; (try dsimp only at hSw); go_simp; with_reducible rfl
                  try simp only [zop49, Act.put, List.setIfInBounds_toArray, List.set_cons_zero, List.set_cons_succ]
                  refine wpAnyH_take (i := 13) (oi := zop50) (v := ?v_su27ff_20) rfl (by kernel_rfl) (by kernel_rfl) (by kernel_rfl) (fun _ _ _ h => h) (Or.inl ⟨by rfl, ?y_su27ff_20⟩) (by assumption) ?_
                  case y_su27ff_20 => unfold zop50; intro w hSw; (try dsimp only at hSw); go_simp; with_reducible rfl
                  try simp only [zop50, Act.put, List.setIfInBounds_toArray, List.set_cons_zero, List.set_cons_succ]
                  refine wpAnyH_take (i := 14) (oi := zop51) (v := ?v_su27ff_21) rfl (by kernel_rfl) (by kernel_rfl) (by kernel_rfl) (fun _ _ _ h => h) (Or.inl ⟨by rfl, ?y_su27ff_21⟩) (by assumption) ?_
                  case y_su27ff_21 => unfold zop51; intro w hSw; (try dsimp only at hSw); go_simp; with_reducible rfl
                  try simp only [zop51, Act.put, List.setIfInBounds_toArray, List.set_cons_zero, List.set_cons_succ]
                  refine wpAnyH_take (i := 15) (oi := zop52) (v := ?v_su27ff_22) rfl (by kernel_rfl) (by kernel_rfl) (by kernel_rfl) (fun _ _ _ h => h) (Or.inl ⟨by rfl, ?y_su27ff_22⟩) (by assumption) ?_
                  case y_su27ff_22 => unfold zop52; intro w hSw; (try dsimp only at hSw); go_simp; with_reducible rfl
                  try simp only [zop52, Act.put, List.setIfInBounds_toArray, List.set_cons_zero, List.set_cons_succ]
                  refine wpAnyH_take (i := 16) (oi := zop53) (v := ?v_su27ff_23) rfl (by kernel_rfl) (by kernel_rfl) (by kernel_rfl) (fun _ _ _ h => h) (Or.inl ⟨by rfl, ?y_su27ff_23⟩) (by assumption) ?_
                  case y_su27ff_23 => unfold zop53; intro w hSw; (try dsimp only at hSw); go_simp; with_reducible rfl
                  try simp only [zop53, Act.put, List.setIfInBounds_toArray, List.set_cons_zero, List.set_cons_succ]
                  refine wpAnyH_take (i := 17) (oi := zop54) (v := ?v_su27ff_24) rfl (by kernel_rfl) (by kernel_rfl) (by kernel_rfl) (fun _ _ _ h => h) (Or.inl ⟨by rfl, ?y_su27ff_24⟩) (by assumption) ?_
                  case y_su27ff_24 => unfold zop54; intro w hSw; (try dsimp only at hSw); go_simp; with_reducible rfl
                  try simp only [zop54, Act.put, List.setIfInBounds_toArray, List.set_cons_zero, List.set_cons_succ]
                  refine wpAnyH_take (i := 18) (oi := zop55) (v := ?v_su27ff_25) rfl (by kernel_rfl) (by kernel_rfl) (by kernel_rfl) (fun _ _ _ h => h) (Or.inl ⟨by rfl, ?y_su27ff_25⟩) (by assumption) ?_
                  case y_su27ff_25 => unfold zop55; intro w hSw; (try dsimp only at hSw); go_simp; with_reducible rfl
                  try simp only [zop55, Act.put, List.setIfInBounds_toArray, List.set_cons_zero, List.set_cons_succ]
                  refine wpAnyH_take (i := 19) (oi := zop56) (v := ?v_su27ff_26) rfl (by kernel_rfl) (by kernel_rfl) (by kernel_rfl) (fun _ _ _ h => h) (Or.inl ⟨by rfl, ?y_su27ff_26⟩) (by assumption) ?_
                  case y_su27ff_26 => unfold zop56; intro w hSw; (try dsimp only at hSw); go_simp; with_reducible rfl
                  try simp only [zop56, Act.put, List.setIfInBounds_toArray, List.set_cons_zero, List.set_cons_succ]
                  refine wpAnyH_take (i := 20) (oi := zop57) (v := ?v_su27ff_27) rfl (by kernel_rfl) (by kernel_rfl) (by kernel_rfl) (fun _ _ _ h => h) (Or.inl ⟨by rfl, ?y_su27ff_27⟩) (by assumption) ?_
                  case y_su27ff_27 => unfold zop57; intro w hSw; (try dsimp only at hSw); go_simp; with_reducible rfl
                  try simp only [zop57, Act.put, List.setIfInBounds_toArray, List.set_cons_zero, List.set_cons_succ]
                  refine wpAnyH_ready (rs := [21]) (by kernel_rfl) (by simp) ?_
                  refine AllReadyH.cons (o := zop58) rfl (fun K hK => ?_) ?_
                  unfold zop58
                  go_simp
                  (first | (go_at_call 39; (with_reducible first | refine HM1.out.mono ?_ | refine HU1.out.mono ?_); rintro e wI ⟨rfl, rfl⟩))
                  go_wp2_with fail
                  refine hK.out _ _ ?_ (fun hHeld => ?_)
                  · (try dsimp only); (with_reducible exact K4.out)
                  clear hK K
                  try simp only [Act.put, List.setIfInBounds_toArray, List.set_cons_zero, List.set_cons_succ]
                  refine wpAnyH_take (i := 22) (oi := zop59) (v := ?v_su27ff_28) rfl (by kernel_rfl) (by kernel_rfl) (by kernel_rfl) (fun _ _ _ h => h) (Or.inl ⟨by rfl, ?y_su27ff_28⟩) (by assumption) ?_
                  case y_su27ff_28 => unfold zop59; intro w hSw; (try dsimp only at hSw); go_simp; with_reducible rfl
                  try simp only [zop59, Act.put, List.setIfInBounds_toArray, List.set_cons_zero, List.set_cons_succ]
                  refine wpAnyH_take (i := 23) (oi := zop60) (v := ?v_su27ff_29) rfl (by kernel_rfl) (by kernel_rfl) (by kernel_rfl) (fun _ _ _ h => h) (Or.inl ⟨by rfl, ?y_su27ff_29⟩) (by assumption) ?_
                  case y_su27ff_29 => unfold zop60; intro w hSw; (try dsimp only at hSw); go_simp; with_reducible rfl
                  try simp only [zop60, Act.put, List.setIfInBounds_toArray, List.set_cons_zero, List.set_cons_succ]
                  refine wpAnyH_done (by kernel_rfl) ?_ _
                  rotate_left 1
                  exact AllReadyH.nil
                  exact AllReadyH.nil
                  all_goals
                    go_wp2_with fail
                    go_roundg (xs.length - (k + 1))
                    case measure => omega
                    case rel => exact ⟨k + 1, by omega, rfl, by simp, T0, BE1⟩
                · refine wp_region_held_drew (S := (fun W => W.cell? ⟨gF, k, none⟩ = some (.bool false) ∧ W.cell? ⟨gS, k, none⟩ = some (.bool false) ∧ W.cell? ⟨g, o + k, none⟩ = some (.int .i64 x))) (by kernel_rfl) ?_ (fun hHeld => ?_)
                  · (try dsimp only); (with_reducible exact K4.out)
                  refine wpAnyH_take (i := 0) (oi := zop37) (v := ?v_su27ft_30) rfl (by kernel_rfl) (by kernel_rfl) (by kernel_rfl) (fun _ _ _ h => h) (Or.inl ⟨by rfl, ?y_su27ft_30⟩) (by assumption) ?_
                  case y_su27ft_30 => unfold zop37; intro w hSw; (try dsimp only at hSw); go_simp; with_reducible rfl
                  try simp only [zop37, Act.put, List.setIfInBounds_toArray, List.set_cons_zero, List.set_cons_succ]
                  refine wpAnyH_take (i := 1) (oi := zop38) (v := ?v_su27ft_31) rfl (by kernel_rfl) (by kernel_rfl) (by kernel_rfl) (fun _ _ _ h => h) (Or.inl ⟨by rfl, ?y_su27ft_31⟩) (by assumption) ?_
                  case y_su27ft_31 => unfold zop38; intro w hSw; (try dsimp only at hSw); go_simp; with_reducible rfl
                  try simp only [zop38, Act.put, List.setIfInBounds_toArray, List.set_cons_zero, List.set_cons_succ]
                  refine wpAnyH_take (i := 2) (oi := zop39) (v := ?v_su27ft_32) rfl (by kernel_rfl) (by kernel_rfl) (by kernel_rfl) (fun _ _ _ h => h) (Or.inl ⟨by rfl, ?y_su27ft_32⟩) (by assumption) ?_
                  case y_su27ft_32 => unfold zop39; intro w hSw; (try dsimp only at hSw); go_simp; with_reducible rfl
                  try simp only [zop39, Act.put, List.setIfInBounds_toArray, List.set_cons_zero, List.set_cons_succ]
                  refine wpAnyH_take (i := 3) (oi := zop40) (v := ?v_su27ft_33) rfl (by kernel_rfl) (by kernel_rfl) (by kernel_rfl) (fun _ _ _ h => h) (Or.inl ⟨by rfl, ?y_su27ft_33⟩) (by assumption) ?_
                  case y_su27ft_33 => unfold zop40; intro w hSw; (try dsimp only at hSw); go_simp; with_reducible rfl
                  try simp only [zop40, Act.put, List.setIfInBounds_toArray, List.set_cons_zero, List.set_cons_succ]
                  refine wpAnyH_take (i := 4) (oi := zop41) (v := ?v_su27ft_34) rfl (by kernel_rfl) (by kernel_rfl) (by kernel_rfl) (fun _ _ _ h => h) (Or.inl ⟨by rfl, ?y_su27ft_34⟩) (by assumption) ?_
                  case y_su27ft_34 => unfold zop41; intro w hSw; (try dsimp only at hSw); go_simp; with_reducible rfl
                  try simp only [zop41, Act.put, List.setIfInBounds_toArray, List.set_cons_zero, List.set_cons_succ]
                  refine wpAnyH_take (i := 5) (oi := zop42) (v := ?v_su27ft_35) rfl (by kernel_rfl) (by kernel_rfl) (by kernel_rfl) (fun _ _ _ h => h) (Or.inl ⟨by rfl, ?y_su27ft_35⟩) (by assumption) ?_
                  case y_su27ft_35 => unfold zop42; intro w hSw; (try dsimp only at hSw); go_simp; with_reducible rfl
                  try simp only [zop42, Act.put, List.setIfInBounds_toArray, List.set_cons_zero, List.set_cons_succ]
                  refine wpAnyH_take (i := 6) (oi := zop43) (v := ?v_su27ft_36) rfl (by kernel_rfl) (by kernel_rfl) (by kernel_rfl) (fun _ _ _ h => h) (Or.inl ⟨by rfl, ?y_su27ft_36⟩) (by assumption) ?_
                  case y_su27ft_36 => unfold zop43; intro w hSw; (try dsimp only at hSw); go_simp; with_reducible rfl
                  try simp only [zop43, Act.put, List.setIfInBounds_toArray, List.set_cons_zero, List.set_cons_succ]
                  refine wpAnyH_take (i := 7) (oi := zop44) (v := ?v_su27ft_37) rfl (by kernel_rfl) (by kernel_rfl) (by kernel_rfl) (fun _ _ _ h => h) (Or.inl ⟨by rfl, ?y_su27ft_37⟩) (by assumption) ?_
                  case y_su27ft_37 => unfold zop44; intro w hSw; (try dsimp only at hSw); go_simp; with_reducible rfl
                  try simp only [zop44, Act.put, List.setIfInBounds_toArray, List.set_cons_zero, List.set_cons_succ]
                  refine wpAnyH_take (i := 8) (oi := zop45) (v := ?v_su27ft_38) rfl (by kernel_rfl) (by kernel_rfl) (by kernel_rfl) (fun _ _ _ h => h) (Or.inl ⟨by rfl, ?y_su27ft_38⟩) (by assumption) ?_
                  case y_su27ft_38 => unfold zop45; intro w hSw; (try dsimp only at hSw); go_simp; with_reducible rfl
                  try simp only [zop45, Act.put, List.setIfInBounds_toArray, List.set_cons_zero, List.set_cons_succ]
                  refine wpAnyH_ready (rs := [9]) (by kernel_rfl) (by simp) ?_
                  refine AllReadyH.cons (o := zop46) rfl (fun K hK => ?_) ?_
                  unfold zop46
                  go_simp
                  (first | (go_at_call 39; (with_reducible first | refine HM1.out.mono ?_ | refine HU1.out.mono ?_); rintro e wI ⟨rfl, rfl⟩))
                  go_wp2_with fail
                  refine hK.out _ _ ?_ (fun hHeld => ?_)
                  · (try dsimp only); (with_reducible exact K4.out)
                  clear hK K
                  try simp only [Act.put, List.setIfInBounds_toArray, List.set_cons_zero, List.set_cons_succ]
                  refine wpAnyH_take (i := 10) (oi := zop47) (v := ?v_su27ft_39) rfl (by kernel_rfl) (by kernel_rfl) (by kernel_rfl) (fun _ _ _ h => h) (Or.inl ⟨by rfl, ?y_su27ft_39⟩) (by assumption) ?_
                  case y_su27ft_39 => unfold zop47; intro w hSw; (try dsimp only at hSw); go_simp; with_reducible rfl
                  try simp only [zop47, Act.put, List.setIfInBounds_toArray, List.set_cons_zero, List.set_cons_succ]
                  refine wpAnyH_take (i := 11) (oi := zop48) (v := ?v_su27ft_40) rfl (by kernel_rfl) (by kernel_rfl) (by kernel_rfl) (fun _ _ _ h => h) (Or.inl ⟨by rfl, ?y_su27ft_40⟩) (by assumption) ?_
                  case y_su27ft_40 => unfold zop48; intro w hSw; (try dsimp only at hSw); go_simp; with_reducible rfl
                  try simp only [zop48, Act.put, List.setIfInBounds_toArray, List.set_cons_zero, List.set_cons_succ]
                  refine wpAnyH_take (i := 12) (oi := zop49) (v := ?v_su27ft_41) rfl (by kernel_rfl) (by kernel_rfl) (by kernel_rfl) (fun _ _ _ h => h) (Or.inl ⟨by rfl, ?y_su27ft_41⟩) (by assumption) ?_
                  case y_su27ft_41 => unfold zop49; intro w hSw; (try dsimp only at hSw); go_simp; with_reducible rfl
                  try simp only [zop49, Act.put, List.setIfInBounds_toArray, List.set_cons_zero, List.set_cons_succ]
                  refine wpAnyH_take (i := 13) (oi := zop50) (v := ?v_su27ft_42) rfl (by kernel_rfl) (by kernel_rfl) (by kernel_rfl) (fun _ _ _ h => h) (Or.inl ⟨by rfl, ?y_su27ft_42⟩) (by assumption) ?_
                  case y_su27ft_42 => unfold zop50; intro w hSw; (try dsimp only at hSw); go_simp; with_reducible rfl
                  try simp only [zop50, Act.put, List.setIfInBounds_toArray, List.set_cons_zero, List.set_cons_succ]
                  refine wpAnyH_take (i := 14) (oi := zop51) (v := ?v_su27ft_43) rfl (by kernel_rfl) (by kernel_rfl) (by kernel_rfl) (fun _ _ _ h => h) (Or.inl ⟨by rfl, ?y_su27ft_43⟩) (by assumption) ?_
                  case y_su27ft_43 => unfold zop51; intro w hSw; (try dsimp only at hSw); go_simp; with_reducible rfl
                  try simp only [zop51, Act.put, List.setIfInBounds_toArray, List.set_cons_zero, List.set_cons_succ]
                  refine wpAnyH_take (i := 15) (oi := zop52) (v := ?v_su27ft_44) rfl (by kernel_rfl) (by kernel_rfl) (by kernel_rfl) (fun _ _ _ h => h) (Or.inl ⟨by rfl, ?y_su27ft_44⟩) (by assumption) ?_
                  case y_su27ft_44 => unfold zop52; intro w hSw; (try dsimp only at hSw); go_simp; with_reducible rfl
                  try simp only [zop52, Act.put, List.setIfInBounds_toArray, List.set_cons_zero, List.set_cons_succ]
                  refine wpAnyH_take (i := 16) (oi := zop53) (v := ?v_su27ft_45) rfl (by kernel_rfl) (by kernel_rfl) (by kernel_rfl) (fun _ _ _ h => h) (Or.inl ⟨by rfl, ?y_su27ft_45⟩) (by assumption) ?_
                  case y_su27ft_45 => unfold zop53; intro w hSw; (try dsimp only at hSw); go_simp; with_reducible rfl
                  try simp only [zop53, Act.put, List.setIfInBounds_toArray, List.set_cons_zero, List.set_cons_succ]
                  refine wpAnyH_take (i := 17) (oi := zop54) (v := ?v_su27ft_46) rfl (by kernel_rfl) (by kernel_rfl) (by kernel_rfl) (fun _ _ _ h => h) (Or.inl ⟨by rfl, ?y_su27ft_46⟩) (by assumption) ?_
                  case y_su27ft_46 => unfold zop54; intro w hSw; (try dsimp only at hSw); go_simp; with_reducible rfl
                  try simp only [zop54, Act.put, List.setIfInBounds_toArray, List.set_cons_zero, List.set_cons_succ]
                  refine wpAnyH_take (i := 18) (oi := zop55) (v := ?v_su27ft_47) rfl (by kernel_rfl) (by kernel_rfl) (by kernel_rfl) (fun _ _ _ h => h) (Or.inl ⟨by rfl, ?y_su27ft_47⟩) (by assumption) ?_
                  case y_su27ft_47 => unfold zop55; intro w hSw; (try dsimp only at hSw); go_simp; with_reducible rfl
                  try simp only [zop55, Act.put, List.setIfInBounds_toArray, List.set_cons_zero, List.set_cons_succ]
                  refine wpAnyH_take (i := 19) (oi := zop56) (v := ?v_su27ft_48) rfl (by kernel_rfl) (by kernel_rfl) (by kernel_rfl) (fun _ _ _ h => h) (Or.inl ⟨by rfl, ?y_su27ft_48⟩) (by assumption) ?_
                  case y_su27ft_48 => unfold zop56; intro w hSw; (try dsimp only at hSw); go_simp; with_reducible rfl
                  try simp only [zop56, Act.put, List.setIfInBounds_toArray, List.set_cons_zero, List.set_cons_succ]
                  refine wpAnyH_take (i := 20) (oi := zop57) (v := ?v_su27ft_49) rfl (by kernel_rfl) (by kernel_rfl) (by kernel_rfl) (fun _ _ _ h => h) (Or.inl ⟨by rfl, ?y_su27ft_49⟩) (by assumption) ?_
                  case y_su27ft_49 => unfold zop57; intro w hSw; (try dsimp only at hSw); go_simp; with_reducible rfl
                  try simp only [zop57, Act.put, List.setIfInBounds_toArray, List.set_cons_zero, List.set_cons_succ]
                  refine wpAnyH_ready (rs := [21]) (by kernel_rfl) (by simp) ?_
                  refine AllReadyH.cons (o := zop58) rfl (fun K hK => ?_) ?_
                  unfold zop58
                  go_simp
                  (first | (go_at_call 39; (with_reducible first | refine HM1.out.mono ?_ | refine HU1.out.mono ?_); rintro e wI ⟨rfl, rfl⟩))
                  go_wp2_with fail
                  refine hK.out _ _ ?_ (fun hHeld => ?_)
                  · (try dsimp only); (with_reducible exact K4.out)
                  clear hK K
                  try simp only [Act.put, List.setIfInBounds_toArray, List.set_cons_zero, List.set_cons_succ]
                  refine wpAnyH_take (i := 22) (oi := zop59) (v := ?v_su27ft_50) rfl (by kernel_rfl) (by kernel_rfl) (by kernel_rfl) (fun _ _ _ h => h) (Or.inl ⟨by rfl, ?y_su27ft_50⟩) (by assumption) ?_
                  case y_su27ft_50 => unfold zop59; intro w hSw; (try dsimp only at hSw); go_simp; with_reducible rfl
                  try simp only [zop59, Act.put, List.setIfInBounds_toArray, List.set_cons_zero, List.set_cons_succ]
                  refine wpAnyH_take (i := 23) (oi := zop60) (v := ?v_su27ft_51) rfl (by kernel_rfl) (by kernel_rfl) (by kernel_rfl) (fun _ _ _ h => h) (Or.inl ⟨by rfl, ?y_su27ft_51⟩) (by assumption) ?_
                  case y_su27ft_51 => unfold zop60; intro w hSw; (try dsimp only at hSw); go_simp; with_reducible rfl
                  try simp only [zop60, Act.put, List.setIfInBounds_toArray, List.set_cons_zero, List.set_cons_succ]
                  refine wpAnyH_done (by kernel_rfl) ?_ _
                  rotate_left 1
                  exact AllReadyH.nil
                  exact AllReadyH.nil
                  all_goals
                    go_wp2_with fail
                    go_roundg (xs.length - (k + 1))
                    case measure => omega
                    case rel => exact ⟨k + 1, by omega, rfl, by simp, T0, BE1⟩
                · refine wp_region_held_drew (S := (fun W => W.cell? ⟨gF, k, none⟩ = some (.bool true) ∧ W.cell? ⟨gS, k, none⟩ = some (.bool true) ∧ W.cell? ⟨g, o + k, none⟩ = some (.int .i64 x))) (by kernel_rfl) ?_ (fun hHeld => ?_)
                  · (try dsimp only); (with_reducible exact K4.out)
                  refine wpAnyH_take (i := 0) (oi := zop37) (v := ?v_su27tf_52) rfl (by kernel_rfl) (by kernel_rfl) (by kernel_rfl) (fun _ _ _ h => h) (Or.inl ⟨by rfl, ?y_su27tf_52⟩) (by assumption) ?_
                  case y_su27tf_52 => unfold zop37; intro w hSw; (try dsimp only at hSw); go_simp; with_reducible rfl
                  try simp only [zop37, Act.put, List.setIfInBounds_toArray, List.set_cons_zero, List.set_cons_succ]
                  refine wpAnyH_take (i := 1) (oi := zop38) (v := ?v_su27tf_53) rfl (by kernel_rfl) (by kernel_rfl) (by kernel_rfl) (fun _ _ _ h => h) (Or.inl ⟨by rfl, ?y_su27tf_53⟩) (by assumption) ?_
                  case y_su27tf_53 => unfold zop38; intro w hSw; (try dsimp only at hSw); go_simp; with_reducible rfl
                  try simp only [zop38, Act.put, List.setIfInBounds_toArray, List.set_cons_zero, List.set_cons_succ]
                  refine wpAnyH_take (i := 2) (oi := zop39) (v := ?v_su27tf_54) rfl (by kernel_rfl) (by kernel_rfl) (by kernel_rfl) (fun _ _ _ h => h) (Or.inl ⟨by rfl, ?y_su27tf_54⟩) (by assumption) ?_
                  case y_su27tf_54 => unfold zop39; intro w hSw; (try dsimp only at hSw); go_simp; with_reducible rfl
                  try simp only [zop39, Act.put, List.setIfInBounds_toArray, List.set_cons_zero, List.set_cons_succ]
                  refine wpAnyH_take (i := 3) (oi := zop40) (v := ?v_su27tf_55) rfl (by kernel_rfl) (by kernel_rfl) (by kernel_rfl) (fun _ _ _ h => h) (Or.inl ⟨by rfl, ?y_su27tf_55⟩) (by assumption) ?_
                  case y_su27tf_55 => unfold zop40; intro w hSw; (try dsimp only at hSw); go_simp; with_reducible rfl
                  try simp only [zop40, Act.put, List.setIfInBounds_toArray, List.set_cons_zero, List.set_cons_succ]
                  refine wpAnyH_take (i := 4) (oi := zop41) (v := ?v_su27tf_56) rfl (by kernel_rfl) (by kernel_rfl) (by kernel_rfl) (fun _ _ _ h => h) (Or.inl ⟨by rfl, ?y_su27tf_56⟩) (by assumption) ?_
                  case y_su27tf_56 => unfold zop41; intro w hSw; (try dsimp only at hSw); go_simp; with_reducible rfl
                  try simp only [zop41, Act.put, List.setIfInBounds_toArray, List.set_cons_zero, List.set_cons_succ]
                  refine wpAnyH_take (i := 5) (oi := zop42) (v := ?v_su27tf_57) rfl (by kernel_rfl) (by kernel_rfl) (by kernel_rfl) (fun _ _ _ h => h) (Or.inl ⟨by rfl, ?y_su27tf_57⟩) (by assumption) ?_
                  case y_su27tf_57 => unfold zop42; intro w hSw; (try dsimp only at hSw); go_simp; with_reducible rfl
                  try simp only [zop42, Act.put, List.setIfInBounds_toArray, List.set_cons_zero, List.set_cons_succ]
                  refine wpAnyH_take (i := 6) (oi := zop43) (v := ?v_su27tf_58) rfl (by kernel_rfl) (by kernel_rfl) (by kernel_rfl) (fun _ _ _ h => h) (Or.inl ⟨by rfl, ?y_su27tf_58⟩) (by assumption) ?_
                  case y_su27tf_58 => unfold zop43; intro w hSw; (try dsimp only at hSw); go_simp; with_reducible rfl
                  try simp only [zop43, Act.put, List.setIfInBounds_toArray, List.set_cons_zero, List.set_cons_succ]
                  refine wpAnyH_take (i := 7) (oi := zop44) (v := ?v_su27tf_59) rfl (by kernel_rfl) (by kernel_rfl) (by kernel_rfl) (fun _ _ _ h => h) (Or.inl ⟨by rfl, ?y_su27tf_59⟩) (by assumption) ?_
                  case y_su27tf_59 => unfold zop44; intro w hSw; (try dsimp only at hSw); go_simp; with_reducible rfl
                  try simp only [zop44, Act.put, List.setIfInBounds_toArray, List.set_cons_zero, List.set_cons_succ]
                  refine wpAnyH_take (i := 8) (oi := zop45) (v := ?v_su27tf_60) rfl (by kernel_rfl) (by kernel_rfl) (by kernel_rfl) (fun _ _ _ h => h) (Or.inl ⟨by rfl, ?y_su27tf_60⟩) (by assumption) ?_
                  case y_su27tf_60 => unfold zop45; intro w hSw; (try dsimp only at hSw); go_simp; with_reducible rfl
                  try simp only [zop45, Act.put, List.setIfInBounds_toArray, List.set_cons_zero, List.set_cons_succ]
                  refine wpAnyH_ready (rs := [9]) (by kernel_rfl) (by simp) ?_
                  refine AllReadyH.cons (o := zop46) rfl (fun K hK => ?_) ?_
                  unfold zop46
                  go_simp
                  (first | (go_at_call 39; (with_reducible first | refine HM1.out.mono ?_ | refine HU1.out.mono ?_); rintro e wI ⟨rfl, rfl⟩))
                  go_wp2_with fail
                  refine hK.out _ _ ?_ (fun hHeld => ?_)
                  · (try dsimp only); (with_reducible exact K4.out)
                  clear hK K
                  try simp only [Act.put, List.setIfInBounds_toArray, List.set_cons_zero, List.set_cons_succ]
                  refine wpAnyH_take (i := 10) (oi := zop47) (v := ?v_su27tf_61) rfl (by kernel_rfl) (by kernel_rfl) (by kernel_rfl) (fun _ _ _ h => h) (Or.inl ⟨by rfl, ?y_su27tf_61⟩) (by assumption) ?_
                  case y_su27tf_61 => unfold zop47; intro w hSw; (try dsimp only at hSw); go_simp; with_reducible rfl
                  try simp only [zop47, Act.put, List.setIfInBounds_toArray, List.set_cons_zero, List.set_cons_succ]
                  refine wpAnyH_take (i := 11) (oi := zop48) (v := ?v_su27tf_62) rfl (by kernel_rfl) (by kernel_rfl) (by kernel_rfl) (fun _ _ _ h => h) (Or.inl ⟨by rfl, ?y_su27tf_62⟩) (by assumption) ?_
                  case y_su27tf_62 => unfold zop48; intro w hSw; (try dsimp only at hSw); go_simp; with_reducible rfl
                  try simp only [zop48, Act.put, List.setIfInBounds_toArray, List.set_cons_zero, List.set_cons_succ]
                  refine wpAnyH_take (i := 12) (oi := zop49) (v := ?v_su27tf_63) rfl (by kernel_rfl) (by kernel_rfl) (by kernel_rfl) (fun _ _ _ h => h) (Or.inl ⟨by rfl, ?y_su27tf_63⟩) (by assumption) ?_
                  case y_su27tf_63 => unfold zop49; intro w hSw; (try dsimp only at hSw); go_simp; with_reducible rfl
                  try simp only [zop49, Act.put, List.setIfInBounds_toArray, List.set_cons_zero, List.set_cons_succ]
                  refine wpAnyH_take (i := 13) (oi := zop50) (v := ?v_su27tf_64) rfl (by kernel_rfl) (by kernel_rfl) (by kernel_rfl) (fun _ _ _ h => h) (Or.inl ⟨by rfl, ?y_su27tf_64⟩) (by assumption) ?_
                  case y_su27tf_64 => unfold zop50; intro w hSw; (try dsimp only at hSw); go_simp; with_reducible rfl
                  try simp only [zop50, Act.put, List.setIfInBounds_toArray, List.set_cons_zero, List.set_cons_succ]
                  refine wpAnyH_take (i := 14) (oi := zop51) (v := ?v_su27tf_65) rfl (by kernel_rfl) (by kernel_rfl) (by kernel_rfl) (fun _ _ _ h => h) (Or.inl ⟨by rfl, ?y_su27tf_65⟩) (by assumption) ?_
                  case y_su27tf_65 => unfold zop51; intro w hSw; (try dsimp only at hSw); go_simp; with_reducible rfl
                  try simp only [zop51, Act.put, List.setIfInBounds_toArray, List.set_cons_zero, List.set_cons_succ]
                  refine wpAnyH_take (i := 15) (oi := zop52) (v := ?v_su27tf_66) rfl (by kernel_rfl) (by kernel_rfl) (by kernel_rfl) (fun _ _ _ h => h) (Or.inl ⟨by rfl, ?y_su27tf_66⟩) (by assumption) ?_
                  case y_su27tf_66 => unfold zop52; intro w hSw; (try dsimp only at hSw); go_simp; with_reducible rfl
                  try simp only [zop52, Act.put, List.setIfInBounds_toArray, List.set_cons_zero, List.set_cons_succ]
                  refine wpAnyH_take (i := 16) (oi := zop53) (v := ?v_su27tf_67) rfl (by kernel_rfl) (by kernel_rfl) (by kernel_rfl) (fun _ _ _ h => h) (Or.inl ⟨by rfl, ?y_su27tf_67⟩) (by assumption) ?_
                  case y_su27tf_67 => unfold zop53; intro w hSw; (try dsimp only at hSw); go_simp; with_reducible rfl
                  try simp only [zop53, Act.put, List.setIfInBounds_toArray, List.set_cons_zero, List.set_cons_succ]
                  refine wpAnyH_take (i := 17) (oi := zop54) (v := ?v_su27tf_68) rfl (by kernel_rfl) (by kernel_rfl) (by kernel_rfl) (fun _ _ _ h => h) (Or.inl ⟨by rfl, ?y_su27tf_68⟩) (by assumption) ?_
                  case y_su27tf_68 => unfold zop54; intro w hSw; (try dsimp only at hSw); go_simp; with_reducible rfl
                  try simp only [zop54, Act.put, List.setIfInBounds_toArray, List.set_cons_zero, List.set_cons_succ]
                  refine wpAnyH_take (i := 18) (oi := zop55) (v := ?v_su27tf_69) rfl (by kernel_rfl) (by kernel_rfl) (by kernel_rfl) (fun _ _ _ h => h) (Or.inl ⟨by rfl, ?y_su27tf_69⟩) (by assumption) ?_
                  case y_su27tf_69 => unfold zop55; intro w hSw; (try dsimp only at hSw); go_simp; with_reducible rfl
                  try simp only [zop55, Act.put, List.setIfInBounds_toArray, List.set_cons_zero, List.set_cons_succ]
                  refine wpAnyH_take (i := 19) (oi := zop56) (v := ?v_su27tf_70) rfl (by kernel_rfl) (by kernel_rfl) (by kernel_rfl) (fun _ _ _ h => h) (Or.inl ⟨by rfl, ?y_su27tf_70⟩) (by assumption) ?_
                  case y_su27tf_70 => unfold zop56; intro w hSw; (try dsimp only at hSw); go_simp; with_reducible rfl
                  try simp only [zop56, Act.put, List.setIfInBounds_toArray, List.set_cons_zero, List.set_cons_succ]
                  refine wpAnyH_take (i := 20) (oi := zop57) (v := ?v_su27tf_71) rfl (by kernel_rfl) (by kernel_rfl) (by kernel_rfl) (fun _ _ _ h => h) (Or.inl ⟨by rfl, ?y_su27tf_71⟩) (by assumption) ?_
                  case y_su27tf_71 => unfold zop57; intro w hSw; (try dsimp only at hSw); go_simp; with_reducible rfl
                  try simp only [zop57, Act.put, List.setIfInBounds_toArray, List.set_cons_zero, List.set_cons_succ]
                  refine wpAnyH_ready (rs := [21]) (by kernel_rfl) (by simp) ?_
                  refine AllReadyH.cons (o := zop58) rfl (fun K hK => ?_) ?_
                  unfold zop58
                  go_simp
                  (first | (go_at_call 39; (with_reducible first | refine HM1.out.mono ?_ | refine HU1.out.mono ?_); rintro e wI ⟨rfl, rfl⟩))
                  go_wp2_with fail
                  refine hK.out _ _ ?_ (fun hHeld => ?_)
                  · (try dsimp only); (with_reducible exact K4.out)
                  clear hK K
                  try simp only [Act.put, List.setIfInBounds_toArray, List.set_cons_zero, List.set_cons_succ]
                  refine wpAnyH_take (i := 22) (oi := zop59) (v := ?v_su27tf_72) rfl (by kernel_rfl) (by kernel_rfl) (by kernel_rfl) (fun _ _ _ h => h) (Or.inl ⟨by rfl, ?y_su27tf_72⟩) (by assumption) ?_
                  case y_su27tf_72 => unfold zop59; intro w hSw; (try dsimp only at hSw); go_simp; with_reducible rfl
                  try simp only [zop59, Act.put, List.setIfInBounds_toArray, List.set_cons_zero, List.set_cons_succ]
                  refine wpAnyH_take (i := 23) (oi := zop60) (v := ?v_su27tf_73) rfl (by kernel_rfl) (by kernel_rfl) (by kernel_rfl) (fun _ _ _ h => h) (Or.inl ⟨by rfl, ?y_su27tf_73⟩) (by assumption) ?_
                  case y_su27tf_73 => unfold zop60; intro w hSw; (try dsimp only at hSw); go_simp; with_reducible rfl
                  try simp only [zop60, Act.put, List.setIfInBounds_toArray, List.set_cons_zero, List.set_cons_succ]
                  refine wpAnyH_done (by kernel_rfl) ?_ _
                  rotate_left 1
                  exact AllReadyH.nil
                  exact AllReadyH.nil
                  all_goals
                    go_wp2_with fail
                    go_roundg (xs.length - (k + 1))
                    case measure => omega
                    case rel => exact ⟨k + 1, by omega, rfl, by simp, T0, BE1⟩
                · refine wp_region_held_drew (S := (fun W => W.cell? ⟨gF, k, none⟩ = some (.bool true) ∧ W.cell? ⟨gS, k, none⟩ = some (.bool false) ∧ W.cell? ⟨g, o + k, none⟩ = some (.int .i64 x))) (by kernel_rfl) ?_ (fun hHeld => ?_)
                  · (try dsimp only); (with_reducible exact K4.out)
                  refine wpAnyH_take (i := 0) (oi := zop37) (v := ?v_su27tt_74) rfl (by kernel_rfl) (by kernel_rfl) (by kernel_rfl) (fun _ _ _ h => h) (Or.inl ⟨by rfl, ?y_su27tt_74⟩) (by assumption) ?_
                  case y_su27tt_74 => unfold zop37; intro w hSw; (try dsimp only at hSw); go_simp; with_reducible rfl
                  try simp only [zop37, Act.put, List.setIfInBounds_toArray, List.set_cons_zero, List.set_cons_succ]
                  refine wpAnyH_take (i := 1) (oi := zop38) (v := ?v_su27tt_75) rfl (by kernel_rfl) (by kernel_rfl) (by kernel_rfl) (fun _ _ _ h => h) (Or.inl ⟨by rfl, ?y_su27tt_75⟩) (by assumption) ?_
                  case y_su27tt_75 => unfold zop38; intro w hSw; (try dsimp only at hSw); go_simp; with_reducible rfl
                  try simp only [zop38, Act.put, List.setIfInBounds_toArray, List.set_cons_zero, List.set_cons_succ]
                  refine wpAnyH_take (i := 2) (oi := zop39) (v := ?v_su27tt_76) rfl (by kernel_rfl) (by kernel_rfl) (by kernel_rfl) (fun _ _ _ h => h) (Or.inl ⟨by rfl, ?y_su27tt_76⟩) (by assumption) ?_
                  case y_su27tt_76 => unfold zop39; intro w hSw; (try dsimp only at hSw); go_simp; with_reducible rfl
                  try simp only [zop39, Act.put, List.setIfInBounds_toArray, List.set_cons_zero, List.set_cons_succ]
                  refine wpAnyH_take (i := 3) (oi := zop40) (v := ?v_su27tt_77) rfl (by kernel_rfl) (by kernel_rfl) (by kernel_rfl) (fun _ _ _ h => h) (Or.inl ⟨by rfl, ?y_su27tt_77⟩) (by assumption) ?_
                  case y_su27tt_77 => unfold zop40; intro w hSw; (try dsimp only at hSw); go_simp; with_reducible rfl
                  try simp only [zop40, Act.put, List.setIfInBounds_toArray, List.set_cons_zero, List.set_cons_succ]
                  refine wpAnyH_take (i := 4) (oi := zop41) (v := ?v_su27tt_78) rfl (by kernel_rfl) (by kernel_rfl) (by kernel_rfl) (fun _ _ _ h => h) (Or.inl ⟨by rfl, ?y_su27tt_78⟩) (by assumption) ?_
                  case y_su27tt_78 => unfold zop41; intro w hSw; (try dsimp only at hSw); go_simp; with_reducible rfl
                  try simp only [zop41, Act.put, List.setIfInBounds_toArray, List.set_cons_zero, List.set_cons_succ]
                  refine wpAnyH_take (i := 5) (oi := zop42) (v := ?v_su27tt_79) rfl (by kernel_rfl) (by kernel_rfl) (by kernel_rfl) (fun _ _ _ h => h) (Or.inl ⟨by rfl, ?y_su27tt_79⟩) (by assumption) ?_
                  case y_su27tt_79 => unfold zop42; intro w hSw; (try dsimp only at hSw); go_simp; with_reducible rfl
                  try simp only [zop42, Act.put, List.setIfInBounds_toArray, List.set_cons_zero, List.set_cons_succ]
                  refine wpAnyH_take (i := 6) (oi := zop43) (v := ?v_su27tt_80) rfl (by kernel_rfl) (by kernel_rfl) (by kernel_rfl) (fun _ _ _ h => h) (Or.inl ⟨by rfl, ?y_su27tt_80⟩) (by assumption) ?_
                  case y_su27tt_80 => unfold zop43; intro w hSw; (try dsimp only at hSw); go_simp; with_reducible rfl
                  try simp only [zop43, Act.put, List.setIfInBounds_toArray, List.set_cons_zero, List.set_cons_succ]
                  refine wpAnyH_take (i := 7) (oi := zop44) (v := ?v_su27tt_81) rfl (by kernel_rfl) (by kernel_rfl) (by kernel_rfl) (fun _ _ _ h => h) (Or.inl ⟨by rfl, ?y_su27tt_81⟩) (by assumption) ?_
                  case y_su27tt_81 => unfold zop44; intro w hSw; (try dsimp only at hSw); go_simp; with_reducible rfl
                  try simp only [zop44, Act.put, List.setIfInBounds_toArray, List.set_cons_zero, List.set_cons_succ]
                  refine wpAnyH_take (i := 8) (oi := zop45) (v := ?v_su27tt_82) rfl (by kernel_rfl) (by kernel_rfl) (by kernel_rfl) (fun _ _ _ h => h) (Or.inl ⟨by rfl, ?y_su27tt_82⟩) (by assumption) ?_
                  case y_su27tt_82 => unfold zop45; intro w hSw; (try dsimp only at hSw); go_simp; with_reducible rfl
                  try simp only [zop45, Act.put, List.setIfInBounds_toArray, List.set_cons_zero, List.set_cons_succ]
                  refine wpAnyH_ready (rs := [9]) (by kernel_rfl) (by simp) ?_
                  refine AllReadyH.cons (o := zop46) rfl (fun K hK => ?_) ?_
                  unfold zop46
                  go_simp
                  (first | (go_at_call 39; (with_reducible first | refine HM1.out.mono ?_ | refine HU1.out.mono ?_); rintro e wI ⟨rfl, rfl⟩))
                  go_wp2_with fail
                  refine hK.out _ _ ?_ (fun hHeld => ?_)
                  · (try dsimp only); (with_reducible exact K4.out)
                  clear hK K
                  try simp only [Act.put, List.setIfInBounds_toArray, List.set_cons_zero, List.set_cons_succ]
                  refine wpAnyH_take (i := 10) (oi := zop47) (v := ?v_su27tt_83) rfl (by kernel_rfl) (by kernel_rfl) (by kernel_rfl) (fun _ _ _ h => h) (Or.inl ⟨by rfl, ?y_su27tt_83⟩) (by assumption) ?_
                  case y_su27tt_83 => unfold zop47; intro w hSw; (try dsimp only at hSw); go_simp; with_reducible rfl
                  try simp only [zop47, Act.put, List.setIfInBounds_toArray, List.set_cons_zero, List.set_cons_succ]
                  refine wpAnyH_take (i := 11) (oi := zop48) (v := ?v_su27tt_84) rfl (by kernel_rfl) (by kernel_rfl) (by kernel_rfl) (fun _ _ _ h => h) (Or.inl ⟨by rfl, ?y_su27tt_84⟩) (by assumption) ?_
                  case y_su27tt_84 => unfold zop48; intro w hSw; (try dsimp only at hSw); go_simp; with_reducible rfl
                  try simp only [zop48, Act.put, List.setIfInBounds_toArray, List.set_cons_zero, List.set_cons_succ]
                  refine wpAnyH_take (i := 12) (oi := zop49) (v := ?v_su27tt_85) rfl (by kernel_rfl) (by kernel_rfl) (by kernel_rfl) (fun _ _ _ h => h) (Or.inl ⟨by rfl, ?y_su27tt_85⟩) (by assumption) ?_
                  case y_su27tt_85 => unfold zop49; intro w hSw; (try dsimp only at hSw); go_simp; with_reducible rfl
                  try simp only [zop49, Act.put, List.setIfInBounds_toArray, List.set_cons_zero, List.set_cons_succ]
                  refine wpAnyH_take (i := 13) (oi := zop50) (v := ?v_su27tt_86) rfl (by kernel_rfl) (by kernel_rfl) (by kernel_rfl) (fun _ _ _ h => h) (Or.inl ⟨by rfl, ?y_su27tt_86⟩) (by assumption) ?_
                  case y_su27tt_86 => unfold zop50; intro w hSw; (try dsimp only at hSw); go_simp; with_reducible rfl
                  try simp only [zop50, Act.put, List.setIfInBounds_toArray, List.set_cons_zero, List.set_cons_succ]
                  refine wpAnyH_take (i := 14) (oi := zop51) (v := ?v_su27tt_87) rfl (by kernel_rfl) (by kernel_rfl) (by kernel_rfl) (fun _ _ _ h => h) (Or.inl ⟨by rfl, ?y_su27tt_87⟩) (by assumption) ?_
                  case y_su27tt_87 => unfold zop51; intro w hSw; (try dsimp only at hSw); go_simp; with_reducible rfl
                  try simp only [zop51, Act.put, List.setIfInBounds_toArray, List.set_cons_zero, List.set_cons_succ]
                  refine wpAnyH_take (i := 15) (oi := zop52) (v := ?v_su27tt_88) rfl (by kernel_rfl) (by kernel_rfl) (by kernel_rfl) (fun _ _ _ h => h) (Or.inl ⟨by rfl, ?y_su27tt_88⟩) (by assumption) ?_
                  case y_su27tt_88 => unfold zop52; intro w hSw; (try dsimp only at hSw); go_simp; with_reducible rfl
                  try simp only [zop52, Act.put, List.setIfInBounds_toArray, List.set_cons_zero, List.set_cons_succ]
                  refine wpAnyH_take (i := 16) (oi := zop53) (v := ?v_su27tt_89) rfl (by kernel_rfl) (by kernel_rfl) (by kernel_rfl) (fun _ _ _ h => h) (Or.inl ⟨by rfl, ?y_su27tt_89⟩) (by assumption) ?_
                  case y_su27tt_89 => unfold zop53; intro w hSw; (try dsimp only at hSw); go_simp; with_reducible rfl
                  try simp only [zop53, Act.put, List.setIfInBounds_toArray, List.set_cons_zero, List.set_cons_succ]
                  refine wpAnyH_take (i := 17) (oi := zop54) (v := ?v_su27tt_90) rfl (by kernel_rfl) (by kernel_rfl) (by kernel_rfl) (fun _ _ _ h => h) (Or.inl ⟨by rfl, ?y_su27tt_90⟩) (by assumption) ?_
                  case y_su27tt_90 => unfold zop54; intro w hSw; (try dsimp only at hSw); go_simp; with_reducible rfl
                  try simp only [zop54, Act.put, List.setIfInBounds_toArray, List.set_cons_zero, List.set_cons_succ]
                  refine wpAnyH_take (i := 18) (oi := zop55) (v := ?v_su27tt_91) rfl (by kernel_rfl) (by kernel_rfl) (by kernel_rfl) (fun _ _ _ h => h) (Or.inl ⟨by rfl, ?y_su27tt_91⟩) (by assumption) ?_
                  case y_su27tt_91 => unfold zop55; intro w hSw; (try dsimp only at hSw); go_simp; with_reducible rfl
                  try simp only [zop55, Act.put, List.setIfInBounds_toArray, List.set_cons_zero, List.set_cons_succ]
                  refine wpAnyH_take (i := 19) (oi := zop56) (v := ?v_su27tt_92) rfl (by kernel_rfl) (by kernel_rfl) (by kernel_rfl) (fun _ _ _ h => h) (Or.inl ⟨by rfl, ?y_su27tt_92⟩) (by assumption) ?_
                  case y_su27tt_92 => unfold zop56; intro w hSw; (try dsimp only at hSw); go_simp; with_reducible rfl
                  try simp only [zop56, Act.put, List.setIfInBounds_toArray, List.set_cons_zero, List.set_cons_succ]
                  refine wpAnyH_take (i := 20) (oi := zop57) (v := ?v_su27tt_93) rfl (by kernel_rfl) (by kernel_rfl) (by kernel_rfl) (fun _ _ _ h => h) (Or.inl ⟨by rfl, ?y_su27tt_93⟩) (by assumption) ?_
                  case y_su27tt_93 => unfold zop57; intro w hSw; (try dsimp only at hSw); go_simp; with_reducible rfl
                  try simp only [zop57, Act.put, List.setIfInBounds_toArray, List.set_cons_zero, List.set_cons_succ]
                  refine wpAnyH_ready (rs := [21]) (by kernel_rfl) (by simp) ?_
                  refine AllReadyH.cons (o := zop58) rfl (fun K hK => ?_) ?_
                  unfold zop58
                  go_simp
                  (first | (go_at_call 39; (with_reducible first | refine HM1.out.mono ?_ | refine HU1.out.mono ?_); rintro e wI ⟨rfl, rfl⟩))
                  go_wp2_with fail
                  refine hK.out _ _ ?_ (fun hHeld => ?_)
                  · (try dsimp only); (with_reducible exact K4.out)
                  clear hK K
                  try simp only [Act.put, List.setIfInBounds_toArray, List.set_cons_zero, List.set_cons_succ]
                  refine wpAnyH_take (i := 22) (oi := zop59) (v := ?v_su27tt_94) rfl (by kernel_rfl) (by kernel_rfl) (by kernel_rfl) (fun _ _ _ h => h) (Or.inl ⟨by rfl, ?y_su27tt_94⟩) (by assumption) ?_
                  case y_su27tt_94 => unfold zop59; intro w hSw; (try dsimp only at hSw); go_simp; with_reducible rfl
                  try simp only [zop59, Act.put, List.setIfInBounds_toArray, List.set_cons_zero, List.set_cons_succ]
                  refine wpAnyH_take (i := 23) (oi := zop60) (v := ?v_su27tt_95) rfl (by kernel_rfl) (by kernel_rfl) (by kernel_rfl) (fun _ _ _ h => h) (Or.inl ⟨by rfl, ?y_su27tt_95⟩) (by assumption) ?_
                  case y_su27tt_95 => unfold zop60; intro w hSw; (try dsimp only at hSw); go_simp; with_reducible rfl
                  try simp only [zop60, Act.put, List.setIfInBounds_toArray, List.set_cons_zero, List.set_cons_succ]
                  refine wpAnyH_done (by kernel_rfl) ?_ _
                  rotate_left 1
                  exact AllReadyH.nil
                  exact AllReadyH.nil
                  all_goals
                    go_wp2_with fail
                    go_roundg (xs.length - (k + 1))
                    case measure => omega
                    case rel => exact ⟨k + 1, by omega, rfl, by simp, T0, BE1⟩
              · have hz1 : ¬ (k : Int) < (xs.length : Int) := by omega
                have n0 : wr.cell? ⟨gN, 0, none⟩ = some (.int .i64 LO) := hS.out.bN.cell 0 rfl
                have n1 : wr.cell? ⟨gN, 1, none⟩ = some (.int .i64 HI) := hS.out.bN.cell 1 rfl
                clear hlk
                go_wp2_with fail
                refine (AW.out _ hS.out.st.bl).mono ?_
                rintro e w9 ⟨rfl, hb⟩
                have S9 := Lib.hid (hS.out.go hb)
                clear hb
                go_wp2_with fail
                go_returns
                exact ⟨rfl, S9.out.st.bl⟩
    · have hz6 : (6 : Int) < (xs.length : Int) := by omega
      clear hL hX hN hG hT hrd
      unfold Rk.val at *
      go_enter Tryd.func9, Tryd.ntmps9
      go_wp2_with fail
      refine (RD.out _ S0.out.bl).mono ?_
      rintro e w1 ⟨rfl, hb⟩
      have S1 := Lib.hid (S0.out.go hb)
      clear hb S0
      go_wp2_with fail
      refine (AW.out _ S1.out.bl).mono ?_
      rintro e w3 ⟨rfl, hb⟩
      have S3 := Lib.hid (S1.out.go hb)
      clear hb S1
      go_wp2_with fail
      go_returns
      exact ⟨rfl, S3.out.bl⟩
  · have hrd' : readyB r xs ball = false := by simpa using hrd
    rw [hrd'] at RD
    clear hrd hrd' hL hX hN hG hT
    unfold Rk.val at *
    go_enter Tryd.func9, Tryd.ntmps9
    go_wp2_with fail
    refine (RD.out _ S0.out.bl).mono ?_
    rintro e w1 ⟨rfl, hb⟩
    have S1 := Lib.hid (S0.out.go hb)
    clear hb S0
    go_wp2_with fail
    refine (AW.out _ S1.out.bl).mono ?_
    rintro e w3 ⟨rfl, hb⟩
    have S3 := Lib.hid (S1.out.go hb)
    clear hb S1
    go_wp2_with fail
    go_returns
    exact ⟨rfl, S3.out.bl⟩

end Go.Proofs.YtaloffdkadhhnaaDoor
