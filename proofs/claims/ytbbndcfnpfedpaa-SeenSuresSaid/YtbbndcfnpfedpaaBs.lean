/- What of worlds, blocks and lists speaks of no function of the program. -/
import Derived.Test.YtbbndcfnpfedpaaChecked
import Derived.Test.YtbbndcfnpfedpaaIt
import Derived.Test.YtbbndcfnpfedpaaIu
import Derived.Test.YtbbndcfnpfedpaaIa
import Derived.Test.YtbbndcfnpfedpaaLa
import Derived.BigQuiet
import Derived.Deep.AppendLies
import Derived.Deep.DeepMust
import Derived.Deep.LoopGhost
import Derived.Deep.QuietTactic
import Derived.Deep.RegionHeld3
import Derived.Deep.RegionWith
import Derived.DeepKeys4
import Derived.Handy
import Derived.Laws.CopyOwn
import Derived.Laws.Entries
import Derived.Laws.EntriesVeiled
import Derived.Lib.BitFns
import Derived.Lib.Hide
import Derived.Lib.TrailingZeros
import Derived.LoopIn
import Derived.LoopNIn
import Derived.Maps.AppendAt
import Derived.Maps.OwnIn
import Derived.Maps.OwnSet
import Derived.Orders
import Derived.OwnWalk
import Derived.OwnWalkIn
import Derived.RangeFuncBound
import Derived.RangeFuncBox
import Derived.RangeFuncLeaves
import Derived.RangeFuncNested
import Derived.RegionTactic
import Derived.ScopeJumps
import Derived.Shelf.Abstract
import Derived.Shelf.RegionOpen
import Derived.Sort.CutIn
import Derived.StillTailTactics
import Derived.TacticsInMore
import Derived.WalkKit
import Derived.WalkLawsBesides
import Derived.WalkMore
import Derived.WalkSpells
import Derived.WideKeyMaps
set_option linter.unusedVariables false
set_option linter.unusedSimpArgs false
namespace Go.Proofs.Ytbbndcfnpfedpaa
open Go.RowKit Go.Shelf

def inB (n lo hi : Int) : Bool := decide (lo ≤ n) && decide (n ≤ hi)

theorem inB_iff {n lo hi : Int} : inB n lo hi = true ↔ lo ≤ n ∧ n ≤ hi := by unfold inB; simp

theorem below_al (w : World) (o : Obj) : Below w.heap.size w (w.alloc o) := (Below.refl _ _).alloc (Nat.le_refl _) _

theorem below_al2 {w W : World} (h : Below w.heap.size w W) (o : Obj) : Below w.heap.size w (W.alloc o) := h.alloc h.size _

theorem below_dN {w W : World} {B : Nat} (h : Below B w W) (n : Nat) : Below B w (W.drewN n) := ⟨h.os, h.tape, h.output, h.size, h.block⟩

/-- What a call leaves of the blocks that lay. -/
theorem lo_cell {w W : World} (h : Below w.heap.size w W) (b o : Nat) (hb : b < w.heap.size) : W.cell? ⟨b, o, none⟩ = w.cell? ⟨b, o, none⟩ ∧ W.frozen? ⟨b, o, none⟩ = w.frozen? ⟨b, o, none⟩ := ⟨h.cell (p := ⟨b, o, none⟩) hb, h.frozen (p := ⟨b, o, none⟩) hb⟩

theorem below_go {w W W' : World} (h : Below w.heap.size w W) (h2 : Below W.heap.size W W') : Below w.heap.size w W' := h.trans (h2.mono h.size)

theorem cell_lt {w : World} {a : Addr} {v : Value} (h : w.cell? a = some v) : a.block < w.heap.size := by
  obtain ⟨o, ho, _⟩ := cells_of_cell h
  exact (Array.getElem?_eq_some_iff.1 ho).1

theorem cell_lo {w W : World} {a : Addr} {v : Value} (hb : Below w.heap.size w W) (h : w.cell? a = some v) : W.cell? a = some v := (hb.cell (cell_lt h)).trans h

/-- Block b is these cells. -/
def Blk (W : World) (b : Nat) (cs : Array Value) (t : TypeId) : Prop := W.heap[b]? = some (.cells cs t (0, 0))

theorem Blk.alt {W W' : World} {b : Nat} {cs : Array Value} {t : TypeId} {p : Nat → Prop} (h : Blk W b cs t) (ha : Alt p W W') (hp : ¬ p b) : Blk W' b cs t := ha.obj h hp

theorem Blk.cell {W : World} {b : Nat} {cs : Array Value} {t : TypeId} (h : Blk W b cs t) (i : Nat) {v : Value} (hv : cs[i]? = some v) : W.cell? ⟨b, i, none⟩ = some v := by
  unfold World.cell?
  simp only [show W.heap[b]? = _ from h]
  simpa using hv

theorem Blk.new (W : World) (cs : Array Value) (t : TypeId) : Blk (W.alloc (.cells cs t)) W.heap.size cs t := World.alloc_heap_new W _

theorem Blk.lt {W : World} {b : Nat} {cs : Array Value} {t : TypeId} (h : Blk W b cs t) : b < W.heap.size := (Array.getElem?_eq_some_iff.1 h).1

theorem Blk.fr {W : World} {b : Nat} {cs : Array Value} {t : TypeId} (h : Blk W b cs t) (i : Nat) : W.frozen? ⟨b, i, none⟩ = false := by
  unfold World.frozen?
  simp only [show W.heap[b]? = _ from h]
  simp

theorem Blk.set2 {W : World} {b : Nat} {x y : Value} {t : TypeId} (h : Blk W b #[x, y] t) (x' y' : Value) : Blk ((W.setCell ⟨b, 0, none⟩ x').setCell ⟨b, 1, none⟩ y') b #[x', y'] t := by
  have key : ∀ {W : World} {cs : Array Value} (h : Blk W b cs t) (i : Nat) (v : Value), Blk (W.setCell ⟨b, i, none⟩ v) b (cs.setIfInBounds i v) t := fun {W cs} h i v => by
    obtain ⟨hlt, hk⟩ := Array.getElem?_eq_some_iff.1 (show W.heap[b]? = _ from h)
    show (W.heap.modify b _)[b]? = _
    rw [Array.getElem?_eq_getElem (by rw [Array.size_modify]; exact hlt), Array.getElem_modify_self, hk]
    rfl
  exact key (key h 0 x') 1 y'

theorem Blk.setAt {W : World} {b : Nat} {cs : Array Value} {t : TypeId} (h : Blk W b cs t) (i : Nat) (v : Value) : Blk (W.setCell ⟨b, i, none⟩ v) b (cs.setIfInBounds i v) t := by
  obtain ⟨hlt, hk⟩ := Array.getElem?_eq_some_iff.1 (show W.heap[b]? = _ from h)
  show (W.heap.modify b _)[b]? = _
  rw [Array.getElem?_eq_getElem (by rw [Array.size_modify]; exact hlt), Array.getElem_modify_self, hk]
  rfl

theorem flat_split {β : Type} (f : Nat → List β) {i N : Nat} (h : i < N) : ∃ T, (List.range N).flatMap f = (List.range i).flatMap f ++ f i ++ T ∧ (List.range (i + 1)).flatMap f = (List.range i).flatMap f ++ f i := by
  obtain ⟨k, rfl⟩ : ∃ k, N = (i + 1) + k := ⟨N - (i + 1), by omega⟩
  refine ⟨((List.range k).map (i + 1 + ·)).flatMap f, ?_, ?_⟩
  · rw [List.range_add, List.flatMap_append, List.range_succ, List.flatMap_append]; simp
  · rw [List.range_succ, List.flatMap_append]; simp

theorem Boxed.alt {W W' : World} {B : Nat} {t : TypeId} {v : Value} {p : Nat → Prop} (h : Boxed W B t v) (ha : Alt p W W') (hp : ¬ p B) : Boxed W' B t v := ha.obj h hp

theorem fold_inv {β γ : Type} (P : β → Prop) (g : β → γ → β) : ∀ (xs : List γ) (b : β), P b → (∀ b x, x ∈ xs → P b → P (g b x)) → P (xs.foldl g b)
  | [], b, h, _ => h
  | x :: xs, b, h, hs => fold_inv P g xs (g b x) (hs b x (by simp) h) (fun b y hy => hs b y (by simp [hy]))

/-- Numbers lie in a slice. -/
def IntsAt (w : World) (a : Option Addr) (xs : List Int) : Prop := ∀ i v, xs[i]? = some v → ∃ g o, a = some ⟨g, o, none⟩ ∧ w.cell? ⟨g, o + i, none⟩ = some (.int .i64 v)

theorem IntsAt.lo {w W : World} {a : Option Addr} {xs : List Int} (h : IntsAt w a xs) (hb : Below w.heap.size w W) : IntsAt W a xs := by
  intro i v hv
  obtain ⟨g, o, e, h1⟩ := h i v hv
  exact ⟨g, o, e, cell_lo hb h1⟩

theorem IntsAt.alt {w W : World} {a : Option Addr} {xs : List Int} {p : Nat → Prop} (h : IntsAt w a xs) (hb : Alt p w W) (hp : ∀ g o, a = some ⟨g, o, none⟩ → ¬ p g) : IntsAt W a xs := by
  intro i v hv
  obtain ⟨g, o, e, h1⟩ := h i v hv
  exact ⟨g, o, e, (World.cell?_of_block (hb.blk g (cell_lt h1) (hp g o e))).trans h1⟩

/-- Truth values that lie in a slice. -/
def BoolsAt (w : World) (a : Option Addr) (xs : List Bool) : Prop := ∀ i v, xs[i]? = some v → ∃ g o, a = some ⟨g, o, none⟩ ∧ w.cell? ⟨g, o + i, none⟩ = some (.bool v)

theorem BoolsAt.lo {w W : World} {a : Option Addr} {xs : List Bool} (h : BoolsAt w a xs) (hb : Below w.heap.size w W) : BoolsAt W a xs := by
  intro i v hv
  obtain ⟨g, o, e, h1⟩ := h i v hv
  exact ⟨g, o, e, cell_lo hb h1⟩

theorem ownsRow_alt {W W' : World} {base : Nat} {e : TypeId} {size : Nat} {v : Value} {n : Nat} {xs : List Value} {p : Nat → Prop} (h : W.ownsRow base e size v n xs) (ha : Alt p W W') (hp : ∀ g, base ≤ g → ¬ p g) : W'.ownsRow base e size v n xs := by
  obtain ⟨h1, h2⟩ := h
  refine ⟨h1, ?_⟩
  rcases h2 with h2 | ⟨g, cap, cur, e1, e2, e3, e4⟩
  · exact .inl h2
  · exact .inr ⟨g, cap, cur, e1, e2, ha.obj e3 (hp g e2), e4⟩

theorem own_base {W : World} {base : Nat} {e : TypeId} {size : Nat} {v : Value} {n : Nat} {xs : List Value} (h : W.ownsRow base e size v n xs) {k : Nat} (hk : v.ownBlock = some k) : base ≤ k := by
  rcases h.2 with ⟨rfl, _⟩ | ⟨g, cap, cur, rfl, hb, _, _⟩
  · simp [Value.ownBlock] at hk
  · obtain rfl : g = k := by simpa [Value.ownBlock] using hk
    exact hb

theorem own_mono {W : World} {base base' : Nat} {e : TypeId} {size : Nat} {v : Value} {n : Nat} {xs : List Value} (h : W.ownsRow base e size v n xs) (hb : base' ≤ base) : W.ownsRow base' e size v n xs := by
  obtain ⟨h1, h2⟩ := h
  refine ⟨h1, h2.imp_right ?_⟩
  rintro ⟨g, cap, cur, e1, e2, e3⟩
  exact ⟨g, cap, cur, e1, Nat.le_trans hb e2, e3⟩

/-- Here an 'append' comes up. -/
theorem append_here {P : Program} {ops : Array Oper} {d : Option Tmp} {s x : Operand} {t ty : TypeId} {p : String} {af : Array Edge} {a : Act} {w : World} {K : Act → World → Prop} {Q : Exit → Act → World → Prop} {E : Prop}
    (h : if Region.wanted { dst := d, op := .call { callee := .builtin .append, args := #[s, x], argTypes := #[t, t] }, type := ty, pos := p, after := af, guard := none } (yielded ops a.tmps) = true then Oper.wp P { dst := d, op := .call { callee := .builtin .append, args := #[s, x], argTypes := #[t, t] }, type := ty, pos := p, after := af, guard := none } a w K Q else E) :
    if Region.wanted { dst := d, op := .call { callee := .builtin .append, args := #[s, x], argTypes := #[t, t] }, type := ty, pos := p, after := af, guard := none } (yielded ops a.tmps) = true then Oper.wp P { dst := d, op := .call { callee := .builtin .append, args := #[s, x], argTypes := #[t, t] }, type := ty, pos := p, after := af, guard := none } a w K Q else E := h

theorem alt_cell {p : Nat → Prop} {A B : World} (h : Alt p A B) {b o : Nat} {v : Value} (hc : A.cell? ⟨b, o, none⟩ = some v) (hp : ¬ p b) : B.cell? ⟨b, o, none⟩ = some v :=
  (World.cell?_of_block (a := ⟨b, o, none⟩) (h.blk b (cell_lt hc) hp)).trans hc

theorem alt_frz {p : Nat → Prop} {A B : World} (h : Alt p A B) {b o : Nat} (hz : A.frozen? ⟨b, o, none⟩ = false) (hb : b < A.heap.size) (hp : ¬ p b) : B.frozen? ⟨b, o, none⟩ = false :=
  (World.frozen?_of_block (a := ⟨b, o, none⟩) (h.blk b hb hp)).trans hz

def hasI (xs : List Int) (x : Int) : Bool := xs.any fun y => y == x

theorem hasI_iff {xs : List Int} {x : Int} : hasI xs x = true ↔ x ∈ xs := by unfold hasI; simp

theorem hasI_snoc (xs : List Int) (y x : Int) : hasI (xs ++ [y]) x = (hasI xs x || (y == x)) := by unfold hasI; simp

theorem take_next {α : Type} {xs : List α} {i : Nat} {x : α} (h : xs[i]? = some x) : xs.take (i + 1) = xs.take i ++ [x] := by rw [List.take_add_one, h]; rfl

theorem below_row {w w' : World} (hB : Below w.heap.size w w') : w.grownBy w' none := ⟨hB.os, hB.tape, hB.output, hB.size, fun k hk _ => hB.block k hk⟩

theorem add_pl (b o i : Nat) : (⟨b, o, none⟩ : Addr).add i = ⟨b, o + i, none⟩ := by unfold Addr.add; split <;> simp_all

/-- A row's elements, in blocks from base on. -/
def RowV (base : Nat) (W : World) (a : Option Addr) (l : List Value) : Prop := ∀ (j : Nat) (u : Value), l[j]? = some u → ∃ (g o : Nat), a = some ⟨g, o, none⟩ ∧ W.cell? ⟨g, o + j, none⟩ = some u ∧ base ≤ g

theorem RowV.lo {base : Nat} {W W' : World} {a : Option Addr} {l : List Value} (h : RowV base W a l) (hb : Below W.heap.size W W') : RowV base W' a l := fun j u hu => by
  obtain ⟨g, o, e, h1, h2⟩ := h j u hu
  exact ⟨g, o, e, cell_lo hb h1, h2⟩

theorem RowV.mono {base base' : Nat} {W : World} {a : Option Addr} {l : List Value} (h : RowV base W a l) (hb : base' ≤ base) : RowV base' W a l := fun j u hu => by
  obtain ⟨g, o, e, h1, h2⟩ := h j u hu
  exact ⟨g, o, e, h1, by omega⟩

theorem RowV.ints {base : Nat} {W : World} {a : Option Addr} {xs : List Int} (h : RowV base W a (xs.map (Value.int .i64))) : IntsAt W a xs := fun j x hx => by
  obtain ⟨g, o, e, h1, _⟩ := h j (.int .i64 x) (by rw [List.getElem?_map, hx]; rfl)
  exact ⟨g, o, e, h1⟩

theorem RowV.bools {base : Nat} {W : World} {a : Option Addr} {xs : List Bool} (h : RowV base W a (xs.map Value.bool)) : BoolsAt W a xs := fun j x hx => by
  obtain ⟨g, o, e, h1, _⟩ := h j (.bool x) (by rw [List.getElem?_map, hx]; rfl)
  exact ⟨g, o, e, h1⟩

theorem RowV.nil (base : Nat) (W : World) (a : Option Addr) : RowV base W a [] := fun j u h => by simp at h

theorem RowV.own {bo base n : Nat} {W : World} {a : Option Addr} {c : Nat} {e : TypeId} {l : List Value} (h : W.ownsRow bo e 1 (.slice a n c) n l) (hb : base ≤ bo) : RowV base W a l := fun j u hu => by
  rcases h.2 with ⟨h1, h2⟩ | ⟨g, cap, cur, h1, h2, _⟩
  · have := h.1
    have hl : l = [] := List.eq_nil_of_length_eq_zero (by omega)
    subst hl; simp at hu
  · simp only [Value.slice.injEq] at h1
    obtain ⟨rfl, _, _⟩ := h1
    have := h.cells (g := g) rfl j u hu
    rw [add_pl] at this
    exact ⟨g, 0, rfl, this, by omega⟩

/-- Rows that lie one behind the other. -/
def LLAt (base : Nat) (W : World) (a : Option Addr) (L : List (List Value)) : Prop := ∀ (i : Nat) (l : List Value), L[i]? = some l → ∃ (g o : Nat) (a' : Option Addr) (c' : Nat), a = some ⟨g, o, none⟩ ∧ W.cell? ⟨g, o + i, none⟩ = some (Value.slice a' l.length c') ∧ RowV base W a' l

theorem LLAt.lo {base : Nat} {W W' : World} {a : Option Addr} {L : List (List Value)} (h : LLAt base W a L) (hb : Below W.heap.size W W') : LLAt base W' a L := fun i l hl => by
  obtain ⟨g, o, a', c', e, h1, h2⟩ := h i l hl
  exact ⟨g, o, a', c', e, cell_lo hb h1, h2.lo hb⟩

/-- Heads of rows. -/
def RowsOk (base : Nat) (W : World) (ob : Option Nat) (L : List (List Value)) (hs : List Value) : Prop :=
  ∀ (i : Nat) (l : List Value), L[i]? = some l → ∃ (a : Option Addr) (c : Nat), hs[i]? = some (Value.slice a l.length c) ∧ ∀ (j : Nat) (u : Value), l[j]? = some u → ∃ g o, a = some ⟨g, o, none⟩ ∧ W.cell? ⟨g, o + j, none⟩ = some u ∧ base ≤ g ∧ ob ≠ some g

theorem RowsOk.lo {base : Nat} {W W' : World} {ob : Option Nat} {L : List (List Value)} {hs : List Value} (h : RowsOk base W ob L hs) (hb : Below W.heap.size W W') : RowsOk base W' ob L hs := fun i l hl => by
  obtain ⟨a, c, e1, e2⟩ := h i l hl
  exact ⟨a, c, e1, fun j u hu => by
    obtain ⟨g, o, x1, x2, x3, x4⟩ := e2 j u hu
    exact ⟨g, o, x1, cell_lo hb x2, x3, x4⟩⟩

theorem RowsOk.mono {base base' : Nat} {W : World} {ob : Option Nat} {L : List (List Value)} {hs : List Value} (h : RowsOk base W ob L hs) (hb : base' ≤ base) : RowsOk base' W ob L hs := fun i l hl => by
  obtain ⟨a, c, e1, e2⟩ := h i l hl
  exact ⟨a, c, e1, fun j u hu => by
    obtain ⟨g, o, x1, x2, x3, x4⟩ := e2 j u hu
    exact ⟨g, o, x1, x2, by omega, x4⟩⟩

theorem RowsOk.one {base : Nat} {W : World} {ob : Option Nat} {a : Option Addr} {c : Nat} {l : List Value} (h : RowV base W a l) (ho : ∀ k, ob = some k → ∀ g o, a = some ⟨g, o, none⟩ → k ≠ g) : RowsOk base W ob [l] [Value.slice a l.length c] := fun i l' hl => by
  cases i with
  | zero =>
    cases hl
    exact ⟨a, c, rfl, fun j u hu => by
      obtain ⟨g, o, e, h1, h2⟩ := h j u hu
      exact ⟨g, o, e, h1, h2, fun he => ho g he g o e rfl⟩⟩
  | succ i => simp at hl

/-- A list of lists in a block from bo on, that may grow; its rows lie from br on. -/
def OwnLL (e : TypeId) (bo br : Nat) (W : World) (v : Value) (L : List (List Value)) : Prop := ∃ hs, W.ownsRow bo e 1 v L.length hs ∧ RowsOk br W v.ownBlock L hs

theorem OwnLL.nil (e : TypeId) (bo br : Nat) (W : World) : OwnLL e bo br W (Value.slice none 0 0) [] := ⟨[], ⟨rfl, .inl ⟨rfl, rfl⟩⟩, fun i l h => by simp at h⟩

theorem OwnLL.lo {e : TypeId} {bo br : Nat} {W W' : World} {v : Value} {L : List (List Value)} (h : OwnLL e bo br W v L) (hb : Below W.heap.size W W') : OwnLL e bo br W' v L := by
  obtain ⟨hs, h1, h2⟩ := h
  exact ⟨hs, h1.kept (below_row hb) (by cases hk : v.ownBlock with | none => exact .inl rfl | some k => exact .inr (fun e => by cases e)), h2.lo hb⟩

theorem OwnLL.mono {e : TypeId} {bo br bo' br' : Nat} {W : World} {v : Value} {L : List (List Value)} (h : OwnLL e bo br W v L) (h1 : bo' ≤ bo) (h2 : br' ≤ br) : OwnLL e bo' br' W v L := by
  obtain ⟨hs, g1, g2⟩ := h
  exact ⟨hs, own_mono g1 h1, fun i l hl => by
    obtain ⟨a, c, e1, e2⟩ := g2 i l hl
    exact ⟨a, c, e1, fun j u hu => by
      obtain ⟨g, o, x1, x2, x3, x4⟩ := e2 j u hu
      exact ⟨g, o, x1, x2, by omega, x4⟩⟩⟩

theorem OwnLL.push {e : TypeId} {bo br : Nat} {W0 W1 : World} {v v' : Value} {L L' : List (List Value)} {hs hs' : List Value} (ho0 : W0.ownsRow bo e 1 v L.length hs) (hr : RowsOk br W0 v.ownBlock L hs) (hr' : RowsOk br W0 v.ownBlock L' hs')
    (hg : W0.grownBy W1 v.ownBlock) (ho : W1.ownsRow bo e 1 v' (L.length + L'.length) (hs ++ hs')) (hat : v'.ownBlock = v.ownBlock ∨ v'.ownBlock = some W0.heap.size) : OwnLL e bo br W1 v' (L ++ L') := by
  have hlen : hs.length = L.length := by have := ho0.1; omega
  have keep : ∀ g o u, W0.cell? ⟨g, o, none⟩ = some u → v.ownBlock ≠ some g → W1.cell? ⟨g, o, none⟩ = some u ∧ v'.ownBlock ≠ some g := fun g o u h hne => by
    have hlt : g < W0.heap.size := cell_lt h
    refine ⟨(hg.cell_far ⟨g, o, none⟩ hlt (Ne.symm hne)).trans h, ?_⟩
    rcases hat with e | e
    · rw [e]; exact hne
    · rw [e]; intro e'; cases e'; exact absurd hlt (Nat.lt_irrefl _)
  refine ⟨hs ++ hs', by rw [List.length_append]; exact ho, fun i l hl => ?_⟩
  by_cases hi : i < L.length
  · rw [List.getElem?_append_left hi] at hl
    obtain ⟨a, c, e1, e2⟩ := hr i l hl
    refine ⟨a, c, by rw [List.getElem?_append_left (by omega)]; exact e1, fun j u hu => ?_⟩
    obtain ⟨g, o, x1, x2, x3, x4⟩ := e2 j u hu
    have k := keep g (o + j) u x2 x4
    exact ⟨g, o, x1, k.1, x3, k.2⟩
  · rw [List.getElem?_append_right (by omega)] at hl
    obtain ⟨a, c, e1, e2⟩ := hr' _ l hl
    refine ⟨a, c, by rw [List.getElem?_append_right (by omega), hlen]; exact e1, fun j u hu => ?_⟩
    obtain ⟨g, o, x1, x2, x3, x4⟩ := e2 j u hu
    have k := keep g (o + j) u x2 x4
    exact ⟨g, o, x1, k.1, x3, k.2⟩

theorem OwnLL.out {e : TypeId} {bo br : Nat} {W : World} {v : Value} {L : List (List Value)} (h : OwnLL e bo br W v L) : ∃ a c, v = .slice a L.length c ∧ LLAt br W a L ∧ (∀ g o, a = some ⟨g, o, none⟩ → bo ≤ g ∧ g < W.heap.size) := by
  obtain ⟨hs, h1, h2⟩ := h
  have hlt := h1.lt
  rcases h1.2 with ⟨e1, e2⟩ | ⟨g, cap, cur, e1, e2, e3, e4⟩
  · refine ⟨none, 0, by rw [e1, e2], fun i l hl => ?_, fun g o e => by cases e⟩
    have : L = [] := List.eq_nil_of_length_eq_zero e2
    subst this; simp at hl
  · refine ⟨some ⟨g, 0, none⟩, cap, e1, fun i l hl => ?_, fun g' o e => ?_⟩
    · obtain ⟨a, c, x1, x2⟩ := h2 i l hl
      have := h1.cells (g := g) (by rw [e1]; rfl) i _ x1
      rw [add_pl] at this
      refine ⟨g, 0, a, c, rfl, this, fun j u hu => ?_⟩
      obtain ⟨g', o, y1, y2, y3, _⟩ := x2 j u hu
      exact ⟨g', o, y1, y2, y3⟩
    · cases e
      exact hlt g (by rw [e1]; rfl)

/-- The heads of rows that lie one behind the other. -/
theorem LLAt.heads {base : Nat} {W : World} {g o : Nat} {L : List (List Value)} (h : LLAt base W (some ⟨g, o, none⟩) L) (ob : Option Nat) (hob : ∀ k, base ≤ k → ob ≠ some k) :
    ∃ hs, hs.length = L.length * 1 ∧ (∀ j u, hs[j]? = some u → W.cell? ((⟨g, o, none⟩ : Addr).add j) = some u) ∧ (∀ u ∈ hs, u.oneCell' = true) ∧ RowsOk base W ob L hs := by
  have key : ∀ i, i < L.length → ∃ a c l, L[i]? = some l ∧ W.cell? ⟨g, o + i, none⟩ = some (Value.slice a l.length c) ∧ RowV base W a l := fun i hi => by
    obtain ⟨g', o', a, c, e, h1, h2⟩ := h i _ (List.getElem?_eq_getElem hi)
    cases e
    exact ⟨a, c, _, List.getElem?_eq_getElem hi, h1, h2⟩
  refine ⟨(List.range L.length).map fun i => (W.cell? ⟨g, o + i, none⟩).getD (.bool false), by simp, fun j u hu => ?_, fun u hu => ?_, fun i l hl => ?_⟩
  · rw [List.getElem?_map] at hu
    by_cases hj : j < L.length
    · rw [List.getElem?_range hj] at hu
      obtain ⟨a, c, l, _, h1, _⟩ := key j hj
      simp only [Option.map_some, h1, Option.getD_some, Option.some.injEq] at hu
      rw [add_pl, h1, hu]
    · rw [List.getElem?_eq_none (by simp; omega)] at hu; cases hu
  · obtain ⟨i, hi, rfl⟩ := List.mem_map.1 hu
    obtain ⟨a, c, l, _, h1, _⟩ := key i (List.mem_range.1 hi)
    rw [h1]; rfl
  · have hi : i < L.length := (List.getElem?_eq_some_iff.1 hl).1
    obtain ⟨a, c, l', e, h1, h2⟩ := key i hi
    rw [hl] at e; cases e
    refine ⟨a, c, by rw [List.getElem?_map, List.getElem?_range hi]; simp [h1], fun j u hu => ?_⟩
    obtain ⟨g', o', y1, y2, y3⟩ := h2 j u hu
    exact ⟨g', o', y1, y2, y3, hob g' y3⟩

/-- A list is copied behind an empty one of the call's own. -/
theorem app_copy (t e : TypeId) (i : TypeInfo) (z : Value) (bytes : Nat) (ht : Try.prog.underlying t = some (.slice e)) (hi : Try.prog.info? e = some i) (hz : i.zero = some z) (hs : i.size = 1) (hby : i.bytes = bytes) (hb8 : bytes ≤ 8) (hzs : z.cells.size = 1)
    (p : List Value) (h1 : ∀ u ∈ p, u.oneCell' = true) (a : Option Addr) (c base : Nat) (W : World) (g : Nat) (hB : Blk W g #[] e) (hg : base ≤ g) (hbase : base ≤ W.heap.size) (hp : RowV 0 W a p) (ha : a = none → p = [] ∧ c = 0) (hn : p.length ≤ 1000) :
    ∃ v1 w1, (Builtin.append_ #[t, t] t #[.slice (some ⟨g, 0, none⟩) 0 0, .slice a p.length c]).run Try.prog W = .ok v1 w1 ∧ w1.ownsRow base e 1 v1 p.length p ∧ W.grownBy w1 (some g) := by
  have HO : W.ownsRow base e 1 (.slice (some ⟨g, 0, none⟩) 0 0) 0 [] := ⟨rfl, .inr ⟨g, 0, #[], rfl, hg, hB, Nat.le_refl _, by unfold maxLen; omega, rfl, rfl⟩⟩
  cases a with
  | none =>
    obtain ⟨rfl, rfl⟩ := ha rfl
    refine ⟨.slice (some ⟨g, 0, none⟩) 0 0, W, ?_, HO, ⟨rfl, rfl, rfl, Nat.le_refl _, fun _ _ _ => rfl⟩⟩
    have hu := run_underlying (P := Try.prog) (w := W) ht
    simp [Builtin.append_, hu, sizeOf, typeInfo, hi, go_sem]
  | some ad =>
    have hnews : ∀ j u, p[j]? = some u → W.cell? (ad.add j) = some u := fun j u hj => by
      obtain ⟨g', o', e', hc, _⟩ := hp j u hj
      cases e'
      rw [add_pl]; exact hc
    obtain ⟨v', w', hr, ho, hgr, _, _⟩ := run_append_own_at (P := Try.prog) (w := W) base t t e i z 1 bytes ht hi hz hs hby hzs (by decide) (.slice (some ⟨g, 0, none⟩) 0 0) 0 [] HO ad p.length c p (by simp) hnews h1 (by unfold maxLen; omega) (by rw [Nat.zero_add]; exact Nat.le_trans (Nat.mul_le_mul hn hb8) (by decide)) hbase
    rw [Nat.zero_add, List.nil_append] at ho
    exact ⟨v', w', hr, ho, hgr⟩

/-- One element more. -/
theorem app_one (t e : TypeId) (i : TypeInfo) (z : Value) (bytes : Nat) (ht : Try.prog.underlying t = some (.slice e)) (hi : Try.prog.info? e = some i) (hz : i.zero = some z) (hs : i.size = 1) (hby : i.bytes = bytes) (hb8 : bytes ≤ 8) (hzs : z.cells.size = 1)
    (p : List Value) (u : Value) (h1 : u.oneCell' = true) (v : Value) (base : Nat) (W : World) (hO : W.ownsRow base e 1 v p.length p) (B : Nat) (hB : Blk W B #[u] e) (hbase : base ≤ W.heap.size) (hn : p.length ≤ 1000) :
    ∃ g c w2, (Builtin.append_ #[t, t] t #[v, .slice (some ⟨B, 0, none⟩) 1 1]).run Try.prog W = .ok (.slice (some ⟨g, 0, none⟩) (p.length + 1) c) w2 ∧ RowV base w2 (some ⟨g, 0, none⟩) (p ++ [u]) ∧ W.grownBy w2 v.ownBlock := by
  obtain ⟨g, cap, w', hr, ho, hgr, _, _⟩ := run_append_lies (P := Try.prog) (w := W) t t base e i z 1 bytes ht hi hz hs hby hzs (by decide) v p.length p hO ⟨B, 0, none⟩ 1 1 [u] rfl (World.news_of_block (cs := #[u]) hB) (by intro x hx; rw [List.mem_singleton.1 hx]; exact h1) (by decide) (by unfold maxLen; omega) (Nat.le_trans (Nat.mul_le_mul (show p.length + 1 ≤ 1001 by omega) hb8) (by decide)) hbase W.heap.size rfl
  exact ⟨g, cap, w', hr, RowV.own ho (Nat.le_refl _), hgr⟩

theorem below_grow {w W W' : World} {ob : Option Nat} (hB : Below w.heap.size w W) (hg : W.grownBy W' ob) (ho : ∀ k, ob = some k → w.heap.size ≤ k) : Below w.heap.size w W' := hB.grown hg hB.size ho

/-- A list with one element more, made anew: in the order of the text. -/
theorem copy_one (t e : TypeId) (i : TypeInfo) (z : Value) (bytes : Nat) (ht : Try.prog.underlying t = some (.slice e)) (hi : Try.prog.info? e = some i) (hz : i.zero = some z) (hs : i.size = 1) (hby : i.bytes = bytes) (hb8 : bytes ≤ 8) (hzs : z.cells.size = 1)
    (p : List Value) (h1 : ∀ u ∈ p, u.oneCell' = true) (u : Value) (h2 : u.oneCell' = true) (a : Option Addr) (c : Nat) (W : World) (hp : RowV 0 W a p) (ha : a = none → p = [] ∧ c = 0) (hn : p.length ≤ 1000) :
    ∃ v1 w1 g2 c2 w2, (Builtin.append_ #[t, t] t #[.slice (some ⟨W.heap.size, 0, none⟩) 0 0, .slice a p.length c]).run Try.prog (W.alloc (.cells #[] e)) = .ok v1 w1 ∧
      (Builtin.append_ #[t, t] t #[v1, .slice (some ⟨w1.heap.size, 0, none⟩) 1 1]).run Try.prog (w1.alloc (.cells #[u] e)) = .ok (.slice (some ⟨g2, 0, none⟩) (p.length + 1) c2) w2 ∧
      RowV W.heap.size w2 (some ⟨g2, 0, none⟩) (p ++ [u]) ∧ Below W.heap.size W w2 ∧ Below W.heap.size W w1 := by
  have bA := below_al W (.cells #[] e)
  obtain ⟨v1, w1, hr, ho, hg⟩ := app_copy t e i z bytes ht hi hz hs hby hb8 hzs p h1 a c W.heap.size (W.alloc (.cells #[] e)) W.heap.size (Blk.new W #[] e) (Nat.le_refl _) bA.size (hp.lo bA) ha hn
  have b1 := below_grow bA hg (fun k e => by cases e; exact Nat.le_refl _)
  have b2 := below_al2 b1 (.cells #[u] e)
  obtain ⟨g2, c2, w2, hr2, hR, hg2⟩ := app_one t e i z bytes ht hi hz hs hby hb8 hzs p u h2 v1 W.heap.size (w1.alloc (.cells #[u] e)) (ho.alloc _) w1.heap.size (Blk.new w1 _ _) b2.size hn
  exact ⟨v1, w1, g2, c2, w2, hr, hr2, hR, below_grow b2 hg2 (fun k e => (ho.lt k e).1), b1⟩

/-- The new element is made ahead of the copy. -/
theorem copy_one2 (t e : TypeId) (i : TypeInfo) (z : Value) (bytes : Nat) (ht : Try.prog.underlying t = some (.slice e)) (hi : Try.prog.info? e = some i) (hz : i.zero = some z) (hs : i.size = 1) (hby : i.bytes = bytes) (hb8 : bytes ≤ 8) (hzs : z.cells.size = 1)
    (p : List Value) (h1 : ∀ u ∈ p, u.oneCell' = true) (u : Value) (h2 : u.oneCell' = true) (a : Option Addr) (c : Nat) (W W2 : World) (gE gU : Nat) (hE : Blk W2 gE #[] e) (hU : Blk W2 gU #[u] e) (hne : gE ≠ gU) (hgE : W.heap.size ≤ gE) (hB : Below W.heap.size W W2) (hp : RowV 0 W a p) (ha : a = none → p = [] ∧ c = 0) (hn : p.length ≤ 1000) :
    ∃ v1 w1 g2 c2 w2, (Builtin.append_ #[t, t] t #[.slice (some ⟨gE, 0, none⟩) 0 0, .slice a p.length c]).run Try.prog W2 = .ok v1 w1 ∧
      (Builtin.append_ #[t, t] t #[v1, .slice (some ⟨gU, 0, none⟩) 1 1]).run Try.prog w1 = .ok (.slice (some ⟨g2, 0, none⟩) (p.length + 1) c2) w2 ∧
      RowV W.heap.size w2 (some ⟨g2, 0, none⟩) (p ++ [u]) ∧ Below W.heap.size W w2 ∧ Below W.heap.size W w1 := by
  obtain ⟨v1, w1, hr, ho, hg⟩ := app_copy t e i z bytes ht hi hz hs hby hb8 hzs p h1 a c W.heap.size W2 gE hE hgE hB.size (hp.lo hB) ha hn
  have b1 := below_grow hB hg (fun k e => by cases e; exact hgE)
  have hU1 : Blk w1 gU #[u] e := (hg.block gU hU.lt (fun e => hne (by cases e; rfl))).trans hU
  obtain ⟨g2, c2, w2, hr2, hR, hg2⟩ := app_one t e i z bytes ht hi hz hs hby hb8 hzs p u h2 v1 W.heap.size w1 ho gU hU1 b1.size hn
  exact ⟨v1, w1, g2, c2, w2, hr, hr2, hR, below_grow b1 hg2 (fun k e => (ho.lt k e).1), b1⟩

/-- An append whose run is known: at the operation, and where it stands in a region. -/
theorem wp_run2 {P : Program} {o : Oper} {a : Act} {w : World} {K : Act → World → Prop} {Q : Exit → Act → World → Prop} (s x : Operand) (t : TypeId)
    (ho : o.op = .call { callee := .builtin .append, args := #[s, x], argTypes := #[t, t] }) (v1 v2 v' : Value) (w' : World) (hs : a.eval s = v1) (hx : a.eval x = v2)
    (hr : (Builtin.append_ #[t, t] o.type #[v1, v2]).run P w = .ok v' w') (h : K (a.put o.dst v') w') : o.wp P a w K Q := by
  unfold Oper.wp execOp
  simp only [ho, resolve, invoke, builtin, Sem.run_bind, Sem.run_pure, Result.andThen_ok, List.map_toArray, List.map_cons, List.map_nil, hs, hx, hr]
  exact h

theorem wpList_run2 {P : Program} {ops : Array Oper} {rest : List Oper} {o : Oper} {a : Act} {w : World} {Q : Exit → Act → World → Prop} (hgd : o.guard = none) (s x : Operand) (t : TypeId)
    (ho : o.op = .call { callee := .builtin .append, args := #[s, x], argTypes := #[t, t] }) (v1 v2 v' : Value) (w' : World) (hs : a.eval s = v1) (hx : a.eval x = v2)
    (hr : (Builtin.append_ #[t, t] o.type #[v1, v2]).run P w = .ok v' w') (h : wpList P ops Q rest (a.put o.dst v') w') : wpList P ops Q (o :: rest) a w :=
  wpList_plain hgd fun K hK => wp_run2 s x t ho v1 v2 v' w' hs hx hr (hK _ _ h)

theorem step_run2 {P : Program} {ops : Array Oper} {o : Oper} {a : Act} {w : World} {K : Act → World → Prop} {Q : Exit → Act → World → Prop} {E : Prop} (hgd : o.guard = none) (s x : Operand) (t : TypeId)
    (ho : o.op = .call { callee := .builtin .append, args := #[s, x], argTypes := #[t, t] }) (v1 v2 v' : Value) (w' : World) (hs : a.eval s = v1) (hx : a.eval x = v2)
    (hr : (Builtin.append_ #[t, t] o.type #[v1, v2]).run P w = .ok v' w') (h : K (a.put o.dst v') w') : if Region.wanted o (yielded ops a.tmps) = true then Oper.wp P o a w K Q else E := by
  have hw : Region.wanted o (yielded ops a.tmps) = true := by simp [Region.wanted, hgd]
  rw [if_pos hw]
  exact wp_run2 s x t ho v1 v2 v' w' hs hx hr h

theorem step_run4 {P : Program} {t ty : TypeId} {v1 v2 v' : Value} {w w' : World} (hr : (Builtin.append_ #[t, t] ty #[v1, v2]).run P w = .ok v' w') {ops : Array Oper} {d : Option Tmp} {s x : Operand} {p : String} {af : Array Edge} {a : Act} {K : Act → World → Prop} {Q : Exit → Act → World → Prop} {E : Prop}
    (hs : a.eval s = v1) (hx : a.eval x = v2) (h : K (a.put d v') w') : if Region.wanted { dst := d, op := .call { callee := .builtin .append, args := #[s, x], argTypes := #[t, t] }, type := ty, pos := p, after := af, guard := none } (yielded ops a.tmps) = true then Oper.wp P { dst := d, op := .call { callee := .builtin .append, args := #[s, x], argTypes := #[t, t] }, type := ty, pos := p, after := af, guard := none } a w K Q else E :=
  step_run2 rfl s x t rfl v1 v2 v' w' hs hx hr h

/-- A list with one element more, made anew, whatever is made first. -/
theorem orders3 (t e : TypeId) (i : TypeInfo) (z : Value) (bytes : Nat) (ht : Try.prog.underlying t = some (.slice e)) (hi : Try.prog.info? e = some i) (hz : i.zero = some z) (hs : i.size = 1) (hby : i.bytes = bytes) (hb8 : bytes ≤ 8) (hzs : z.cells.size = 1)
    (p : List Value) (h1 : ∀ u ∈ p, u.oneCell' = true) (u : Value) (h2 : u.oneCell' = true) (a : Option Addr) (c : Nat) (W : World) (hp : RowV 0 W a p) (ha : a = none → p = [] ∧ c = 0) (hn : p.length ≤ 1000) :
    (∃ v1 w1 g2 c2 w2, (Builtin.append_ #[t, t] t #[.slice (some ⟨W.heap.size, 0, none⟩) 0 0, .slice a p.length c]).run Try.prog (W.alloc (.cells #[] e)) = .ok v1 w1 ∧
      (Builtin.append_ #[t, t] t #[v1, .slice (some ⟨w1.heap.size, 0, none⟩) 1 1]).run Try.prog (w1.alloc (.cells #[u] e)) = .ok (.slice (some ⟨g2, 0, none⟩) (p.length + 1) c2) w2 ∧
      RowV W.heap.size w2 (some ⟨g2, 0, none⟩) (p ++ [u]) ∧ Below W.heap.size W w2 ∧ Below W.heap.size W w1) ∧
    (∃ v1 w1 g2 c2 w2, (Builtin.append_ #[t, t] t #[.slice (some ⟨W.heap.size, 0, none⟩) 0 0, .slice a p.length c]).run Try.prog ((W.alloc (.cells #[] e)).alloc (.cells #[u] e)) = .ok v1 w1 ∧
      (Builtin.append_ #[t, t] t #[v1, .slice (some ⟨W.heap.size + 1, 0, none⟩) 1 1]).run Try.prog w1 = .ok (.slice (some ⟨g2, 0, none⟩) (p.length + 1) c2) w2 ∧
      RowV W.heap.size w2 (some ⟨g2, 0, none⟩) (p ++ [u]) ∧ Below W.heap.size W w2 ∧ Below W.heap.size W w1) ∧
    (∃ v1 w1 g2 c2 w2, (Builtin.append_ #[t, t] t #[.slice (some ⟨W.heap.size + 1, 0, none⟩) 0 0, .slice a p.length c]).run Try.prog ((W.alloc (.cells #[u] e)).alloc (.cells #[] e)) = .ok v1 w1 ∧
      (Builtin.append_ #[t, t] t #[v1, .slice (some ⟨W.heap.size, 0, none⟩) 1 1]).run Try.prog w1 = .ok (.slice (some ⟨g2, 0, none⟩) (p.length + 1) c2) w2 ∧
      RowV W.heap.size w2 (some ⟨g2, 0, none⟩) (p ++ [u]) ∧ Below W.heap.size W w2 ∧ Below W.heap.size W w1) := by
  have nw : ∀ (o o' : Array Value), Blk ((W.alloc (.cells o e)).alloc (.cells o' e)) W.heap.size o e ∧ Blk ((W.alloc (.cells o e)).alloc (.cells o' e)) (W.heap.size + 1) o' e ∧ Below W.heap.size W ((W.alloc (.cells o e)).alloc (.cells o' e)) := fun o o' => by
    refine ⟨Blk.alt (p := fun _ => False) (Blk.new W _ _) ((Alt.refl _ _).alloc _) id, ?_, below_al2 (below_al W _) _⟩
    have := Blk.new (W.alloc (.cells o e)) o' e
    rwa [World.size_alloc] at this
  refine ⟨copy_one t e i z bytes ht hi hz hs hby hb8 hzs p h1 u h2 a c W hp ha hn, ?_, ?_⟩
  · obtain ⟨n1, n2, n3⟩ := nw #[] #[u]
    exact copy_one2 t e i z bytes ht hi hz hs hby hb8 hzs p h1 u h2 a c W _ W.heap.size (W.heap.size + 1) n1 n2 (by omega) (Nat.le_refl _) n3 hp ha hn
  · obtain ⟨n1, n2, n3⟩ := nw #[u] #[]
    exact copy_one2 t e i z bytes ht hi hz hs hby hb8 hzs p h1 u h2 a c W _ (W.heap.size + 1) W.heap.size n2 n1 (by omega) (by omega) n3 hp ha hn

/-- Rows behind rows. -/
theorem app_rows (t e : TypeId) (i : TypeInfo) (ht : Try.prog.underlying t = some (.slice e)) (hi : Try.prog.info? e = some i) (hz : i.zero = some (.slice none 0 0)) (hs : i.size = 1) (hby : i.bytes = 24)
    {bo br b3 : Nat} {w Wr W : World} {v v3 : Value} {L L' : List (List Value)} (hO : OwnLL e bo br Wr v L) (hb : Below Wr.heap.size Wr W) (hO3 : OwnLL e b3 Wr.heap.size W v3 L') (hne : L' ≠ []) (hbr : br ≤ Wr.heap.size) (hbo : bo ≤ W.heap.size)
    (hlen : L.length + L'.length ≤ 1000000) (hB : Below w.heap.size w W) (hw : w.heap.size ≤ bo) :
    ∃ v4 w4, (Builtin.append_ #[t, t] t #[v, v3]).run Try.prog W = .ok v4 w4 ∧ OwnLL e bo br w4 v4 (L ++ L') ∧ Below w.heap.size w w4 := by
  obtain ⟨hs0, ho, hr⟩ := hO.lo hb
  obtain ⟨hsW, hoW, _⟩ := hO
  obtain ⟨a3, c3, rfl, hL3, _⟩ := hO3.out
  obtain ⟨l0, hl0⟩ : ∃ l, L'[0]? = some l := by
    cases hL : L' with
    | nil => exact absurd hL hne
    | cons x y => exact ⟨x, rfl⟩
  obtain ⟨g3, o3, _, _, rfl, _⟩ := hL3 0 l0 hl0
  obtain ⟨hs', x1, x2, x3, x4⟩ := hL3.heads v.ownBlock (fun k hk e => by have := (hoW.lt k e).2; omega)
  obtain ⟨v4, w4, hr4, ho4, hg4, _, hat⟩ := run_append_own_at (P := Try.prog) (w := W) bo t t e i (.slice none 0 0) 1 24 ht hi hz hs hby rfl (by decide) v L.length hs0 ho ⟨g3, o3, none⟩ L'.length c3 hs' x1 x2 x3 (by unfold maxLen; omega) (Nat.le_trans (Nat.mul_le_mul hlen (Nat.le_refl 24)) (by decide)) hbo
  exact ⟨v4, w4, hr4, OwnLL.push ho hr (x4.mono hbr) hg4 ho4 hat, below_grow hB hg4 (fun k e => Nat.le_trans hw (ho.lt k e).1)⟩

theorem flat_take {β : Type} (f : Nat → List β) (i : Nat) : (List.range (i + 1)).flatMap f = (List.range i).flatMap f ++ f i := by
  rw [List.range_succ, List.flatMap_append]; simp

theorem flat_le {β : Type} (f : Nat → List β) {i N : Nat} (h : i ≤ N) : ((List.range i).flatMap f).length ≤ ((List.range N).flatMap f).length := by
  obtain ⟨k, rfl⟩ : ∃ k, N = i + k := ⟨N - i, by omega⟩
  clear h
  induction k with
  | zero => exact Nat.le_refl _
  | succ k ih => rw [← Nat.add_assoc, flat_take, List.length_append]; omega

/-- What a function returns that makes lists of lists. -/
def RetLL (e : TypeId) (base : Nat) (L : List (List Value)) (w : World) (x : Ending) (w' : World) : Prop := ∃ v, x = .returned v ∧ OwnLL e w.heap.size base w' v L ∧ Below w.heap.size w w'

theorem LLAt.mono {base base' : Nat} {W : World} {a : Option Addr} {L : List (List Value)} (h : LLAt base W a L) (hb : base' ≤ base) : LLAt base' W a L := fun i l hl => by
  obtain ⟨g, o, a', c', e, h1, h2⟩ := h i l hl
  exact ⟨g, o, a', c', e, h1, h2.mono hb⟩

theorem RowsOk.one' {base : Nat} {W : World} {ob : Option Nat} {a : Option Addr} {c : Nat} {l : List Value} (h : RowV base W a l) (ho : ∀ k, ob = some k → k < base) : RowsOk base W ob [l] [Value.slice a l.length c] := fun i l' hl => by
  cases i with
  | zero =>
    cases hl
    exact ⟨a, c, rfl, fun j u hu => by
      obtain ⟨g, o, e, h1, h2⟩ := h j u hu
      exact ⟨g, o, e, h1, h2, fun he => by have := ho g he; omega⟩⟩
  | succ i => simp at hl

/-- A row behind rows. -/
theorem app_row1 (t e : TypeId) (i : TypeInfo) (ht : Try.prog.underlying t = some (.slice e)) (hi : Try.prog.info? e = some i) (hz : i.zero = some (.slice none 0 0)) (hs : i.size = 1) (hby : i.bytes = 24)
    {bo br : Nat} {w Wr W : World} {v : Value} {L : List (List Value)} {l : List Value} {a : Option Addr} {c n : Nat} (hnl : l.length = n) (hO : OwnLL e bo br Wr v L) (hb : Below Wr.heap.size Wr W) (hR : RowV Wr.heap.size W a l) (hbr : br ≤ Wr.heap.size) (hbo : bo ≤ W.heap.size)
    (hlen : L.length + 1 ≤ 100000000) (hB : Below w.heap.size w W) (hw : w.heap.size ≤ bo) :
    ∃ v4 w4, (Builtin.append_ #[t, t] t #[v, .slice (some ⟨W.heap.size, 0, none⟩) 1 1]).run Try.prog (W.alloc (.cells #[.slice a n c] e)) = .ok v4 w4 ∧ OwnLL e bo br w4 v4 (L ++ [l]) ∧ Below w.heap.size w w4 := by
  subst hnl
  obtain ⟨hs0, ho, hr⟩ := hO.lo hb
  obtain ⟨hsW, hoW, _⟩ := hO
  have bA := below_al W (.cells #[.slice a l.length c] e)
  obtain ⟨v4, w4, hr4, ho4, hg4, _, hat⟩ := run_append_own_at (P := Try.prog) (w := W.alloc (.cells #[.slice a l.length c] e)) bo t t e i (.slice none 0 0) 1 24 ht hi hz hs hby rfl (by decide) v L.length hs0 (ho.alloc _) ⟨W.heap.size, 0, none⟩ 1 1 [.slice a l.length c] rfl (World.news_of_block (cs := #[.slice a l.length c]) (Blk.new W _ _)) (by simp [Value.oneCell']) (by unfold maxLen; omega) (Nat.le_trans (Nat.mul_le_mul hlen (Nat.le_refl 24)) (by decide)) (Nat.le_trans hbo bA.size)
  have hR1 := (RowsOk.one' (ob := v.ownBlock) (c := c) hR (fun k e => (hoW.lt k e).2)).lo bA
  exact ⟨v4, w4, hr4, OwnLL.push (ho.alloc _) (hr.lo bA) (hR1.mono hbr) hg4 ho4 hat, below_grow (below_al2 hB _) hg4 (fun k e => Nat.le_trans hw (ho.lt k e).1)⟩

theorem below_own {w W W' : World} {v : Value} {n : Nat} {e : TypeId} {xs : List Value} (hB : Below w.heap.size w W) (ho : W.ownsRow w.heap.size e 1 v n xs) (hg : W.grownBy W' v.ownBlock) : Below w.heap.size w W' :=
  hB.grown hg hB.size (fun k e => (ho.lt k e).1)

theorem own_len {w : World} {base n : Nat} {e : TypeId} {v : Value} {xs : List Value} (h : w.ownsRow base e 1 v n xs) : ∃ a c, v = .slice a n c := by
  rcases h.2 with ⟨h1, h0⟩ | ⟨g, cap, cur, hv, hb, hg, hc, hm, _⟩
  · exact ⟨none, 0, by rw [h1, h0]⟩
  · exact ⟨_, _, hv⟩

/-- .. that held two of them. -/
theorem leave_ret2 {P : Program} {fn : Func} {R : Ending → World → Prop} {tmps : Array Value} {D2 D1 : Nat} {W : World} {v : Value} (hK : W.heap[D2]? = some (.deferred (some []))) (hK1 : W.heap[D1]? = some (.deferred (some []))) (hne : D1 ≠ D2)
    (hr : (results fn tmps).run P ((W.putObj D2 (.deferred none)).putObj D1 (.deferred none)) = .ok v ((W.putObj D2 (.deferred none)).putObj D1 (.deferred none))) (hR : R (.returned v) ((W.putObj D2 (.deferred none)).putObj D1 (.deferred none))) :
    bodyPostM Fence.wide 0 P fn R .ret { tmps := tmps, defers := [{ target := .collected D2, args := #[] }, { target := .collected D1, args := #[] }] } W :=
  ⟨by simp, .inl ⟨_, _, rfl, run_takeDeferred hK, ⟨by simp, .inl ⟨_, _, rfl, run_takeDeferred ((World.putObj_heap_other hne).trans hK1), ⟨v, hr, hR⟩⟩⟩⟩⟩

/-- .. that held none of them yet. -/
theorem bodyPostM_ret0 {P : Program} {fn : Func} {R : Ending → World → Prop} {tmps : Array Value} {W : World} {v : Value} (hr : (results fn tmps).run P W = .ok v W) (hR : R (.returned v) W) :
    bodyPostM Fence.wide 0 P fn R .ret { tmps := tmps, defers := [] } W := ⟨v, hr, hR⟩

end Go.Proofs.Ytbbndcfnpfedpaa
