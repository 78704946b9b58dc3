/- What stays as it was while a statement that draws its order allocates, calls and appends. -/
import Derived.Test.YtmjbidnlknmcgabDoorFw
import Derived.Deep.AppendLies
set_option linter.unusedVariables false
set_option linter.unusedSimpArgs false
namespace Go.Proofs.YtmjbidnlknmcgabDoor
open Go.RowKit

theorem WL.dr {w W : World} {l : Lw} (h : Hid (WL w W l)) : Hid (WL w W.drew l) := WL.lo h ⟨rfl, rfl, rfl, Nat.le_refl _, fun _ _ => rfl⟩
theorem WL.sz {w W : World} {l : Lw} (h : Hid (WL w W l)) : w.heap.size < W.heap.size := lt_of_block h.out.lb

/-- A game's block that is new. -/
theorem GK.new (W : World) (fv qv : Value) (st : Int) (dn : Bool) : Hid (GK (W.alloc (.cells #[fv, qv, .int .i64 st, .bool dn] 38)) W.heap.size fv qv st dn) := Lib.hid ⟨heap_alloc_new W _⟩
theorem GK.new1 (W : World) (o : Obj) (fv qv : Value) (st : Int) (dn : Bool) : Hid (GK ((W.alloc o).alloc (.cells #[fv, qv, .int .i64 st, .bool dn] 38)) (W.heap.size + 1) fv qv st dn) := Lib.hid ⟨by
  have e : W.heap.size + 1 = (W.alloc o).heap.size := by simp
  rw [e]
  exact heap_alloc_new _ _⟩
theorem GK.dr {W : World} {g : Nat} {fv qv : Value} {st : Int} {dn : Bool} (h : Hid (GK W g fv qv st dn)) : Hid (GK W.drew g fv qv st dn) := GK.lo h ⟨rfl, rfl, rfl, Nat.le_refl _, fun _ _ => rfl⟩
theorem GK.al {W : World} {g : Nat} {fv qv : Value} {st : Int} {dn : Bool} (h : Hid (GK W g fv qv st dn)) (o : Obj) : Hid (GK (W.alloc o) g fv qv st dn) := GK.lo h (below_al W o)
theorem GK.fz {W : World} {g : Nat} {fv qv : Value} {st : Int} {dn : Bool} (h : Hid (GK W g fv qv st dn)) : (W.cell? ⟨g, 0, none⟩ = some fv ∧ W.cell? ⟨g, 1, none⟩ = some qv ∧ W.cell? ⟨g, 2, none⟩ = some (.int .i64 st) ∧ W.cell? ⟨g, 3, none⟩ = some (.bool dn)) ∧ W.frozen? ⟨g, 0, none⟩ = false ∧ W.frozen? ⟨g, 1, none⟩ = false ∧ W.frozen? ⟨g, 2, none⟩ = false ∧ W.frozen? ⟨g, 3, none⟩ = false := by
  refine ⟨GK.at h, ?_⟩
  have h := h.out.blk
  exact ⟨by simp [World.frozen?, h], by simp [World.frozen?, h], by simp [World.frozen?, h], by simp [World.frozen?, h]⟩
theorem GK.put {W : World} {g : Nat} {fv qv fv' qv' : Value} {st st' : Int} {dn dn' : Bool} (h : Hid (GK W g fv qv st dn)) : Hid (GK ((((W.setCell ⟨g, 0, none⟩ fv').setCell ⟨g, 1, none⟩ qv').setCell ⟨g, 2, none⟩ (.int .i64 st')).setCell ⟨g, 3, none⟩ (.bool dn')) g fv' qv' st' dn') :=
  Lib.hid ⟨by simpa using blk_setCell (blk_setCell (blk_setCell (blk_setCell h.out.blk 0 fv') 1 qv') 2 (.int .i64 st')) 3 (.bool dn')⟩
theorem GK.grow {W W' : World} {g : Nat} {fv qv : Value} {st : Int} {dn : Bool} {row : Option Nat} (h : Hid (GK W g fv qv st dn)) (hg : W.grownBy W' row) (hne : row ≠ some g) : Hid (GK W' g fv qv st dn) :=
  Lib.hid ⟨(hg.block g (lt_of_block h.out.blk) (Ne.symm hne)).trans h.out.blk⟩
theorem WL.put {w W : World} {l : Lw} (h : Hid (WL w W l)) {g : Nat} (hg : w.heap.size < g) (a b c d : Value) : Hid (WL w ((((W.setCell ⟨g, 0, none⟩ a).setCell ⟨g, 1, none⟩ b).setCell ⟨g, 2, none⟩ c).setCell ⟨g, 3, none⟩ d) l) :=
  WL.set (WL.set (WL.set (WL.set h hg a) hg b) hg c) hg d

/-- Nothing that was there has turned. -/
structure BL (w W : World) : Prop where
  b : Below w.heap.size w W
theorem BL.lo {w W W' : World} (h : Hid (BL w W)) (hb : Below W.heap.size W W') : Hid (BL w W') := Lib.hid ⟨h.out.b.trans (hb.mono h.out.b.size)⟩
theorem BL.al {w W : World} (h : Hid (BL w W)) (o : Obj) : Hid (BL w (W.alloc o)) := BL.lo h (below_al W o)
theorem BL.dr {w W : World} (h : Hid (BL w W)) : Hid (BL w W.drew) := BL.lo h ⟨rfl, rfl, rfl, Nat.le_refl _, fun _ _ => rfl⟩
theorem BL.put {w W : World} (h : Hid (BL w W)) {g : Nat} (hg : w.heap.size ≤ g) (a b c d : Value) : Hid (BL w ((((W.setCell ⟨g, 0, none⟩ a).setCell ⟨g, 1, none⟩ b).setCell ⟨g, 2, none⟩ c).setCell ⟨g, 3, none⟩ d)) :=
  Lib.hid ⟨(((h.out.b.setCell (p := ⟨g, 0, none⟩) hg a).setCell (p := ⟨g, 1, none⟩) hg b).setCell (p := ⟨g, 2, none⟩) hg c).setCell (p := ⟨g, 3, none⟩) hg d⟩
theorem BL.start (w : World) : Hid (BL w w) := Lib.hid ⟨Below.refl _ _⟩
theorem BL.law {w0 w W : World} {l : Lw} (h : Hid (BL w W)) (a : Hid (WL w0 w l)) : W.cell? ⟨w0.heap.size, 0, none⟩ = some (.int .i64 l.fr) ∧ W.cell? ⟨w0.heap.size, 1, none⟩ = some (.int .i64 l.pn) ∧ W.cell? ⟨w0.heap.size, 2, none⟩ = some (.int .i64 l.bl) ∧ W.cell? ⟨w0.heap.size, 3, none⟩ = some (.int .i64 l.tp) := WL.at (WL.lo a h.out.b)
theorem BL.grow {w W W' W0 : World} {base n : Nat} {e : TypeId} {v : Value} {xs : List Value} (h : Hid (BL w W)) (ho : W0.ownsRow base e 1 v n xs) (hB : w.heap.size ≤ base) (hg : W.grownBy W' v.ownBlock) : Hid (BL w W') :=
  Lib.hid ⟨h.out.b.grown hg h.out.b.size (fun k e => Nat.le_trans hB (ho.lt k e).1)⟩

/-- A block of one number that is new. -/
structure NB (W : World) (B : Nat) (x : Int) : Prop where
  blk : W.heap[B]? = some (.cells #[.int .i64 x] 3 (0, 0))
theorem NB.lo {W W' : World} {B : Nat} {x : Int} (h : Hid (NB W B x)) (hb : Below W.heap.size W W') : Hid (NB W' B x) := Lib.hid ⟨(hb.block _ (lt_of_block h.out.blk)).trans h.out.blk⟩
theorem NB.al {W : World} {B : Nat} {x : Int} (h : Hid (NB W B x)) (o : Obj) : Hid (NB (W.alloc o) B x) := NB.lo h (below_al W o)
theorem NB.dr {W : World} {B : Nat} {x : Int} (h : Hid (NB W B x)) : Hid (NB W.drew B x) := NB.lo h ⟨rfl, rfl, rfl, Nat.le_refl _, fun _ _ => rfl⟩
theorem NB.new (W : World) (x : Int) : Hid (NB (W.alloc (.cells #[.int .i64 x] 3)) W.heap.size x) := Lib.hid ⟨heap_alloc_new W _⟩
theorem NB.new1 (W : World) (o : Obj) (x : Int) : Hid (NB ((W.alloc o).alloc (.cells #[.int .i64 x] 3)) (W.heap.size + 1) x) := Lib.hid ⟨by
  have e : W.heap.size + 1 = (W.alloc o).heap.size := by simp
  rw [e]
  exact heap_alloc_new _ _⟩
theorem NB.news {W : World} {B : Nat} {x : Int} (h : Hid (NB W B x)) : ∀ j u, [Value.int .i64 x][j]? = some u → W.cell? ((⟨B, 0, none⟩ : Addr).add j) = some u := World.news_of_block h.out.blk

theorem own_ne {w : World} {base n b : Nat} {e : TypeId} {v : Value} {xs : List Value} (h : w.ownsRow base e 1 v n xs) (hb : b < base) : v.ownBlock ≠ some b := fun e => by
  have := (h.lt b e).1
  omega
theorem own_ne2 {w : World} {base n b : Nat} {e : TypeId} {v : Value} {xs : List Value} (h : w.ownsRow base e 1 v n xs) (hb : w.heap.size ≤ b) : Hid (v.ownBlock ≠ some b) := Lib.hid fun e => by
  have := (h.lt b e).2
  omega
theorem GK.lst {W W' : World} {g n : Nat} {fv qv v : Value} {st : Int} {dn : Bool} {e : TypeId} {xs : List Value} (h : Hid (GK W g fv qv st dn)) (hb : Below W.heap.size W W') (ho : W'.ownsRow W.heap.size e 1 v n xs) : Hid (GK W' g fv qv st dn) ∧ Hid (v.ownBlock ≠ some g) :=
  ⟨GK.lo h hb, Lib.hid (own_ne ho (lt_of_block h.out.blk))⟩
theorem own_al {w : World} {base n : Nat} {e : TypeId} {v : Value} {xs : List Value} (h : w.ownsRow base e 1 v n xs) (o : Obj) : (w.alloc o).ownsRow base e 1 v n xs := own_below h (below_al w o)

theorem balls_take {w : World} {a : Option Addr} {bs : List Int} (h : BallsAt w a bs) (n : Nat) : BallsAt w a (bs.take n) := by
  intro i v hv
  rw [List.getElem?_take] at hv
  split at hv
  · exact h i v hv
  · cases hv

theorem bl_base {w W W' : World} (h : Hid (BL w W)) (hb : Below W.heap.size W W') : w.heap.size ≤ W.heap.size := h.out.b.size
theorem sn_balls {W : World} {base n c : Nat} {a : Option Addr} {xs ys : List Int} {x : Int} (hy : xs ++ [x] = ys) (h : W.ownsRow base 3 1 (.slice a n c) n (xs.map (Value.int .i64) ++ [Value.int .i64 x])) : Hid (BallsAt W a ys) :=
  Lib.hid (by subst hy; exact own_ballsAt (by rw [List.map_append]; exact h))

/-- Here an 'append' comes up. -/
theorem append_here {P : Program} {ops : Array Oper} {d : Option Tmp} {s x : Operand} {t ty : TypeId} {p : String} {af : Array Edge} {a : Act} {w : World} {K : Act → World → Prop} {Q : Exit → Act → World → Prop} {E : Prop}
    (h : if Region.wanted { dst := d, op := .call { callee := .builtin .append, args := #[s, x], argTypes := #[t, t] }, type := ty, pos := p, after := af, guard := none } (yielded ops a.tmps) = true then Oper.wp P { dst := d, op := .call { callee := .builtin .append, args := #[s, x], argTypes := #[t, t] }, type := ty, pos := p, after := af, guard := none } a w K Q else E) :
    if Region.wanted { dst := d, op := .call { callee := .builtin .append, args := #[s, x], argTypes := #[t, t] }, type := ty, pos := p, after := af, guard := none } (yielded ops a.tmps) = true then Oper.wp P { dst := d, op := .call { callee := .builtin .append, args := #[s, x], argTypes := #[t, t] }, type := ty, pos := p, after := af, guard := none } a w K Q else E := h

end Go.Proofs.YtmjbidnlknmcgabDoor
