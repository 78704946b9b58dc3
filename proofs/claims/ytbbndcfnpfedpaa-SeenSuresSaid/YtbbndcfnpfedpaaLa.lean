/- A region that draws its order, whose operations read what lay when it began, and whose callees make memory of their own: one walk, in the order of the text. -/
import Derived.Test.YtbbndcfnpfedpaaIt
import Derived.BigQuiet
import Derived.Deep.QuietTactic
set_option linter.unusedVariables false
set_option linter.unusedSimpArgs false
namespace Go.Proofs.Ytbbndcfnpfedpaa
open Go.RowKit

/-- A world in which all that lay in w lies as it lay. -/
structure Late (w : World) where
  W : World
  b : Below w.heap.size w W

instance (w : World) : Nonempty (Late w) := ⟨⟨w, Below.refl _ _⟩⟩

theorem new_cell (w : World) {cs : Array Value} {t : TypeId} {i : Nat} {v : Value} (h : cs[i]? = some v) : (w.alloc (.cells cs t)).cell? ⟨w.heap.size, i, none⟩ = some v := by
  have e := World.alloc_heap_new w (.cells cs t)
  unfold World.cell?
  simp only [e]
  simpa using h
theorem new_fr (w : World) (cs : Array Value) (t : TypeId) (i : Nat) (h : i < cs.size) : (w.alloc (.cells cs t)).frozen? ⟨w.heap.size, i, none⟩ = false := by
  have e := World.alloc_heap_new w (.cells cs t)
  unfold World.frozen?
  simp only [e]
  simp

theorem wp_region_late {P : Program} {id : Nat} {Q : Exit → Act → World → Prop} {a : Act} {w : World} {l : List Oper} (w0 : World) (h0 : Below w0.heap.size w0 w) (hm : P.follows .mixedOrders = true) (hB : Region.lexB .any l.toArray = true)
    (h : wpQuiet P l.toArray (fun W => ∃ u : Late w0, W = u.W) (fun a' => ∀ W, (∃ u : Late w0, W = u.W) → Q .normal a' W) l a) : (Code.region id l.toArray true).wp P Q a w :=
  wp_region_quiet (C := fun W => ∃ u : Late w0, W = u.W) hm hB ⟨⟨_, Below.drew h0⟩, rfl⟩ (by simpa using h)

/-- A callee's contract, met in such a world. -/
theorem Calls.late {P : Program} {f : FuncId} {args : Array Value} {w0 : World} {u : Late w0} {v : Value}
    (h : Calls P f args u.W fun e w' => e = .returned v ∧ Below u.W.heap.size u.W w') : Calls P f args u.W fun e w'' => e = .returned v ∧ ∃ u' : Late w0, w'' = u'.W :=
  h.mono fun _ _ ⟨he, hb⟩ => ⟨he, ⟨_, u.b.trans (hb.mono u.b.size)⟩, rfl⟩
theorem Calls.late_same {P : Program} {f : FuncId} {args : Array Value} {w0 : World} {u : Late w0} {v : Value}
    (h : Calls P f args u.W fun e w' => e = .returned v ∧ u.W = w') : Calls P f args u.W fun e w'' => e = .returned v ∧ ∃ u' : Late w0, w'' = u'.W :=
  h.mono fun _ _ ⟨he, hb⟩ => ⟨he, u, hb.symm⟩

theorem Late.cell {w : World} (u : Late w) {b o : Nat} {v : Value} (h : w.cell? ⟨b, o, none⟩ = some v) (hb : b < w.heap.size) : u.W.cell? ⟨b, o, none⟩ = some v := (u.b.cell (p := ⟨b, o, none⟩) hb).trans h

end Go.Proofs.Ytbbndcfnpfedpaa
