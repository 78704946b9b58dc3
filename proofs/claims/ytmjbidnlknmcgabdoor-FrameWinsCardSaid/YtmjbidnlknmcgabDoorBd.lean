/- The contract of the law FrameBads. -/
import Derived.Test.YtmjbidnlknmcgabDoorPl3
set_option linter.unusedVariables false
set_option linter.unusedSimpArgs false
namespace Go.Proofs.YtmjbidnlknmcgabDoor
open Go.RowKit

/-- The law's own block, and nothing that was there has turned. -/
structure WL (w W : World) (l : Lw) : Prop where
  lb : W.heap[w.heap.size]? = some (.cells #[.int .i64 l.fr, .int .i64 l.pn, .int .i64 l.bl, .int .i64 l.tp] 23 (0, 0))
  bl : Below w.heap.size w W

theorem WL.lo {w W W' : World} {l : Lw} (h : Hid (WL w W l)) (hb : Below W.heap.size W W') : Hid (WL w W' l) := Lib.hid ⟨(hb.block _ (lt_of_block h.out.lb)).trans h.out.lb, h.out.bl.trans (hb.mono h.out.bl.size)⟩
theorem WL.al {w W : World} {l : Lw} (h : Hid (WL w W l)) (o : Obj) : Hid (WL w (W.alloc o) l) := WL.lo h (below_al W o)
theorem WL.start (w : World) (l : Lw) : Hid (WL w (w.alloc (.cells #[.int .i64 l.fr, .int .i64 l.pn, .int .i64 l.bl, .int .i64 l.tp] 23)) l) := Lib.hid ⟨heap_alloc_new w _, below_al w _⟩
theorem WL.at {w W : World} {l : Lw} (h : Hid (WL w W l)) : W.cell? ⟨w.heap.size, 0, none⟩ = some (.int .i64 l.fr) ∧ W.cell? ⟨w.heap.size, 1, none⟩ = some (.int .i64 l.pn) ∧ W.cell? ⟨w.heap.size, 2, none⟩ = some (.int .i64 l.bl) ∧ W.cell? ⟨w.heap.size, 3, none⟩ = some (.int .i64 l.tp) := l4_of h.out.lb

end Go.Proofs.YtmjbidnlknmcgabDoor
