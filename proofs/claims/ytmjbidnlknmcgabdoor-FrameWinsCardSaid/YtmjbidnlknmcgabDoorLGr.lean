/- The contract of the law FrameGreatest. -/
import Derived.Test.YtmjbidnlknmcgabDoorLWk
set_option linter.unusedVariables false
set_option linter.unusedSimpArgs false
namespace Go.Proofs.YtmjbidnlknmcgabDoor
open Go.RowKit

theorem rdE_bad {l : Lw} {bs : List Int} (h : okB l = false) : rdE l bs = 1 := by simp [rdE, errS, h]
theorem rdE_nil {l : Lw} (h : okB l = true) : rdE l [] = 0 := by simp [rdE, errS, h, fol]
theorem balls_nil (w : World) : BallsAt w none [] := fun i v h => by simp at h

/-- A law in its block. -/
structure LB (W : World) (b : Nat) (l : Lw) : Prop where
  blk : W.heap[b]? = some (.cells #[.int .i64 l.fr, .int .i64 l.pn, .int .i64 l.bl, .int .i64 l.tp] 23 (0, 0))

theorem LB.lo {W W' : World} {b : Nat} {l : Lw} (h : Hid (LB W b l)) (hb : Below W.heap.size W W') : Hid (LB W' b l) := Lib.hid ⟨(hb.block _ (lt_of_block h.out.blk)).trans h.out.blk⟩
theorem LB.al {W : World} {b : Nat} {l : Lw} (h : Hid (LB W b l)) (o : Obj) : Hid (LB (W.alloc o) b l) := LB.lo h (below_al W o)
theorem LB.at {W : World} {b : Nat} {l : Lw} (h : Hid (LB W b l)) : W.cell? ⟨b, 0, none⟩ = some (.int .i64 l.fr) ∧ W.cell? ⟨b, 1, none⟩ = some (.int .i64 l.pn) ∧ W.cell? ⟨b, 2, none⟩ = some (.int .i64 l.bl) ∧ W.cell? ⟨b, 3, none⟩ = some (.int .i64 l.tp) := by
  have h := h.out.blk
  exact ⟨by simp [World.cell?, h], by simp [World.cell?, h], by simp [World.cell?, h], by simp [World.cell?, h]⟩

structure RG (W : World) (b : Nat) (lo hi : Int) : Prop where
  blk : W.heap[b]? = some (.cells #[.int .i64 lo, .int .i64 hi] 48 (0, 0))
theorem RG.lo' {W W' : World} {b : Nat} {lo hi : Int} (h : Hid (RG W b lo hi)) (hb : Below W.heap.size W W') : Hid (RG W' b lo hi) := Lib.hid ⟨(hb.block _ (lt_of_block h.out.blk)).trans h.out.blk⟩
theorem RG.at {W : World} {b : Nat} {lo hi : Int} (h : Hid (RG W b lo hi)) : W.cell? ⟨b, 0, none⟩ = some (.int .i64 lo) ∧ W.cell? ⟨b, 1, none⟩ = some (.int .i64 hi) := by
  have h := h.out.blk
  exact ⟨by simp [World.cell?, h], by simp [World.cell?, h]⟩

end Go.Proofs.YtmjbidnlknmcgabDoor
