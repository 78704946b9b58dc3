/- The contracts of the reference: Begin, Fits, Throw. -/
import Derived.Test.YtmjbidnlknmcgabDoorRf
import Derived.Test.YtmjbidnlknmcgabDoorLWk
import Derived.Deep.DeepCutAuto
set_option linter.unusedVariables false
set_option linter.unusedSimpArgs false
namespace Go.Proofs.YtmjbidnlknmcgabDoor
open Go.RowKit

theorem refS_beg {l : Lw} (ok : l.Ok) : refS l (begS l) = ⟨0, 0, l.pn, true, l.bl⟩ := by
  have h : ¬ (begS l).f = l.fr := by have := ok.f1; simp [begS]; omega
  unfold refS
  rw [if_neg h]
  rfl

set_option maxRecDepth 100000 in
set_option maxHeartbeats 2000000 in
theorem begin_ref (l : Lw) (w : World) : Calls Tryd.prog 39 #[l.val] w fun e w' => e = .returned (St.val ⟨0, 0, l.pn, true, l.bl⟩) ∧ Below w.heap.size w w' := by
  unfold Lw.val St.val
  go_enter Tryd.func39, Tryd.ntmps39
  go_wp2_with fail
  refine bodyPost_ret (v := .agg #[.int .i64 0, .int .i64 0, .int .i64 l.pn, .bool true, .int .i64 l.bl]) (by simp [results, Tryd.results39, go_sem]) rfl ?_
  exact ⟨rfl, ((Below.refl _ _).alloc (Nat.le_refl _) _).alloc (by simp) _⟩

set_option maxRecDepth 100000 in
set_option maxHeartbeats 2000000 in
theorem fits_ref (l : Lw) (t : St) (k : Int) (w : World) : Calls Tryd.prog 40 #[l.val, t.val, .int .i64 k] w fun e w' => e = .returned (.bool (decide (t.f < l.fr) && (decide (-1 ≤ k) && decide (k ≤ t.s)))) ∧ Below w.heap.size w w' := by
  have HI := Lib.hid (fun n lo hi w => in_any n lo hi w)
  unfold Lw.val St.val
  by_cases h1 : t.f < l.fr
  · go_enter Tryd.func40, Tryd.ntmps40
    go_wp2_with fail
    refine (HI.out _ _ _ _).mono ?_
    rintro e w' ⟨rfl, rfl⟩
    go_wp2_with fail
    go_ret
    exact ⟨by simp [h1], ((Below.refl _ _).alloc (Nat.le_refl _) _).alloc (by simp) _⟩
  · have h1b : decide (t.f < l.fr) = false := by simpa using h1
    go_enter Tryd.func40, Tryd.ntmps40
    go_wp2_with fail
    go_ret
    exact ⟨by simp [h1], ((Below.refl _ _).alloc (Nat.le_refl _) _).alloc (by simp) _⟩

end Go.Proofs.YtmjbidnlknmcgabDoor
