/- The contracts of the reference's In, Pins and Rising. -/
import Derived.Test.YtaloffdkadhhnaaDoorPb
set_option linter.unusedVariables false
set_option linter.unusedSimpArgs false
namespace Go.Proofs.YtaloffdkadhhnaaDoor
open Go.RowKit

attribute [local go_sem] Oper.semAt_some

set_option maxHeartbeats 400000 in
theorem refIn_any (n lo hi : Int) (w : World) :
    Calls Tryd.prog 42 #[.int .i64 n, .int .i64 lo, .int .i64 hi] w fun e w' => e = .returned (.bool (inB n lo hi)) ∧ w = w' := by
  unfold inB
  by_cases h : lo ≤ n
  · go_enter Tryd.func42, Tryd.ntmps42
    go_wp2
    go_ret
    exact ⟨by simp [h], rfl⟩
  · have h' : n < lo := by omega
    go_enter Tryd.func42, Tryd.ntmps42
    go_wp2
    go_ret
    exact ⟨by rw [decide_eq_false (show ¬ lo ≤ n by omega)]; rfl, rfl⟩

set_option maxHeartbeats 400000 in
theorem refPins_any (r : Rk) (w : World) (h1 : 1 ≤ r.rows) (h2 : r.rows ≤ 4) :
    Calls Tryd.prog 23 #[r.val] w fun e w' => e = .returned (.int .i64 (pinsN r.rows)) ∧ Below w.heap.size w w' := by
  obtain ⟨rows, mid, gap, reach, la, lc, ls⟩ := r
  have h : rows = 1 ∨ rows = 2 ∨ rows = 3 ∨ rows = 4 := by simp only at h1 h2; omega
  unfold Rk.val
  rcases h with rfl | rfl | rfl | rfl <;>
  · clear h1 h2
    go_enter Tryd.func23, Tryd.ntmps23
    go_wp2
    go_ret
    exact ⟨rfl, (Below.refl _ _).alloc (Nat.le_refl _) _⟩

end Go.Proofs.YtaloffdkadhhnaaDoor
