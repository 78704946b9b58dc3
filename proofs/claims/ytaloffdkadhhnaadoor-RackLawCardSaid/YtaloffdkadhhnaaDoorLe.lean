/- The contracts of least and greatest, of two numbers. -/
import Derived.Test.YtaloffdkadhhnaaDoorLw
set_option linter.unusedVariables false
set_option linter.unusedSimpArgs false
namespace Go.Proofs.YtaloffdkadhhnaaDoor
open Go.RowKit Go.Shelf

attribute [local go_sem] Oper.semAt_some

set_option maxRecDepth 100000 in
set_option maxHeartbeats 2000000 in
theorem least_any (x y : Int) (g o c : Nat) (w : World) (hy : w.cell? ⟨g, o, none⟩ = some (.int .i64 y)) :
    Calls Tryd.prog 72 #[.int .i64 x, .slice (some ⟨g, o, none⟩) 1 c] w fun e w' => e = .returned (.int .i64 (min x y)) ∧ w = w' := by
  go_enter Tryd.func72, Tryd.ntmps72
  go_wp2_with fail
  refine wp_loop_rounds 2 ?_
  rw [rounds_succ]; go_wp2_with fail
  all_goals rw [rounds_succ]
  all_goals go_wp2_with fail
  all_goals refine bodyPost_ret (results_tmp rfl _ _ _) rfl ⟨?_, rfl⟩
  all_goals
    show Ending.returned (Value.int .i64 _) = _
    congr 2
    omega

set_option maxRecDepth 100000 in
set_option maxHeartbeats 2000000 in
theorem greatest_any (x y : Int) (g o c : Nat) (w : World) (hy : w.cell? ⟨g, o, none⟩ = some (.int .i64 y)) :
    Calls Tryd.prog 74 #[.int .i64 x, .slice (some ⟨g, o, none⟩) 1 c] w fun e w' => e = .returned (.int .i64 (max x y)) ∧ w = w' := by
  go_enter Tryd.func74, Tryd.ntmps74
  go_wp2_with fail
  refine wp_loop_rounds 2 ?_
  rw [rounds_succ]; go_wp2_with fail
  all_goals rw [rounds_succ]
  all_goals go_wp2_with fail
  all_goals refine bodyPost_ret (results_tmp rfl _ _ _) rfl ⟨?_, rfl⟩
  all_goals
    show Ending.returned (Value.int .i64 _) = _
    congr 2
    omega

end Go.Proofs.YtaloffdkadhhnaaDoor
