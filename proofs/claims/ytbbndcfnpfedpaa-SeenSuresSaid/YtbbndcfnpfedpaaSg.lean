/- The contracts of balls, and of how many pins stood. -/
import Derived.Test.YtbbndcfnpfedpaaSf
set_option linter.unusedVariables false
set_option linter.unusedSimpArgs false
namespace Go.Proofs.Ytbbndcfnpfedpaa
open Go.RowKit

attribute [local go_sem] Oper.semAt_some

set_option maxHeartbeats 1000000 in
theorem behind1_any (a b : Int) (w : World) : Calls Try.prog 88 #[.agg #[.int .i64 a, .int .i64 b]] w fun e w' => e = .returned (.int .i64 a) ∧ Below w.heap.size w w' := by
  have B0 := Lib.hid (below_al w (.cells #[.int .i64 a, .int .i64 b] 105))
  go_enter Try.func88, Try.ntmps88
  go_wp2_with fail
  go_returns
  exact ⟨rfl, B0.out⟩
set_option maxHeartbeats 1000000 in
theorem behind2_any (a b : Int) (w : World) : Calls Try.prog 89 #[.agg #[.int .i64 a, .int .i64 b]] w fun e w' => e = .returned (.int .i64 b) ∧ Below w.heap.size w w' := by
  have B0 := Lib.hid (below_al w (.cells #[.int .i64 a, .int .i64 b] 105))
  go_enter Try.func89, Try.ntmps89
  go_wp2_with fail
  go_returns
  exact ⟨rfl, B0.out⟩
def ballsV : Value := .agg #[.int .i64 0, .func (.func 88) #[] #[], .int .i64 1, .func (.func 89) #[] #[]]
set_option maxHeartbeats 1000000 in
theorem balls_any (w : World) : Calls Try.prog 79 #[] w fun e w' => e = .returned ballsV ∧ Below w.heap.size w w' := by
  have R0 := Lib.hid (fun o => below_al w o)
  have HV := Lib.hid (show ballsV = .agg #[.int .i64 0, .func (.func 88) #[] #[], .int .i64 1, .func (.func 89) #[] #[]] from rfl)
  go_enter Try.func79, Try.ntmps79
  go_wp2_with fail
  go_returns
  exact ⟨rfl, R0.out _⟩


end Go.Proofs.Ytbbndcfnpfedpaa
