/- The contract of the law's Thin. -/
import Derived.Test.YtaloffdkadhhnaaDoorLi
set_option linter.unusedVariables false
set_option linter.unusedSimpArgs false
namespace Go.Proofs.YtaloffdkadhhnaaDoor
open Go.RowKit

attribute [local go_sem] Oper.semAt_some

def thinB (r : Rk) (n m : Nat) : Bool := decide (r.ls.length ≤ 16) && (decide (n ≤ 15) && decide (m ≤ 8))

set_option maxRecDepth 100000 in
set_option maxHeartbeats 4000000 in
theorem thin_any (r : Rk) (a b : Option Addr) (n c m d : Nat) (w : World) :
    Calls Tryd.prog 15 #[r.val, .slice a n c, .slice b m d] w fun e w' => e = .returned (.bool (thinB r n m)) ∧ Below w.heap.size w w' := by
  have HR : Hid (thinB r n m = (decide (r.ls.length ≤ 16) && (decide (n ≤ 15) && decide (m ≤ 8)))) := Lib.hid rfl
  generalize thinB r n m = R at *
  have B0 := Lib.hid (below_al w (.cells (rCells r) 32))
  have B1 := Lib.hid (below_al w (.cells #[.int .i64 r.rows, .int .i64 r.mid, .int .i64 r.gap, .int .i64 r.reach, .slice r.la r.ls.length r.lc] 24))
  unfold Rk.val
  by_cases h1 : r.ls.length ≤ 16
  · have e1 : (r.ls.length : Int) ≤ 16 := by omega
    by_cases h2 : n ≤ 15
    · have e2 : (n : Int) ≤ 15 := by omega
      by_cases h3 : m ≤ 8
      · have e3 : (m : Int) ≤ 8 := by omega
        have HV := Lib.hid (show R = true by rw [HR.out]; simp [h1, h2, h3])
        clear h1 h2 h3 HR
        go_enter Tryd.func15, Tryd.ntmps15
        go_wp2_with fail
        go_ret
        exact ⟨by rw [HV.out]; first | done | rfl, B1.out⟩
      · have e3 : ¬ (m : Int) ≤ 8 := by omega
        have HV := Lib.hid (show R = false by rw [HR.out]; simp [h1, h2, h3])
        clear h1 h2 h3 HR
        go_enter Tryd.func15, Tryd.ntmps15
        go_wp2_with fail
        go_ret
        exact ⟨by rw [HV.out]; first | done | rfl, B1.out⟩
    · have e2 : ¬ (n : Int) ≤ 15 := by omega
      have HV := Lib.hid (show R = false by rw [HR.out]; simp [h1, h2])
      clear h1 h2 HR
      go_enter Tryd.func15, Tryd.ntmps15
      go_wp2_with fail
      go_ret
      exact ⟨by rw [HV.out]; first | done | rfl, B1.out⟩
  · have e1 : ¬ (r.ls.length : Int) ≤ 16 := by omega
    have HV := Lib.hid (show R = false by rw [HR.out]; simp [h1])
    clear h1 HR
    go_enter Tryd.func15, Tryd.ntmps15
    go_wp2_with fail
    go_ret
    exact ⟨by rw [HV.out]; first | done | rfl, B1.out⟩

end Go.Proofs.YtaloffdkadhhnaaDoor
