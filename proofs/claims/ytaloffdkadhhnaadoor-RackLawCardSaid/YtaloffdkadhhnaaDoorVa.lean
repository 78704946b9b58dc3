/- The values of the chapter's example. -/
import Derived.Test.YtaloffdkadhhnaaDoorLs
import Derived.Test.YtaloffdkadhhnaaDoorKd
set_option linter.unusedVariables false
namespace Go.Proofs.YtaloffdkadhhnaaDoor

def tenR (a : Option Addr) (c : Nat) : Rk := ⟨4, 20, 3, 2, a, c, [⟨0, 1, true⟩, ⟨1, 3, false⟩, ⟨3, 6, true⟩]⟩
def thrownL : List Rg := [⟨21, 21⟩, ⟨22, 22⟩, ⟨22, 24⟩, ⟨23, 25⟩]
def allL : List Int := [0, 1, 2, 3, 4, 5, 6, 7, 8, 9]
set_option maxRecDepth 100000
theorem v_chk (a : Option Addr) (c : Nat) : chkE (tenR a c) [6, 9] = 0 := by kernel_rfl
theorem v_knd (a : Option Addr) (c : Nat) : kndN (tenR a c) [6, 9] = 3 := by kernel_rfl
theorem v_bal (a : Option Addr) (c : Nat) : balE (tenR a c) allL thrownL = 0 := by kernel_rfl
theorem v_sure (a : Option Addr) (c : Nat) : els (sureN (tenR a c) thrownL (setN allL)) = [0, 1, 2, 8] := by kernel_rfl
theorem v_may (a : Option Addr) (c : Nat) : els (dif (setN allL) (stayN (tenR a c) thrownL (setN allL))) = [0, 1, 2, 3, 4, 5, 6, 8] := by kernel_rfl
theorem v_lef (a : Option Addr) (c : Nat) : lefV (tenR a c) allL thrownL = ⟨3, 6⟩ := by kernel_rfl
theorem v_cvt (a : Option Addr) (c : Nat) : cvtR (tenR a c) [1, 3, 6] false = (⟨14, 1⟩, 0) := by kernel_rfl
end Go.Proofs.YtaloffdkadhhnaaDoor
