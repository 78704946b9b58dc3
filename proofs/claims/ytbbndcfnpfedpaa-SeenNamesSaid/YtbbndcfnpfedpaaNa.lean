/- SeenNames: the values of the chapter's example. -/
import Derived.Test.YtbbndcfnpfedpaaXb
import Derived.Test.YtbbndcfnpfedpaaWa
import Derived.Test.YtbbndcfnpfedpaaXg
set_option linter.unusedVariables false
set_option linter.unusedSimpArgs false
namespace Go.Proofs.Ytbbndcfnpfedpaa
open Go.RowKit Go.Shelf Go.Maps

def moreW : List Wd := nightW ++ [⟨0, 1, 1, 9, 9⟩]
def moreL (a : Option Addr) (c : Nat) : Lan := ⟨2, a, c, moreW⟩
def manyW : List Wd := List.replicate 31 ⟨0, 0, 0, 0, 0⟩
def manyL (a : Option Addr) (c : Nat) : Lan := ⟨2, a, c, manyW⟩
def oddW : List Wd := [⟨0, 0, 0, 3, 11⟩, ⟨0, 1, 0, 0, 2⟩, ⟨0, 0, 1, 2, 4⟩, ⟨1, 0, 1, 6, 6⟩, ⟨1, 0, 2, 0, 1⟩]
def farW : List Wd := [⟨2, 0, 0, 3, 3⟩, ⟨0, 1, 0, 0, 2⟩, ⟨0, 0, 1, 2, 4⟩, ⟨1, 0, 1, 6, 6⟩, ⟨1, 0, 2, 0, 1⟩]
def oddL (a : Option Addr) (c : Nat) : Lan := ⟨2, a, c, oddW⟩
def farL (a : Option Addr) (c : Nat) : Lan := ⟨2, a, c, farW⟩
theorem n_exp0 (a : Option Addr) (c : Nat) : explB (nightL a c) [0] = false := by kernel_rfl
theorem n_chk0 (a : Option Addr) (c : Nat) : chkE (nightL a c) [0] = 0 := by kernel_rfl
theorem n_many2 (a : Option Addr) (c : Nat) : manyN (nightL a c) [2] = 21 := by kernel_rfl
theorem n_gof2 (a : Option Addr) (c : Nat) : gofE (nightL a c) [2] = 0 := by kernel_rfl
theorem n_blmN (a : Option Addr) (c : Nat) : blmN (nightL a c) = 0 := by kernel_rfl
theorem n_blmE (a : Option Addr) (c : Nat) : blmE (nightL a c) = 7 := by kernel_rfl
theorem n_sure1 (a : Option Addr) (c : Nat) : sureL (nightL a c) [1] = [(0, 0)] := by kernel_rfl
theorem n_mblN (a : Option Addr) (c : Nat) : blmN (moreL a c) = 1 := by kernel_rfl
theorem n_mblE (a : Option Addr) (c : Nat) : blmE (moreL a c) = 0 := by kernel_rfl
theorem n_pr1 (a : Option Addr) (c : Nat) : provB (nightL a c) [1] [[7, 1], [10]] = true := by kernel_rfl
theorem n_pr2 (a : Option Addr) (c : Nat) : provB (nightL a c) [1] [[7, 0], [10]] = false := by kernel_rfl
theorem n_pr3 (a : Option Addr) (c : Nat) : provB (nightL a c) [1] [[7, 1], [10, 0]] = false := by kernel_rfl
theorem n_pr4 (a : Option Addr) (c : Nat) : provB (nightL a c) [] [[7, 1], [10]] = false := by kernel_rfl
theorem n_chk11 (a : Option Addr) (c : Nat) : chkE (nightL a c) [1, 1] = 2 := by kernel_rfl
theorem n_exp11 (a : Option Addr) (c : Nat) : explB (nightL a c) [1, 1] = false := by kernel_rfl
theorem n_gof4 (a : Option Addr) (c : Nat) : gofE (nightL a c) [4] = 2 := by kernel_rfl
theorem n_rng4 (a : Option Addr) (c : Nat) : rngsL (nightL a c) [4] = [] := by kernel_rfl
theorem n_cnt4 (a : Option Addr) (c : Nat) : cntL (gofL (nightL a c) [4]) = (0, 0) := by kernel_rfl
theorem n_gofn (a : Option Addr) (c : Nat) : gofE (nightL a c) [] = 9 := by kernel_rfl
theorem n_manyn (a : Option Addr) (c : Nat) : manyN (nightL a c) [] = 0 := by kernel_rfl
theorem n_gof0 (a : Option Addr) (c : Nat) : gofE (nightL a c) [0] = 9 := by kernel_rfl
theorem n_sure0 (a : Option Addr) (c : Nat) : sureL (nightL a c) [0] = [] := by kernel_rfl
theorem n_fmany (a : Option Addr) (c : Nat) : faultW (manyL a c) = 3 := by kernel_rfl
theorem n_fodd (a : Option Addr) (c : Nat) : faultW (oddL a c) = 1 := by kernel_rfl
theorem n_ffar (a : Option Addr) (c : Nat) : faultW (farL a c) = 1 := by kernel_rfl
theorem n_fempty : faultW ⟨0, none, 0, []⟩ = 1 := by kernel_rfl
theorem n_free : manyN ⟨5, none, 0, []⟩ [] = 1252332576 := by kernel_rfl
theorem n_freeE : gofE ⟨5, none, 0, []⟩ [] = 0 := by kernel_rfl
end Go.Proofs.Ytbbndcfnpfedpaa
