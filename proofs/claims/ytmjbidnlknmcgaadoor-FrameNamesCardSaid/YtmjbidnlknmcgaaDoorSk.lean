/- What the law FrameSpares says, reckoned for each law and each k. -/
import Derived.Test.YtmjbidnlknmcgaaDoorLSet
set_option linter.unusedVariables false
set_option linter.unusedSimpArgs false
namespace Go.Proofs.YtmjbidnlknmcgaaDoor
open Go.RowKit

/-- k, and all others, so many times. -/
def spL (F : Nat) (pn k : Int) : List Int := (List.replicate F [k, pn - k]).flatten
def spB (F : Nat) (pn k : Int) : List Int := spL F pn k ++ [k]
def spC (l : Lw) (F : Nat) (k : Int) (p : Rc × Nat) : Bool :=
  p.2 == 2 * F + 1 && p.1.s.f == l.fr && (setL l p.1).length == F && (setL l p.1)[F - 1]? == some (l.fr * (l.pn + k))
def spD (F pn tp k bl : Nat) : Bool := spC ⟨F, pn, bl, tp⟩ F k (fol ⟨F, pn, bl, tp⟩ (rec0 ⟨F, pn, bl, tp⟩) (spB F pn k))
def spA (F : Nat) : Bool := (List.range 11).all fun pn => (List.range 11).all fun tp => (List.range 11).all fun k => !(decide (tp ≤ pn) && decide (k < tp)) || (spD F pn tp k 2 && spD F pn tp k 3)

set_option maxRecDepth 100000 in
theorem spA_1 : spA 1 = true := by decide +kernel
set_option maxRecDepth 100000 in
theorem spA_2 : spA 2 = true := by decide +kernel
set_option maxRecDepth 100000 in
theorem spA_3 : spA 3 = true := by decide +kernel
set_option maxRecDepth 100000 in
theorem spA_4 : spA 4 = true := by decide +kernel
set_option maxRecDepth 100000 in
theorem spA_5 : spA 5 = true := by decide +kernel
set_option maxRecDepth 100000 in
theorem spA_6 : spA 6 = true := by decide +kernel
set_option maxRecDepth 100000 in
theorem spA_7 : spA 7 = true := by decide +kernel
set_option maxRecDepth 100000 in
theorem spA_8 : spA 8 = true := by decide +kernel
set_option maxRecDepth 100000 in
theorem spA_9 : spA 9 = true := by decide +kernel
set_option maxRecDepth 100000 in
theorem spA_10 : spA 10 = true := by decide +kernel

theorem spA_all {F : Nat} (h1 : 1 ≤ F) (h2 : F ≤ 10) : spA F = true := by
  have : F = 1 ∨ F = 2 ∨ F = 3 ∨ F = 4 ∨ F = 5 ∨ F = 6 ∨ F = 7 ∨ F = 8 ∨ F = 9 ∨ F = 10 := by omega
  rcases this with rfl | rfl | rfl | rfl | rfl | rfl | rfl | rfl | rfl | rfl
  · exact spA_1
  · exact spA_2
  · exact spA_3
  · exact spA_4
  · exact spA_5
  · exact spA_6
  · exact spA_7
  · exact spA_8
  · exact spA_9
  · exact spA_10

theorem spL_len (F : Nat) (pn k : Int) : (spL F pn k).length = 2 * F := by
  simp [spL, List.length_flatten]
  omega
theorem spL_succ (F : Nat) (pn k : Int) : spL (F + 1) pn k = spL F pn k ++ [k, pn - k] := by
  simp [spL, List.replicate_succ']


end Go.Proofs.YtmjbidnlknmcgaaDoor
