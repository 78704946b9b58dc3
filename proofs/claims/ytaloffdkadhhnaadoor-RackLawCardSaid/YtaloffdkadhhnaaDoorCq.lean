/- What a rack tells does not hang on where its links lie. -/
import Derived.Test.YtaloffdkadhhnaaDoorMl
import Derived.Test.YtaloffdkadhhnaaDoorPi
set_option linter.unusedVariables false
set_option linter.unusedSimpArgs false
namespace Go.Proofs.YtaloffdkadhhnaaDoor
open Go.RowKit

/-- The same rack, its links elsewhere. -/
abbrev Rk.at (r : Rk) (a : Option Addr) (c : Nat) : Rk := { r with la := a, lc := c }

theorem faultN_cp (r : Rk) (a : Option Addr) (c : Nat) : faultN (r.at a c) = faultN r := rfl
theorem hasL_cp (r : Rk) (a : Option Addr) (c : Nat) (xs : List Int) : hasL (r.at a c) xs = hasL r xs := rfl
theorem chkE_cp (r : Rk) (a : Option Addr) (c : Nat) (xs : List Int) : chkE (r.at a c) xs = chkE r xs := rfl
theorem nbrs_cp (r : Rk) (a : Option Addr) (c : Nat) (p : Int) : nbrs (r.at a c) p = nbrs r p := rfl
theorem reachF_cp (r : Rk) (a : Option Addr) (c : Nat) (lv : Nat) : ∀ (f : Nat) (p : Int) (R : Nat), reachF (r.at a c) lv f p R = reachF r lv f p R := by
  intro f
  induction f with
  | zero => intro p R; rfl
  | succ f ih =>
    intro p R
    rw [reachF_succ, reachF_succ, nbrs_cp]
    have e : stepR (r.at a c) lv f = stepR r lv f := by funext M q; unfold stepR; rw [ih]
    rw [e]
theorem pieceB_cp (r : Rk) (a : Option Addr) (c : Nat) (lv : Nat) : pieceB (r.at a c) lv = pieceB r lv := by unfold pieceB pieceN; rw [reachF_cp]
theorem kindN_cp (r : Rk) (a : Option Addr) (c : Nat) (lv : Nat) : kindN (r.at a c) lv = kindN r lv := by unfold kindN; rw [pieceB_cp]
theorem kndN_cp (r : Rk) (a : Option Addr) (c : Nat) (xs : List Int) : kndN (r.at a c) xs = kndN r xs := by unfold kndN; rw [chkE_cp, kindN_cp]
theorem cntK_cp (r : Rk) (a : Option Addr) (c : Nat) (n k : Nat) : cntK (r.at a c) n k = cntK r n k := by unfold cntK; simp only [kindN_cp]
theorem cenV_cp (r : Rk) (a : Option Addr) (c : Nat) : cenV (r.at a c) = cenV r := by unfold cenV cenA; rw [faultN_cp]; simp only [cntK_cp]

end Go.Proofs.YtaloffdkadhhnaaDoor
