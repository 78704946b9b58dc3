/- What leaves remembers: its keys and its elements. -/
import Derived.Test.YtaloffdkadhhnaaDoorLb
import Derived.Maps.OwnIn
import Derived.Maps.OwnSet
import Derived.DeepKeys4
import Derived.WideKeyMaps
set_option linter.unusedVariables false
set_option linter.unusedSimpArgs false
namespace Go.Proofs.YtaloffdkadhhnaaDoor
open Go.RowKit Go.Maps

set_option maxRecDepth 100000 in
theorem laidOut : laidOutB Tryd.prog = true := by kernel_rfl
theorem row151 : (151 : TypeId) < Tryd.prog.types.size := of_decide_eq_true (by kernel_rfl)
set_option maxRecDepth 100000 in
theorem wide151 : (match Tryd.prog.underlying 151 with | some (.array _ _) | some (.struct _) => true | _ => false) = true := by rw [Tryd.underlying151]
set_option maxRecDepth 100000 in
theorem law151 : Keyed Tryd.prog 151 := Keyed.of_law (deep_law_laid laidOut (m := 4) (by omega) row151 (by kernel_rfl) wide151)
theorem deep151 : Tryd.prog.keyTypeAt (Tryd.prog.types.size + 1) 151 = true := by kernel_rfl
theorem cells151 : Tryd.prog.cellsOf 151 = 2 := by kernel_rfl
theorem cells100 : Tryd.prog.cellsOf 100 = 1 := by kernel_rfl

def blowV (S T : Nat) : Value := .agg #[.int .u16 (S : Nat), .int .u16 (T : Nat)]
def litsB (S T : Nat) : List Lit := [.int .u16 (S : Nat), .int .u16 (T : Nat)]
def kB (S T : Nat) : Lit := .string (keyBytes (litsB S T))

theorem wf_u {n : Nat} (h : n < 65536) : (Lit.int .u16 (n : Int)).wf = true := by
  unfold Lit.wf
  simp [IntKind.bits, IntKind.signed, IntKind.min, IntKind.max]
  omega

theorem keyLits151 (S T : Nat) (hS : S < 65536) (hT : T < 65536) (d : Nat) : Tryd.prog.keyLits (d + 3) 151 (blowV S T).cells.toList = some (litsB S T) := by
  have h1 := wf_u hS
  have h2 := wf_u hT
  simp [Program.keyLits, Tryd.underlying151, Tryd.underlying100, cells151, cells100, blowV, Value.cells, litsB, h1, h2]

theorem key151 (S T : Nat) (hS : S < 65536) (hT : T < 65536) : keyOf Tryd.prog 151 (blowV S T) = some (kB S T) := by
  have e : Tryd.prog.underlying 151 = _ := Tryd.underlying151
  unfold keyOf
  rw [e]
  have hk : Tryd.prog.keyType 151 = true := deep151
  have hf : (blowV S T).formed Tryd.prog 151 = true := by simp [Value.formed, blowV, Tryd.underlying151, cells151]
  obtain ⟨n, hn⟩ : ∃ n, Tryd.prog.types.size = n + 2 := ⟨Tryd.prog.types.size - 2, by have := (show 151 < Tryd.prog.types.size from row151); omega⟩
  simp only [hk, hf, Bool.and_self, if_true, hn]
  rw [keyLits151 S T hS hT n]
  rfl

theorem kB_inj {S T S' T' : Nat} (hS : S < 65536) (hT : T < 65536) (hS' : S' < 65536) (hT' : T' < 65536) (e : kB S T = kB S' T') : S = S' ∧ T = T' := by
  have h1 := key151 S T hS hT
  rw [e] at h1
  have h2 := law151.inj h1 (key151 S' T' hS' hT')
  simp only [blowV, Value.agg.injEq, Array.mk.injEq, List.cons.injEq, Value.int.injEq, true_and, and_true] at h2
  omega

/-- How an element reads. -/
def bread : Value → Option (DataW Unit × List MemPlace)
  | .int .u16 a => some (.lit (.int .u16 a), [])
  | _ => none
def bdat (N : Nat) : DataW Unit := .lit (.int .u16 (N : Nat))
theorem bread_val (N : Nat) : bread (.int .u16 (N : Nat)) = some (bdat N, []) := rfl
theorem bread_inv {v : Value} {N : Nat} {ps : List MemPlace} (h : bread v = some (bdat N, ps)) : v = .int .u16 (N : Nat) := by
  unfold bread at h
  split at h
  · simp only [bdat, Option.some.injEq, Prod.mk.injEq, DataW.lit.injEq, Lit.int.injEq, true_and] at h
    rw [h.1]
  · cases h
theorem zero100 (w : World) : (zeroValue 100).run Tryd.prog w = .ok (.int .u16 (0 : Nat)) w := by kernel_rfl

/-- What the memory holds is so: for the pins St, what f leaves of each blow. -/
structure GoodB (St : Nat) (f : Nat → Nat) (D : DataW Unit) : Prop where
  tidy : Tidy D
  els : ∀ T, T < 65536 → Maps.has D (kB St T) = true → ∀ z, D.atKey (kB St T) z = bdat (f T)

theorem goodB_empty (St : Nat) (f : Nat → Nat) : GoodB St f (.map []) := ⟨tidy_empty, fun T _ h => (by cases h)⟩
theorem GoodB.put {St : Nat} {f : Nat → Nat} {D : DataW Unit} {T : Nat} (hS : St < 65536) (hT : T < 65536) (h : GoodB St f D) : GoodB St f (D.put (kB St T) (bdat (f T))) where
  tidy := h.tidy.put (law151.key (key151 St T hS hT)) _
  els T' hT' hh z := by
    by_cases e : kB St T' = kB St T
    · rw [e, atKey_put_same h.tidy.isMap (law151.key (key151 St T hS hT)), (kB_inj hS hT' hS hT e).2]
    · rw [atKey_put_other e]
      rw [has_put_other e] at hh
      exact h.els T' hT' hh z

end Go.Proofs.YtaloffdkadhhnaaDoor
