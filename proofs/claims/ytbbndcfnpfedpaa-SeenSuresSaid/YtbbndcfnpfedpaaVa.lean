/- The contract of the reference's Behind. -/
import Derived.Test.YtbbndcfnpfedpaaUb
set_option linter.unusedVariables false
set_option linter.unusedSimpArgs false
namespace Go.Proofs.Ytbbndcfnpfedpaa
open Go.RowKit Go.Shelf

attribute [local go_sem] Oper.semAt_some

/-- Rows of numbers lie in a slice. -/
def GAt (w : World) (a : Option Addr) (G : List (List Int)) : Prop := ∀ (i : Nat) (row : List Int), G[i]? = some row → ∃ (g o : Nat) (a' : Option Addr) (c' : Nat), a = some ⟨g, o, none⟩ ∧ w.cell? ⟨g, o + i, none⟩ = some (.slice a' row.length c') ∧ IntsAt w a' row
theorem GAt.lo {w W : World} {a : Option Addr} {G : List (List Int)} (h : GAt w a G) (hb : Below w.heap.size w W) : GAt W a G := fun i row hi => by
  obtain ⟨g, o, a', c', e, h1, h2⟩ := h i row hi
  exact ⟨g, o, a', c', e, cell_lo hb h1, h2.lo hb⟩

/-- How many pins stand behind a ball of a frame. -/
def behN (row : List Int) (b : Nat) : Int := 10 - (row.take (b + 1)).sum
def upTo (row : List Int) (k : Nat) : Int := 10 - (row.take k).sum
theorem upTo_next {row : List Int} {k : Nat} {x : Int} (h : row[k]? = some x) : upTo row (k + 1) = upTo row k - x := by
  unfold upTo; rw [take_next h, List.sum_append]; simp; omega
theorem upTo_in {row : List Int} (h : ∀ x ∈ row, 0 ≤ x ∧ x ≤ 10) : ∀ k : Nat, -(10 * (k : Int)) ≤ upTo row k ∧ upTo row k ≤ 10
  | 0 => by unfold upTo; simp
  | k + 1 => by
    have ih := upTo_in h k
    by_cases hk : k < row.length
    · have hx : row[k]? = some (row[k]'hk) := List.getElem?_eq_getElem _
      have hm := h _ (List.mem_of_getElem? hx)
      rw [upTo_next hx]
      omega
    · have e : upTo row (k + 1) = upTo row k := by unfold upTo; rw [List.take_of_length_le (by omega), List.take_of_length_le (by omega)]
      rw [e]; omega

set_option maxRecDepth 100000 in
set_option maxHeartbeats 4000000 in
theorem behind_ref (G : List (List Int)) (row : List Int) (f b : Nat) (a : Option Addr) (c : Nat) (w : World) (hG : GAt w a G) (hf : G[f]? = some row) (hr : ∀ x ∈ row, 0 ≤ x ∧ x ≤ 10) (hb : b ≤ 1) (hl : row.length ≤ 1000) (hL : G.length ≤ 1000) :
    Calls Try.prog 47 #[.slice a G.length c, .int .i64 (f : Int), .int .i64 (b : Int)] w fun e w' => e = .returned (.int .i64 (behN row b)) ∧ Below w.heap.size w w' := by
  obtain ⟨g, o, a', c', rfl, k1, hI⟩ := hG f row hf
  have HI := Lib.hid hI
  have HR := Lib.hid hr
  have HBE : Hid (behN row b = upTo row (b + 1)) := Lib.hid rfl
  have hz0 : (0 : Int) ≤ (f : Int) := by omega
  have hz1 : (f : Int) < (G.length : Int) := by have := (List.getElem?_eq_some_iff.1 hf).1; omega
  have B0 := Lib.hid (Below.refl w.heap.size w)
  have HUP := Lib.hid (fun k => upTo_in hr k)
  have U0 := Lib.hid (show upTo row 0 = 10 by unfold upTo; simp)
  rw [HBE.out]
  clear hG hf hI hr
  go_enter Try.func47, Try.ntmps47
  go_wp2_with fail
  go_loopg [7, 8] (b + 2) (fun g' s7 s8 wx => ∃ k : Nat, k ≤ b + 1 ∧ k ≤ row.length ∧ g' = b + 2 - k ∧ s8 = .int .i64 (k : Int) ∧ s7 = .int .i64 (upTo row k) ∧ wx = w)
  case atStart => exact ⟨0, by omega, by omega, by omega, rfl, by rw [U0.out], rfl⟩
  case round =>
    obtain ⟨k, hk, hkl, rfl, rfl, rfl, rfl⟩ := hrel
    by_cases h1 : k ≤ b
    · have hz2 : (k : Int) ≤ (b : Int) := by omega
      by_cases h2 : k < row.length
      · have hz3 : (k : Int) < (row.length : Int) := by omega
        have hz4 : (0 : Int) ≤ (k : Int) := by omega
        obtain ⟨x, hx⟩ : ∃ x, row[k]? = some x := ⟨row[k]'h2, List.getElem?_eq_getElem _⟩
        obtain ⟨g2, o2, ha2, q1⟩ := HI.out k x hx
        rw [ha2] at k1
        have hm := HR.out x (List.mem_of_getElem? hx)
        have hu := HUP.out k
        have e1 : IntKind.i64.wrap (upTo row k - x) = upTo row k - x := IntWalk.i64_in _ (by omega)
        have e2 : IntKind.i64.wrap ((k : Int) + 1) = (k : Int) + 1 := IntWalk.i64_in _ (by omega)
        have HN := Lib.hid (upTo_next hx)
        clear hx hm hu ha2
        go_wp2_with fail
        go_roundg (b + 2 - (k + 1))
        case measure => omega
        case rel => exact ⟨k + 1, by omega, by omega, rfl, by simp, by rw [HN.out], rfl⟩
      · have hz3 : ¬ (k : Int) < (row.length : Int) := by omega
        have HE := Lib.hid (show upTo row k = upTo row (b + 1) by unfold upTo; rw [List.take_of_length_le (by omega), List.take_of_length_le (by omega)])
        clear h2
        go_wp2_with fail
        go_returns
        exact ⟨by rw [HE.out]; first | done | rfl, B0.out⟩
    · have hz2 : ¬ (k : Int) ≤ (b : Int) := by omega
      have HE := Lib.hid (show upTo row k = upTo row (b + 1) by rw [show k = b + 1 by omega])
      clear h1
      go_wp2_with fail
      go_returns
      exact ⟨by rw [HE.out]; first | done | rfl, B0.out⟩

end Go.Proofs.Ytbbndcfnpfedpaa
