/- An argument of rows of numbers, opened. -/
import Derived.Test.YtbbndcfnpfedpaaTf
import Derived.Test.YtbbndcfnpfedpaaXh
import Derived.Deep.Matrix
set_option linter.unusedVariables false
set_option linter.unusedSimpArgs false
namespace Go.Proofs.Ytbbndcfnpfedpaa
open Go.ChangeShapes Go.WideShapes Go.ChangeAt Go.RowKit

set_option maxRecDepth 100000 in
theorem rows_open {H : Type} {enc : TypeId × Value → H} {W : World} {base : Nat} {v : Value} {d : DataW H} {p : List MemPlace} (hv : Value.okWide Try.prog W .any base 63 v) (h : DataW.Trod enc Try.prog W 0 (fun _ => true) true 63 v d p) :
    ∃ a c G, v = .slice a G.length c ∧ GAz W a G := by
  obtain ⟨a0, len, cap, rfl⟩ := okWide_slice Try.underlying63 hv
  obtain ⟨fuel, hf⟩ := h
  rcases Go.Deep.open_int_rows Try.underlying63 Try.underlying25 Try.underlying3 (show Try.prog.cellsOf 25 = 1 by kernel_rfl) (show Try.prog.cellsOf 3 = 1 by kernel_rfl) hf with ⟨hcs, hx⟩ | ⟨a, len', cap', A, L, C, Z, hcs, _, hl, hm, hx, hr⟩
  · simp [Value.cells] at hcs
    obtain ⟨rfl, rfl, rfl⟩ := hcs
    exact ⟨none, 0, [], rfl, fun i v h => by simp at h⟩
  · simp [Value.cells] at hcs
    obtain ⟨rfl, rfl, rfl⟩ := hcs
    refine ⟨some a, cap, (List.range len).map fun r => (Z r).take (L r), by simp, ?_⟩
    intro i q hq
    rw [List.getElem?_map] at hq
    by_cases hi : i < len
    · rw [List.getElem?_range hi] at hq
      simp only [Option.map_some, Option.some.injEq] at hq
      subst hq
      obtain ⟨b, off, spot⟩ := a
      obtain ⟨h1, h2, h3, h4, _, h5, h6⟩ := hr i (by omega)
      have hspot : spot = none := by
        have h0 := (hr 0 (by omega)).1
        simpa [Addr.add] using World.cell?_spot h0
      subst hspot
      rw [add_plain] at h1
      have hlen : ((Z i).take (L i)).length = L i := by rw [List.length_take, h4]; omega
      refine ⟨b, off, A i, C i, rfl, ?_, ?_, fun e => ?_⟩
      · rw [hlen]; exact h1
      · intro j x hx
        rw [List.getElem?_take] at hx
        split at hx
        · rename_i hj
          cases hA : A i with
          | none => have := h5 hA; omega
          | some a' =>
            obtain ⟨b2, off2, spot2⟩ := a'
            have h7 := (h6 _ hA).2
            have hs2 : spot2 = none := by
              have h0 := h7 0 (by omega)
              simpa [Addr.add] using World.cell?_spot h0
            subst hs2
            refine ⟨b2, off2, rfl, ?_⟩
            have h8 := h7 j (by omega)
            rw [add_plain] at h8
            rw [h8]
            simp [List.getD, hx]
        · cases hx
      · have h8 := h5 e
        exact ⟨List.eq_nil_of_length_eq_zero (by rw [hlen]; omega), h8⟩
    · rw [List.getElem?_eq_none (by simp; omega)] at hq
      cases hq

end Go.Proofs.Ytbbndcfnpfedpaa
