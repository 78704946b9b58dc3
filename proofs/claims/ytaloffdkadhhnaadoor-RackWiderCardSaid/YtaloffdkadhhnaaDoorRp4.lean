/- Opening lists of truth values, small numbers and links. -/
import Derived.Test.YtaloffdkadhhnaaDoorGm
set_option linter.unusedVariables false
set_option linter.unusedSimpArgs false
namespace Go.Proofs.YtaloffdkadhhnaaDoor
open Go.ChangeShapes Go.WideShapes Go.ChangeAt Go.WideMaps Go.WideElems Go.RowKit Go.Joins

set_option maxRecDepth 100000 in
theorem bools_open {H : Type} {enc : TypeId × Value → H} {W : World} {base : Nat} {v : Value} {d : DataW H} {p : List MemPlace} (hv : Value.okWide Tryd.prog W .any base 48 v) (h : DataW.Trod enc Tryd.prog W 0 (fun _ => true) true 48 v d p) :
    ∃ a c bs, v = .slice a bs.length c ∧ BoolsAt W a bs ∧ (a = none → bs = [] ∧ c = 0) := by
  obtain ⟨a0, len0, cap0, rfl⟩ := okWide_slice under48 hv
  obtain ⟨fuel, hf⟩ := h
  rcases Go.Deep.open_slice under48 hf with ⟨hcs, _⟩ | ⟨a, len, cap, m, n, D, Pl, hcs, _, hl, hm, hmm, hx, hi⟩
  · simp [Value.cells] at hcs
    obtain ⟨rfl, rfl, rfl⟩ := hcs
    exact ⟨none, 0, [], rfl, fun i l h => by simp at h, fun _ => ⟨rfl, rfl⟩⟩
  · simp [Value.cells] at hcs
    obtain ⟨rfl, rfl, rfl⟩ := hcs
    simp only [if_true] at hmm
    subst hmm
    have hcell : ∀ i, i < len0 → ∃ l : Bool, W.cell? (a.add i) = some (.bool l) := by
      intro i hil
      obtain ⟨cs', hc, ht⟩ := hi i (by omega)
      rw [show Tryd.prog.cellsOf 4 = 1 by kernel_rfl, Nat.mul_one] at hc
      obtain ⟨_, hcl, hat⟩ := World.cells?_some hc
      match cs', hcl with
      | [c0], _ =>
        obtain ⟨b, e0, _⟩ := DataW.trod_bool Tryd.underlying4 ht
        have a0 := hat 0 (by simp)
        simp at e0
        subst e0
        exact ⟨b, by simpa [Go.Deep.add_add] using a0⟩
    obtain ⟨f, hf⟩ := Classical.skolem.1 (fun i : Nat => show ∃ l : Bool, i < len0 → W.cell? (a.add i) = some (.bool l) from by
      by_cases h : i < len0
      · obtain ⟨l, hl⟩ := hcell i h; exact ⟨l, fun _ => hl⟩
      · exact ⟨false, fun e => absurd e h⟩)
    refine ⟨some a, m, (List.range len0).map f, by simp, ?_, fun e => by cases e⟩
    intro i l hil
    rw [List.getElem?_map] at hil
    by_cases hlt : i < len0
    · rw [List.getElem?_range hlt] at hil
      simp at hil
      subst hil
      obtain ⟨b, off, spot⟩ := a
      have hspot : spot = none := by simpa [Addr.add] using World.cell?_spot (hf 0 (by omega))
      subst hspot
      have h1 := hf i hlt
      rw [add_plain] at h1
      exact ⟨b, off, rfl, h1⟩
    · rw [List.getElem?_eq_none (by simp; omega)] at hil
      cases hil

set_option maxRecDepth 100000 in
theorem u8_open {H : Type} {enc : TypeId × Value → H} {W : World} {base : Nat} {v : Value} {d : DataW H} {p : List MemPlace} (hv : Value.okWide Tryd.prog W .any base 5 v) (h : DataW.Trod enc Tryd.prog W 0 (fun _ => true) true 5 v d p) :
    ∃ u, v = .int .u8 u ∧ (0 ≤ u ∧ u < 256) := by
  obtain ⟨fuel, h⟩ := h
  obtain ⟨n, hc, _, hw⟩ := DataW.trod_int Tryd.underlying5 h
  have hv' : v = .int .u8 n := by
    simp only [Value.okWide, Tryd.underlying5, Cell.okWide] at hv
    cases v <;> simp_all [Cell.ok, Value.cells]
  refine ⟨n, hv', ?_⟩
  simp [Lit.wf, IntKind.min, IntKind.max, IntKind.signed, IntKind.bits] at hw
  omega

set_option maxRecDepth 100000 in
theorem link_open {H : Type} {enc : TypeId × Value → H} {W : World} {base : Nat} {v : Value} {d : DataW H} {p : List MemPlace} (hv : Value.okWide Tryd.prog W .any base 91 v) (h : DataW.Trod enc Tryd.prog W 0 (fun _ => true) true 91 v d p) :
    ∃ l : Lk, v = l.val := by
  obtain ⟨cs, rfl, hsz⟩ := okWide_struct Tryd.underlying91 hv
  rw [show Tryd.prog.cellsOf 91 = 3 by kernel_rfl] at hsz
  obtain ⟨L⟩ := cs
  match L, hsz with
  | [c0, c1, c2], _ =>
    obtain ⟨fuel, hf⟩ := h
    obtain ⟨xs, n, _, _, _, hlen, hg⟩ := DataW.trod_struct Tryd.underlying91 hf
    match xs, hlen with
    | [y0, y1, y2], _ =>
      have g0 := hg 0 _ rfl
      have g1 := hg 1 _ rfl
      have g2 := hg 2 _ rfl
      simp [Value.cells, show Tryd.prog.cellsOf 3 = 1 by kernel_rfl, show Tryd.prog.cellsOf 4 = 1 by kernel_rfl] at g0 g1 g2
      obtain ⟨n0, e0, _, _⟩ := DataW.trod_int Tryd.underlying3 g0
      obtain ⟨n1, e1, _, _⟩ := DataW.trod_int Tryd.underlying3 g1
      obtain ⟨b2, e2, _⟩ := DataW.trod_bool Tryd.underlying4 g2
      simp at e0 e1 e2
      subst e0 e1 e2
      exact ⟨⟨n0, n1, b2⟩, rfl⟩

end Go.Proofs.YtaloffdkadhhnaaDoor
