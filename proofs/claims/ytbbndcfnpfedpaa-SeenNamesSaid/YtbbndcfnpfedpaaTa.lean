/- What every row over lanes needs: the arguments opened. -/
import Derived.Test.YtbbndcfnpfedpaaRows
import Derived.Test.YtbbndcfnpfedpaaGe
import Derived.ProofKit
import Derived.OpenShut
import Derived.Deep.Slices
import Derived.Carry
set_option linter.unusedVariables false
set_option linter.unusedSimpArgs false
namespace Go.Proofs.Ytbbndcfnpfedpaa
open Go.ChangeShapes Go.WideShapes Go.ChangeAt Go.RowKit

theorem ownK : ownKnob Try.prog.godebug = none := by kernel_rfl

set_option maxRecDepth 100000 in
theorem words_openS {H : Type} {enc : TypeId × Value → H} {W : World} {fuel : Nat} {v : Value} {x : DataW H × List MemPlace} (h : DataW.trod enc Try.prog W 0 (fun _ => true) true fuel 22 [v] = some x) :
    ∃ a c ls, v = .slice a ls.length c ∧ WdsAt W a ls ∧ (ls.length : Int) ≤ 9223372036854775807 := by
  rcases Go.Deep.open_slice Try.underlying22 h with ⟨hcs, _⟩ | ⟨a, len, cap, m, n, D, Pl, hcs, hlm, hl, hm, hmm, hx, hi⟩
  · simp at hcs
    subst hcs
    exact ⟨none, 0, [], rfl, fun i l h => by simp at h, by simp⟩
  · simp at hcs
    subst hcs
    simp only [if_true] at hmm
    subst hmm
    have hcell : ∀ i, i < len → ∃ l : Wd, W.cell? (a.add (i * 5)) = some (.int .i64 l.fr) ∧ W.cell? (a.add (i * 5 + 1)) = some (.int .i64 l.ba) ∧ W.cell? (a.add (i * 5 + 2)) = some (.int .i64 l.te) ∧ W.cell? (a.add (i * 5 + 3)) = some (.int .i64 l.le) ∧ W.cell? (a.add (i * 5 + 4)) = some (.int .i64 l.mo) := by
      intro i hil
      obtain ⟨cs', hc, ht⟩ := hi i (by omega)
      rw [show Try.prog.cellsOf 81 = 5 by kernel_rfl] at hc
      obtain ⟨_, hcl, hat⟩ := World.cells?_some hc
      obtain ⟨xs, n', _, _, hlen, hxl, hf⟩ := DataW.trod_struct Try.underlying81 ht
      match cs', hcl with
      | [c0, c1, c2, c3, c4], _ =>
        match xs, hxl with
        | [y0, y1, y2, y3, y4], _ =>
          have g0 := hf 0 _ rfl
          have g1 := hf 1 _ rfl
          have g2 := hf 2 _ rfl
          have g3 := hf 3 _ rfl
          have g4 := hf 4 _ rfl
          simp [show Try.prog.cellsOf 3 = 1 by kernel_rfl] at g0 g1 g2 g3 g4
          obtain ⟨fr, e0, _, _⟩ := DataW.trod_int Try.underlying3 g0
          obtain ⟨ba, e1, _, _⟩ := DataW.trod_int Try.underlying3 g1
          obtain ⟨te, e2, _, _⟩ := DataW.trod_int Try.underlying3 g2
          obtain ⟨le, e3, _, _⟩ := DataW.trod_int Try.underlying3 g3
          obtain ⟨mo, e4, _, _⟩ := DataW.trod_int Try.underlying3 g4
          have a0 := hat 0 (by simp)
          have a1 := hat 1 (by simp)
          have a2 := hat 2 (by simp)
          have a3 := hat 3 (by simp)
          have a4 := hat 4 (by simp)
          simp at e0 e1 e2 e3 e4
          subst e0 e1 e2 e3 e4
          exact ⟨⟨fr, ba, te, le, mo⟩, by simpa [Go.Deep.add_add] using a0, by simpa [Go.Deep.add_add] using a1, by simpa [Go.Deep.add_add] using a2, by simpa [Go.Deep.add_add] using a3, by simpa [Go.Deep.add_add] using a4⟩
    obtain ⟨f, hf⟩ := Classical.skolem.1 (fun i : Nat => show ∃ l : Wd, i < len → W.cell? (a.add (i * 5)) = some (.int .i64 l.fr) ∧ W.cell? (a.add (i * 5 + 1)) = some (.int .i64 l.ba) ∧ W.cell? (a.add (i * 5 + 2)) = some (.int .i64 l.te) ∧ W.cell? (a.add (i * 5 + 3)) = some (.int .i64 l.le) ∧ W.cell? (a.add (i * 5 + 4)) = some (.int .i64 l.mo) from by
      by_cases h : i < len
      · obtain ⟨l, hl⟩ := hcell i h; exact ⟨l, fun _ => hl⟩
      · exact ⟨⟨0, 0, 0, 0, 0⟩, fun e => absurd e h⟩)
    refine ⟨some a, m, (List.range len).map f, by simp, ?_, by simp; unfold maxLen at *; omega⟩
    intro i l hil
    rw [List.getElem?_map] at hil
    by_cases hlt : i < len
    · rw [List.getElem?_range hlt] at hil
      simp at hil
      subst hil
      obtain ⟨b, off, spot⟩ := a
      have hspot : spot = none := by simpa [Addr.add] using World.cell?_spot (hf 0 (by omega)).1
      subst hspot
      obtain ⟨h1, h2, h3, h4, h5⟩ := hf i hlt
      rw [add_plain] at h1 h2 h3 h4 h5
      exact ⟨b, off, rfl, h1, h2, h3, h4, h5⟩
    · rw [List.getElem?_eq_none (by simp; omega)] at hil
      cases hil

set_option maxRecDepth 100000 in
theorem lane_open {H : Type} {enc : TypeId × Value → H} {W : World} {base : Nat} {v : Value} {d : DataW H} {p : List MemPlace} (hv : Value.okWide Try.prog W .any base 24 v) (h : DataW.Trod enc Try.prog W 0 (fun _ => true) true 24 v d p) :
    ∃ l : Lan, v = l.val ∧ WdsAt W l.wa l.ws ∧ (l.ws.length : Int) ≤ 9223372036854775807 := by
  obtain ⟨cs, rfl, hsz⟩ := okWide_struct Try.underlying24 hv
  rw [show Try.prog.cellsOf 24 = 2 by kernel_rfl] at hsz
  obtain ⟨L⟩ := cs
  match L, hsz with
  | [c0, c1], _ =>
    obtain ⟨fuel, hf⟩ := h
    obtain ⟨xs, n, _, _, _, hlen, hg⟩ := DataW.trod_struct Try.underlying24 hf
    match xs, hlen with
    | [y0, y1], _ =>
      have g0 := hg 0 _ rfl
      have g1 := hg 1 _ rfl
      simp [Value.cells, show Try.prog.cellsOf 3 = 1 by kernel_rfl, show Try.prog.cellsOf 22 = 1 by kernel_rfl] at g0 g1
      obtain ⟨n0, e0, _, _⟩ := DataW.trod_int Try.underlying3 g0
      obtain ⟨a, c, ls, e1, hL, hN⟩ := words_openS g1
      simp at e0
      subst e0 e1
      exact ⟨⟨n0, a, c, ls⟩, rfl, hL, hN⟩

set_option maxRecDepth 100000 in
theorem u8_open {H : Type} {enc : TypeId × Value → H} {W : World} {base : Nat} {v : Value} {d : DataW H} {p : List MemPlace} (hv : Value.okWide Try.prog W .any base 5 v) (h : DataW.Trod enc Try.prog W 0 (fun _ => true) true 5 v d p) :
    ∃ u, v = .int .u8 u ∧ (0 ≤ u ∧ u < 256) := by
  obtain ⟨fuel, h⟩ := h
  obtain ⟨n, hc, _, hw⟩ := DataW.trod_int Try.underlying5 h
  have hv' : v = .int .u8 n := by
    simp only [Value.okWide, Try.underlying5, Cell.okWide] at hv
    cases v <;> simp_all [Cell.ok, Value.cells]
  refine ⟨n, hv', ?_⟩
  simp [Lit.wf, IntKind.min, IntKind.max, IntKind.signed, IntKind.bits] at hw
  omega

end Go.Proofs.Ytbbndcfnpfedpaa
