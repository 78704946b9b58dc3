/- What every row over racks needs: the listed variable's cells, a world that meets the condition, the arguments opened. -/
import Derived.Test.YtaloffdkadhhnaaDoorTie
import Derived.Test.YtaloffdkadhhnaaDoorCards
import Derived.Test.YtaloffdkadhhnaaDoorTh
import Derived.ProofKit
import Derived.LaidMore
import Derived.OpenShut
import Derived.Stop.Joined
import Derived.Lib.SmallJoins
import Derived.Lib.LaidTab
import Derived.Deep.Slices
import Derived.Carry
set_option linter.unusedVariables false
set_option linter.unusedSimpArgs false
namespace Go.Proofs.YtaloffdkadhhnaaDoor
open Go.ChangeShapes Go.WideShapes Go.ChangeAt Go.WideMaps Go.WideElems Go.RowKit Go.Joins

theorem own : ownKnob Tryd.prog.godebug = none := by kernel_rfl
theorem gTab : Tryd.prog.globalNamed "math/bits.deBruijn32tab" = some 0 := by kernel_rfl
abbrev laidL : List (String × DataW Unit) := [("math/bits.deBruijn32tab", Rows.laid_math_bits_deBruijn32tab)]
theorem laid_tab : (Rows.laid_math_bits_deBruijn32tab : DataW Unit) = Lib.tabData .u8 (Lib.deBruijn32tab.map fun n : Nat => (n : Int)) := by kernel_rfl

theorem tTab : (Tryd.prog.globals[0]?).map (·.type) = some 166 := by kernel_rfl
theorem uTab : Tryd.prog.underlying 166 = some (.array 32 5) := by kernel_rfl
theorem uElt : Tryd.prog.underlying 5 = some (.int .u8) := by kernel_rfl
theorem cElt : Tryd.prog.cellsOf 5 = 1 := by kernel_rfl
theorem cTab : Tryd.prog.cellsOf 166 = 32 := by kernel_rfl

/-- What the condition gives: the library's table. -/
theorem tab_of_laid {W : World} (h : laidMetH Tryd.prog laidL W) : TabOK W := by
  rw [MakeChecks.laidMetH_plain _ _ _ (by kernel_rfl)] at h
  unfold laidL at h
  rw [laid_tab] at h
  have hT := Lib.tabIs_of_head gTab tTab uTab uElt cElt cTab h
  intro j hj
  have := hT.cell gTab j (by simpa using hj)
  rw [this]
  simp [List.getD, hj]

/-- The door's own heap meets the condition. -/
theorem door_met (os : Os) (args : Array Value) : laidMetH Tryd.prog laidL ((World.doorLaid Tryd.prog 400 os).forCall (fun _ _ => 0) ⟨#[], args, []⟩).memory :=
  laidMetH_of_parts3 (fuel := 8) (laidMet_of_run' 8 (by kernel_rfl) (by kernel_rfl)) (by kernel_rfl) (by kernel_rfl)

set_option maxRecDepth 100000 in
theorem ints_open {H : Type} {enc : TypeId × Value → H} {W : World} {base : Nat} {v : Value} {d : DataW H} {p : List MemPlace} (hv : Value.okWide Tryd.prog W .any base 25 v) (h : DataW.Trod enc Tryd.prog W 0 (fun _ => true) true 25 v d p) :
    ∃ a c xs, v = .slice a xs.length c ∧ IntsAt W a xs ∧ (a = none → xs = [] ∧ c = 0) := by
  obtain ⟨a0, len, cap, rfl⟩ := okWide_slice Tryd.underlying25 hv
  obtain ⟨fuel, hf⟩ := h
  rcases open_ints Tryd.underlying25 Tryd.underlying3 (show Tryd.prog.cellsOf 3 = 1 by kernel_rfl) hf with ⟨hcs, hx⟩ | ⟨a, len', cap', zs, hcs, _, hl, hm, hz, hx, hcell, hwz⟩
  · simp [Value.cells] at hcs
    obtain ⟨rfl, rfl, rfl⟩ := hcs
    exact ⟨none, 0, [], rfl, fun i v h => by simp at h, fun _ => ⟨rfl, rfl⟩⟩
  · simp [Value.cells] at hcs
    obtain ⟨rfl, rfl, rfl⟩ := hcs
    simp only [if_true] at hz
    refine ⟨some a, cap, zs.take len, by simp; omega, ?_, fun e => by cases e⟩
    intro i x hix
    rw [List.getElem?_take] at hix
    split at hix
    · rename_i hi
      obtain ⟨b, off, spot⟩ := a
      have hspot : spot = none := by simpa [Addr.add] using World.cell?_spot (hcell 0 (by omega))
      subst hspot
      refine ⟨b, off, rfl, ?_⟩
      have := hcell i (by omega)
      rw [add_plain] at this
      rw [this]
      simp [List.getD, hix]
    · cases hix

set_option maxRecDepth 100000 in
theorem links_open {H : Type} {enc : TypeId × Value → H} {W : World} {fuel : Nat} {v : Value} {x : DataW H × List MemPlace} (h : DataW.trod enc Tryd.prog W 0 (fun _ => true) true fuel 22 [v] = some x) :
    ∃ a c ls, v = .slice a ls.length c ∧ LinksAt W a ls := by
  rcases Go.Deep.open_slice Tryd.underlying22 h with ⟨hcs, _⟩ | ⟨a, len, cap, m, n, D, Pl, hcs, _, hl, hm, hmm, hx, hi⟩
  · simp at hcs
    subst hcs
    exact ⟨none, 0, [], rfl, fun i l h => by simp at h⟩
  · simp at hcs
    subst hcs
    simp only [if_true] at hmm
    subst hmm
    have hcell : ∀ i, i < len → ∃ l : Lk, W.cell? (a.add (i * 3)) = some (.int .i64 l.fr) ∧ W.cell? (a.add (i * 3 + 1)) = some (.int .i64 l.to) ∧ W.cell? (a.add (i * 3 + 2)) = some (.bool l.sr) := by
      intro i hil
      obtain ⟨cs', hc, ht⟩ := hi i (by omega)
      rw [show Tryd.prog.cellsOf 91 = 3 by kernel_rfl] at hc
      obtain ⟨_, hcl, hat⟩ := World.cells?_some hc
      obtain ⟨xs, n', _, _, hlen, hxl, hf⟩ := DataW.trod_struct Tryd.underlying91 ht
      match cs', hcl with
      | [c0, c1, c2], _ =>
        match xs, hxl with
        | [y0, y1, y2], _ =>
          have g0 := hf 0 _ rfl
          have g1 := hf 1 _ rfl
          have g2 := hf 2 _ rfl
          simp [show Tryd.prog.cellsOf 3 = 1 by kernel_rfl, show Tryd.prog.cellsOf 4 = 1 by kernel_rfl] at g0 g1 g2
          obtain ⟨fr, e0, _, _⟩ := DataW.trod_int Tryd.underlying3 g0
          obtain ⟨to, e1, _, _⟩ := DataW.trod_int Tryd.underlying3 g1
          obtain ⟨sr, e2, _⟩ := DataW.trod_bool Tryd.underlying4 g2
          have a0 := hat 0 (by simp)
          have a1 := hat 1 (by simp)
          have a2 := hat 2 (by simp)
          simp at e0 e1 e2
          subst e0 e1 e2
          exact ⟨⟨fr, to, sr⟩, by simpa [Go.Deep.add_add] using a0, by simpa [Go.Deep.add_add] using a1, by simpa [Go.Deep.add_add] using a2⟩
    obtain ⟨f, hf⟩ := Classical.skolem.1 (fun i : Nat => show ∃ l : Lk, i < len → W.cell? (a.add (i * 3)) = some (.int .i64 l.fr) ∧ W.cell? (a.add (i * 3 + 1)) = some (.int .i64 l.to) ∧ W.cell? (a.add (i * 3 + 2)) = some (.bool l.sr) from by
      by_cases h : i < len
      · obtain ⟨l, hl⟩ := hcell i h; exact ⟨l, fun _ => hl⟩
      · exact ⟨⟨0, 0, false⟩, fun e => absurd e h⟩)
    refine ⟨some a, m, (List.range len).map f, by simp, ?_⟩
    intro i l hil
    rw [List.getElem?_map] at hil
    by_cases hlt : i < len
    · rw [List.getElem?_range hlt] at hil
      simp at hil
      subst hil
      obtain ⟨b, off, spot⟩ := a
      have hspot : spot = none := by simpa [Addr.add] using World.cell?_spot (hf 0 (by omega)).1
      subst hspot
      obtain ⟨h1, h2, h3⟩ := hf i hlt
      rw [add_plain] at h1 h2 h3
      exact ⟨b, off, rfl, h1, h2, h3⟩
    · rw [List.getElem?_eq_none (by simp; omega)] at hil
      cases hil

set_option maxRecDepth 100000 in
theorem rack_open {H : Type} {enc : TypeId × Value → H} {W : World} {base : Nat} {v : Value} {d : DataW H} {p : List MemPlace} (hv : Value.okWide Tryd.prog W .any base 24 v) (h : DataW.Trod enc Tryd.prog W 0 (fun _ => true) true 24 v d p) :
    ∃ r : Rk, v = r.val ∧ LinksAt W r.la r.ls := by
  obtain ⟨cs, rfl, hsz⟩ := okWide_struct Tryd.underlying24 hv
  rw [show Tryd.prog.cellsOf 24 = 5 by kernel_rfl] at hsz
  obtain ⟨L⟩ := cs
  match L, hsz with
  | [c0, c1, c2, c3, c4], _ =>
    obtain ⟨fuel, hf⟩ := h
    obtain ⟨xs, n, _, _, _, hlen, hg⟩ := DataW.trod_struct Tryd.underlying24 hf
    match xs, hlen with
    | [y0, y1, y2, y3, y4], _ =>
      have g0 := hg 0 _ rfl
      have g1 := hg 1 _ rfl
      have g2 := hg 2 _ rfl
      have g3 := hg 3 _ rfl
      have g4 := hg 4 _ rfl
      simp [Value.cells, show Tryd.prog.cellsOf 3 = 1 by kernel_rfl, show Tryd.prog.cellsOf 22 = 1 by kernel_rfl] at g0 g1 g2 g3 g4
      obtain ⟨n0, e0, _, _⟩ := DataW.trod_int Tryd.underlying3 g0
      obtain ⟨n1, e1, _, _⟩ := DataW.trod_int Tryd.underlying3 g1
      obtain ⟨n2, e2, _, _⟩ := DataW.trod_int Tryd.underlying3 g2
      obtain ⟨n3, e3, _, _⟩ := DataW.trod_int Tryd.underlying3 g3
      obtain ⟨a, c, ls, e4, hL⟩ := links_open g4
      simp at e0 e1 e2 e3
      subst e0 e1 e2 e3 e4
      exact ⟨⟨n0, n1, n2, n3, a, c, ls⟩, rfl, hL⟩

end Go.Proofs.YtaloffdkadhhnaaDoor
