/- FrameWins: for any law, any sheets that are games' and any words: who may win and who surely wins, as Ahead tells of the sheets, holds of the whole games that Ended makes of them. Its conditions: none on the input; the library's table deBruijn64tab reads as its own text lays it (the card ties it). -/
import Derived.Test.YtmjbidnlknmcgabDoorRk2
import Derived.Test.YtmjbidnlknmcgabDoorWk
import Derived.Deep.Matrix
set_option linter.unusedVariables false
set_option linter.unusedSimpArgs false
namespace Go.Proofs.YtmjbidnlknmcgabDoor
open Go.ChangeShapes Go.WideShapes Go.ChangeAt Go.WideMaps Go.WideElems Go.RowKit Go.Joins

theorem cellsS : Tryd.prog.cellsOf 28 = 1 := by kernel_rfl

set_option maxRecDepth 100000 in
theorem sheets_open {H : Type} {enc : TypeId × Value → H} {W : World} {base : Nat} {v : Value} {d : DataW H} {p : List MemPlace} (hv : Value.okWide Tryd.prog W .any base 24 v) (h : DataW.Trod enc Tryd.prog W 0 (fun _ => true) true 24 v d p) :
    ∃ a c SS, v = .slice a SS.length c ∧ SheetsAt W a SS ∧ HdOK SS := by
  obtain ⟨a0, len, cap, rfl⟩ := okWide_slice Tryd.underlying24 hv
  obtain ⟨fuel, hf⟩ := h
  rcases Go.Deep.open_int_rows Tryd.underlying24 Tryd.underlying28 Tryd.underlying3 cellsS cells3 hf with ⟨hcs, hx⟩ | ⟨a, len', cap', A, L, C, Z, hcs, _, hl, hm, hx, hr⟩
  · simp [Value.cells] at hcs
    obtain ⟨rfl, rfl, rfl⟩ := hcs
    exact ⟨none, 0, [], rfl, fun i v h => by simp at h, fun q hq => by cases hq⟩
  · simp [Value.cells] at hcs
    obtain ⟨rfl, rfl, rfl⟩ := hcs
    refine ⟨some a, cap, (List.range len).map fun r => (A r, C r, (Z r).take (L r)), by simp, ?_, ?_⟩
    · intro i q hq
      rw [List.getElem?_map] at hq
      by_cases hi : i < len
      · rw [List.getElem?_range hi] at hq
        simp only [Option.map_some, Option.some.injEq] at hq
        subst hq
        obtain ⟨b, off, spot⟩ := a
        obtain ⟨h1, h2, h3, h4, _, h5, h6⟩ := hr i (by omega)
        have hspot : spot = none := by
          have h0 := (hr 0 (by omega)).1
          simpa [Addr.add] using World.cell?_spot h0
        subst hspot
        rw [add_plain] at h1
        have hlen : ((Z i).take (L i)).length = L i := by rw [List.length_take, h4]; omega
        refine ⟨b, off, rfl, ?_, ?_⟩
        · simp only [hlen]; exact h1
        · intro j x hx
          simp only at hx ⊢
          rw [List.getElem?_take] at hx
          split at hx
          · rename_i hj
            cases hA : A i with
            | none => have := h5 hA; omega
            | some a' =>
              obtain ⟨b2, off2, spot2⟩ := a'
              have h7 := (h6 _ hA).2
              have hs2 : spot2 = none := by
                have h0 := h7 0 (by omega)
                simpa [Addr.add] using World.cell?_spot h0
              subst hs2
              refine ⟨b2, off2, rfl, ?_⟩
              have h8 := h7 j (by omega)
              rw [add_plain] at h8
              rw [h8]
              simp [List.getD, hx]
          · cases hx
      · rw [List.getElem?_eq_none (by simp; omega)] at hq
        cases hq
    · intro q hq
      obtain ⟨r, hr1, rfl⟩ := List.mem_map.1 hq
      have hr2 : r < len := List.mem_range.1 hr1
      obtain ⟨h1, h2, h3, h4, _, h5, h6⟩ := hr r (by omega)
      refine ⟨fun e => ?_, ?_⟩
      · have h8 := h5 e
        refine ⟨h8, List.eq_nil_of_length_eq_zero ?_⟩
        simp only [List.length_take, h4]
        omega
      · simp only [List.length_take, h4]
        omega

theorem cells5 : Tryd.prog.cellsOf 5 = 1 := by kernel_rfl
theorem under25 : Tryd.prog.underlying 25 = some (.slice 5) := by kernel_rfl
set_option maxRecDepth 100000 in
theorem words_open {H : Type} {enc : TypeId × Value → H} {W : World} {base : Nat} {v : Value} {d : DataW H} {p : List MemPlace} (hv : Value.okWide Tryd.prog W .any base 25 v) (h : DataW.Trod enc Tryd.prog W 0 (fun _ => true) true 25 v d p) :
    ∃ a c ws, v = .slice a ws.length c ∧ WordsAt W a ws ∧ ws.length ≤ c ∧ (ws = [] ∨ ∃ xs ys, d = .slice xs ys ∧ xs.length + ys.length = c) := by
  obtain ⟨a0, len, cap, rfl⟩ := okWide_slice under25 hv
  obtain ⟨fuel, hf⟩ := h
  rcases open_ints under25 Tryd.underlying5 cells5 hf with ⟨hcs, hx⟩ | ⟨a, len', cap', zs, hcs, _, hl, hm, hz, hx, hcell, hwz⟩
  · simp [Value.cells] at hcs
    obtain ⟨rfl, rfl, rfl⟩ := hcs
    exact ⟨none, 0, [], rfl, fun i v h => by simp at h, by simp, .inl rfl⟩
  · simp [Value.cells] at hcs
    obtain ⟨rfl, rfl, rfl⟩ := hcs
    simp only [if_true] at hz
    have hlen : (zs.take len).length = len := by simp; omega
    refine ⟨some a, cap, zs.take len, by rw [hlen], ?_, by rw [hlen]; exact hl, .inr ⟨Go.ChangeShapes.lits .u8 (zs.take len), Go.ChangeShapes.lits .u8 (zs.drop len), (Prod.mk.inj hx).1, by unfold Go.ChangeShapes.lits; simp only [List.length_map, List.length_take, List.length_drop]; omega⟩⟩
    intro i x hix
    have hmem : x ∈ zs := List.mem_of_mem_take (List.mem_of_getElem? hix)
    have hw := hwz x hmem
    rw [List.getElem?_take] at hix
    split at hix
    · rename_i hi
      obtain ⟨b, off, spot⟩ := a
      have hspot : spot = none := by simpa [Addr.add] using World.cell?_spot (hcell 0 (by omega))
      subst hspot
      refine ⟨⟨b, off, rfl, ?_⟩, ?_⟩
      · have := hcell i (by omega)
        rw [add_plain] at this
        rw [this]
        simp [List.getD, hix]
      · simp [Lit.wf, IntKind.min, IntKind.max, IntKind.signed, IntKind.bits] at hw
        omega
    · cases hix

set_option maxRecDepth 100000 in
theorem frameWins_lifted (os : Os) (started : os.Started) (H : Type) (enc : TypeId × Value → H) :
    ReturnsInHanded {} Tryd.checked os 3 .any (fun w args => (Rows.frameWinsSpec.pre enc Tryd.prog Tryd.f3 [] false w args ∧ laidMetH Tryd.prog laidL w) ∧ sizedMet enc Tryd.prog Tryd.f3 (OpenSpec.ofChange Rows.frameWinsSpec) false w args)
      (Rows.frameWinsSpec.post enc Tryd.prog Tryd.f3 false true false false) := by
  refine returnsInHanded_of_change_and (C := Tryd.checked) (X := fun w _ => laidMetH Tryd.prog laidL w) (fun _ _ _ hh h => h.of_heap hh) own started (by kernel_rfl) Tryd.func3
    (ChangeSpec.witness_shaped (enc := enc) (C := Tryd.checked) (os := os) (X := fun w _ => laidMetH Tryd.prog laidL w) false (World.doorLaid Tryd.prog 400 os) #[.agg #[.int .i64 0, .int .i64 0, .int .i64 0, .int .i64 0], .slice none 0 0, .slice none 0 0] 8 rfl (World.shaped_of_RefB (by kernel_rfl) (by kernel_rfl)) (by kernel_rfl) (by kernel_rfl) (by kernel_rfl) (door_met os _)) ?_
  intro W base args ds gs before hval0 hW _ hsz hL _
  have hval : ∀ (j : Nat) t v, Tryd.f3.params[j]? = some t → args[j]? = some v → Value.okWide Tryd.prog W .any base t v := hval0
  have hW' := hW
  obtain ⟨p, q, hA0, hV, rfl, hfz, hnd⟩ := hW
  have hA : DataW.TrodAll enc Tryd.prog W 0 (fun _ => true) true Tryd.f3.params.toList args.toList ds p := hA0
  rw [Tryd.params3] at hA hval
  obtain ⟨v0, v1, v2, d0, d1, d2, p0, p1, p2, rfl, rfl, rfl, h0, h1, h2⟩ := trodAll_three hA
  obtain ⟨rfl, rfl⟩ := trodVars_none hV
  have hT := tab_of_laid hL
  obtain ⟨l, rfl⟩ := law_open (hval 0 23 v0 rfl rfl) h0
  obtain ⟨a, c, SS, rfl, hS, hH⟩ := sheets_open (hval 1 24 v1 rfl rfl) h1
  obtain ⟨wa, wcp, ws, rfl, hWd, hwc, hwd⟩ := words_open (hval 2 25 v2 rfl rfl) h2
  have hw47 : ws.length + 1 ≤ 140737488355328 := by
    rcases hwd with rfl | ⟨xs, ys, rfl, hc⟩
    · simp
    · have hsz2 : (DataW.weightsEach Tryd.prog [23, 24, 25] [d0, d1, DataW.slice xs ys]).all (· ≤ reachBytes) = true := hsz
      have := List.all_eq_true.1 hsz2 _ (DataW.weights_mem_each (P := Tryd.prog) (j := 2) (t := 25) rfl rfl ((xs.length + ys.length) * Tryd.prog.bytesOf 5) (by simp [DataW.weights, DataW.weightsEach, under25]))
      rw [show Tryd.prog.bytesOf 5 = 1 by kernel_rfl] at this
      have this := of_decide_eq_true this
      unfold reachBytes at this
      omega
  have hlt : ∀ x ∈ (p0 ++ p1 ++ p2) ++ [], x.block < W.heap.size := fun x hx => by
    have h := hW'.lt x
    simp only [List.append_nil, List.mem_append] at h hx
    exact h hx
  refine (wins_any l SS a c wa ws wcp W hS hH hWd hwc hw47 hT).mono fun e W' ⟨he, hB⟩ => ?_
  subst he
  have e1 : Rows.frameWinsSpec.fn H ([d0, d1, d2] ++ []) = { results := [.lit (.bool true)], args := [d0, d1, d2] } := by simp [Rows.frameWinsSpec]
  refine ⟨_, rfl, _, _, _, [], p0 ++ (p1 ++ p2), [], by simpa using hW', ?_, ?_, ?_, hB.frame _, fun h => by cases h⟩
  · rw [e1]; exact trodAll_mk1 (shut_bool Tryd.underlying4 true)
  · rw [e1]
    exact trodAll_mk3 (Below.trod laidOut (by kernel_rfl) (of_decide_eq_true (by kernel_rfl)) h0 hB (fun x hx => hlt x (by simp [hx]))) (Below.trod laidOut (by kernel_rfl) (of_decide_eq_true (by kernel_rfl)) h1 hB (fun x hx => hlt x (by simp [hx]))) (Below.trod laidOut (by kernel_rfl) (of_decide_eq_true (by kernel_rfl)) h2 hB (fun x hx => hlt x (by simp [hx])))
  · rw [e1]; rfl

theorem frameWins_holds : Rows.FrameWinsSaid :=
  OpenClaim.holds_of_wide 3 Tryd.f3 rfl rfl rfl rfl rfl rfl rfl ⟨rfl, rfl, rfl, rfl, rfl⟩ rfl rfl rfl rfl rfl (by kernel_rfl) Tryd.func3 (by kernel_rfl)
    (of_decide_eq_true (by kernel_rfl)) (by unfold Func.isWrapper; first | (rw [if_pos (by decide +kernel)]; kernel_rfl) | (rw [if_neg (by decide +kernel)]; exact ⟨rfl, rfl⟩))
    (fun os started H enc _ => frameWins_lifted os started H enc)

/-- The tied card. -/
theorem frameWins_card : Rows.FrameWinsCardSaid :=
  Claim7.holds_tied_plain_at .later [] [.data] true (true, "4ffa6d8fcb94f7a4c6812d945bac4a000acc9f9a2dc7cd820e8b834ea9d938f6") false
    frameWins_holds (fun _ h => by cases h) (by kernel_rfl) (fun _ h => by cases h) frameWins_row_tie rfl ⟨rfl, rfl⟩ (by kernel_rfl) rfl
    (fun f fn hf hfn => by
      obtain rfl : f = 3 := Option.some.inj ((show Tryd.prog.funcNamed "kingpin/kingpinlaw01.FrameWins" = some 3 by kernel_rfl).symm.trans hf) |>.symm
      obtain rfl : fn = Tryd.f3 := (Option.some.inj (Tryd.func3.symm.trans hfn)).symm
      exact ⟨by kernel_rfl, fun j t ht => by
        rw [Tryd.params3] at ht
        have hm : t ∈ [23, 24, 25] := by simpa using Array.mem_of_getElem? ht
        have hall : ([23, 24, 25].all fun u => !Tryd.prog.wantsStandIn u) = true := by kernel_rfl
        exact (show Tryd.prog.wantsStandIn t = false by simpa using List.all_eq_true.1 hall t hm)⟩)
    (by kernel_rfl)
#print axioms frameWins_card

end Go.Proofs.YtmjbidnlknmcgabDoor
