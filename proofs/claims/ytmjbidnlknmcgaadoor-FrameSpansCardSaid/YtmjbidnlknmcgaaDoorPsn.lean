/- FrameSpans: for any law and any sheet, the span that the program tells is as the reference says (the least and the greatest of all final counts of endings), or the error is. Its conditions: none on the input (sheets of more than 45 balls are let by, as the statement does); the library's table deBruijn64tab reads as its own text lays it (the card ties it). -/
import Derived.Test.YtmjbidnlknmcgaaDoorRk3
import Derived.Test.YtmjbidnlknmcgaaDoorTh
set_option linter.unusedVariables false
set_option linter.unusedSimpArgs false
namespace Go.Proofs.YtmjbidnlknmcgaaDoor
open Go.RowKit


set_option maxRecDepth 100000 in
set_option maxHeartbeats 16000000 in
theorem spans_any (l : Lw) (bs : List Int) (a : Option Addr) (c : Nat) (w : World) (hs : SheetAt w a c bs) (hc : bs.length ≤ c) (hT : TabOK w) :
    Calls Tryd.prog 5 #[l.val, .slice a bs.length c] w fun e w' => e = .returned (.bool true) ∧ Below w.heap.size w w' := by
  have HT := Lib.hid hT
  have HS := Lib.hid hs
  have WAK := Lib.hid wakes_any
  clear hT hs
  by_cases hn : bs.length ≤ 45
  · have LAW := Lib.hid (law_any l)
    have LST := Lib.hid (fun w h => list_any bs a c w h (by omega))
    have FLT := Lib.hid (fun w h => fault_any l bs a c w h hn)
    have hgt : ¬ (45 : Int) < (bs.length : Int) := by omega
    by_cases he : rdE l bs = 0
    · have SPG := Lib.hid (fun a c w hs hT => span_good l bs a c w hs hT he)
      have SPR := Lib.hid (fun w hs => spanR_ref l bs a c w hs hc he)
      rw [he] at FLT
      generalize spLo l bs = lo at SPG SPR
      generalize spHi l bs = hi at SPG SPR
      obtain ⟨n, hnn⟩ : ∃ n, bs.length = n := ⟨_, rfl⟩
      rw [hnn] at LST FLT SPG SPR hgt ⊢
      clear he hn hnn hc
      unfold Lw.val at *
      go_enter Tryd.func5, Tryd.ntmps5
      go_wp2_with fail
      have A1 := WL.start w l
      generalize World.alloc w _ = w1 at A1 ⊢
      obtain ⟨k0, k1, k2, k3⟩ := WL.at A1
      go_wp2_with fail
      refine (LAW.out w1).mono ?_
      rintro e w2 ⟨rfl, hb⟩
      have A2 := WL.lo A1 hb
      clear hb A1 k0 k1 k2 k3
      go_wp2_with fail
      refine (LST.out w2 (HS.out.lo A2.out.bl)).mono ?_
      rintro e w5 ⟨v, rfl, ho, hb⟩
      obtain ⟨va, vc, rfl⟩ := own_len ho
      have A5 := WL.lo A2 hb
      have S5 := Lib.hid (own_ballsAt ho)
      clear hb ho A2
      go_wp2_with fail
      refine (SPG.out va vc w5 S5.out (HT.out.below A5.out.bl HT.out.pos)).mono ?_
      rintro e w6 ⟨rfl, hb⟩
      have A6 := WL.lo A5 hb
      have hal := below_al w6 (.cells #[.int .i64 lo, .int .i64 hi] 50)
      have A7 := WL.lo A6 hal
      have R7 : Hid (RG (w6.alloc (.cells #[.int .i64 lo, .int .i64 hi] 50)) w6.heap.size lo hi) := Lib.hid ⟨heap_alloc_new w6 _⟩
      clear hb A5 S5 hal A6
      obtain ⟨k0, k1, k2, k3⟩ := WL.at A7
      go_wp2_with fail
      obtain ⟨g6, hg6⟩ : ∃ g6, w6.heap.size = g6 := ⟨_, rfl⟩
      rw [hg6] at R7 ⊢
      clear hg6
      generalize World.alloc w6 _ = w7 at A7 R7 k0 k1 k2 k3 ⊢
      refine (FLT.out w7 (HS.out.1.lo A7.out.bl)).mono ?_
      rintro e w9 ⟨rfl, hb⟩
      have A9 := WL.lo A7 hb
      have R9 := RG.lo' R7 hb
      clear hb A7 R7 k0 k1 k2 k3
      obtain ⟨k0, k1, k2, k3⟩ := WL.at A9
      go_wp2_with fail
      refine (SPR.out w9 (HS.out.1.lo A9.out.bl)).mono ?_
      rintro e w10 ⟨rfl, hb⟩
      have A10 := WL.lo A9 hb
      have R10 := RG.lo' R9 hb
      have hal := below_al w10 (.cells #[.int .i64 lo, .int .i64 hi] 53)
      have A11 := WL.lo A10 hal
      have R11 := RG.lo' R10 hal
      have Q11 : Hid (RG3 (w10.alloc (.cells #[.int .i64 lo, .int .i64 hi] 53)) w10.heap.size lo hi) := Lib.hid ⟨heap_alloc_new w10 _⟩
      clear hb A9 R9 A10 R10 hal k0 k1 k2 k3
      go_upto_region 8 with fail
      obtain ⟨g8, hg8⟩ : ∃ g8, w10.heap.size = g8 := ⟨_, rfl⟩
      rw [hg8] at Q11 ⊢
      clear hg8
      generalize World.alloc w10 _ = w11 at A11 R11 Q11 ⊢
      obtain ⟨r0, r1⟩ := RG.at R11
      obtain ⟨q0, q1⟩ := RG3.at Q11
      go_wp2_with fail
      refine (WAK.out _ (HT.out.below A11.out.bl HT.out.pos)).mono ?_
      rintro e wC ⟨rfl, hb⟩
      have BF := Lib.hid (A11.out.bl.trans (hb.mono A11.out.bl.size))
      clear hb
      go_wp2_with fail
      go_ret
      exact ⟨rfl, BF.out⟩
    · have SPB := Lib.hid (fun a c w hs => span_bad l bs a c w hs he)
      obtain ⟨E, hE⟩ : ∃ E, rdE l bs = E := ⟨_, rfl⟩
      rw [hE] at FLT SPB he
      have he1 : (E == 0) = false := by simpa using he
      have he2 : (E != 0) = true := by simpa using he
      have he3 : (E == E) = true := by simp
      obtain ⟨n, hnn⟩ : ∃ n, bs.length = n := ⟨_, rfl⟩
      rw [hnn] at LST FLT SPB hgt ⊢
      clear hE hn hnn hc
      unfold Lw.val at *
      go_enter Tryd.func5, Tryd.ntmps5
      go_wp2_with fail
      have A1 := WL.start w l
      generalize World.alloc w _ = w1 at A1 ⊢
      obtain ⟨k0, k1, k2, k3⟩ := WL.at A1
      go_wp2_with fail
      refine (LAW.out w1).mono ?_
      rintro e w2 ⟨rfl, hb⟩
      have A2 := WL.lo A1 hb
      clear hb A1 k0 k1 k2 k3
      go_wp2_with fail
      refine (LST.out w2 (HS.out.lo A2.out.bl)).mono ?_
      rintro e w5 ⟨v, rfl, ho, hb⟩
      obtain ⟨va, vc, rfl⟩ := own_len ho
      have A5 := WL.lo A2 hb
      have S5 := Lib.hid (own_ballsAt ho)
      clear hb ho A2
      go_wp2_with fail
      refine (SPB.out va vc w5 S5.out).mono ?_
      rintro e w6 ⟨rfl, hb⟩
      have A6 := WL.lo A5 hb
      have hal := below_al w6 (.cells #[.int .i64 0, .int .i64 0] 50)
      have A7 := WL.lo A6 hal
      have R7 : Hid (RG (w6.alloc (.cells #[.int .i64 0, .int .i64 0] 50)) w6.heap.size 0 0) := Lib.hid ⟨heap_alloc_new w6 _⟩
      clear hb A5 S5 hal A6
      obtain ⟨k0, k1, k2, k3⟩ := WL.at A7
      go_wp2_with fail
      obtain ⟨g6, hg6⟩ : ∃ g6, w6.heap.size = g6 := ⟨_, rfl⟩
      rw [hg6] at R7 ⊢
      clear hg6
      generalize World.alloc w6 _ = w7 at A7 R7 k0 k1 k2 k3 ⊢
      refine (FLT.out w7 (HS.out.1.lo A7.out.bl)).mono ?_
      rintro e w9 ⟨rfl, hb⟩
      have A9 := WL.lo A7 hb
      have R9 := RG.lo' R7 hb
      clear hb A7 R7 k0 k1 k2 k3
      obtain ⟨r0, r1⟩ := RG.at R9
      go_wp2_with fail
      refine (WAK.out _ (HT.out.below A9.out.bl HT.out.pos)).mono ?_
      rintro e wC ⟨rfl, hb⟩
      have BF := Lib.hid (A9.out.bl.trans (hb.mono A9.out.bl.size))
      clear hb
      go_wp2_with fail
      go_ret
      exact ⟨rfl, BF.out⟩
  · have hgt : (45 : Int) < (bs.length : Int) := by omega
    unfold Lw.val
    go_enter Tryd.func5, Tryd.ntmps5
    go_wp2_with fail
    have A1 := WL.start w l
    generalize World.alloc w _ = w1 at A1 ⊢
    go_wp2_with fail
    refine (WAK.out _ (HT.out.below A1.out.bl HT.out.pos)).mono ?_
    rintro e w2 ⟨rfl, hb⟩
    have BF := Lib.hid (A1.out.bl.trans (hb.mono A1.out.bl.size))
    clear hb
    go_wp2_with fail
    go_ret
    exact ⟨rfl, BF.out⟩

end Go.Proofs.YtmjbidnlknmcgaaDoor

namespace Go.Proofs.YtmjbidnlknmcgaaDoor
open Go.ChangeShapes Go.WideShapes Go.ChangeAt Go.WideMaps Go.WideElems Go.RowKit Go.Joins

set_option maxRecDepth 100000 in
theorem frameSpans_lifted (os : Os) (started : os.Started) (H : Type) (enc : TypeId × Value → H) :
    ReturnsInHanded {} Tryd.checked os 5 .any (fun w args => (Rows.frameSpansSpec.pre enc Tryd.prog Tryd.f5 [] false w args ∧ laidMetH Tryd.prog laidL w) ∧ sizedMet enc Tryd.prog Tryd.f5 (OpenSpec.ofChange Rows.frameSpansSpec) false w args)
      (Rows.frameSpansSpec.post enc Tryd.prog Tryd.f5 false true false false) := by
  refine returnsInHanded_of_change_and (C := Tryd.checked) (X := fun w _ => laidMetH Tryd.prog laidL w) (fun _ _ _ hh h => h.of_heap hh) own started (by kernel_rfl) Tryd.func5
    (ChangeSpec.witness_shaped (enc := enc) (C := Tryd.checked) (os := os) (X := fun w _ => laidMetH Tryd.prog laidL w) false (World.doorLaid Tryd.prog 400 os) #[.agg #[.int .i64 0, .int .i64 0, .int .i64 0, .int .i64 0], .slice none 0 0] 8 rfl (World.shaped_of_RefB (by kernel_rfl) (by kernel_rfl)) (by kernel_rfl) (by kernel_rfl) (by kernel_rfl) (door_met os _)) ?_
  intro W base args ds gs before hval0 hW _ _ hL _
  have hval : ∀ (j : Nat) t v, Tryd.f5.params[j]? = some t → args[j]? = some v → Value.okWide Tryd.prog W .any base t v := hval0
  have hW' := hW
  obtain ⟨p, q, hA0, hV, rfl, hfz, hnd⟩ := hW
  have hA : DataW.TrodAll enc Tryd.prog W 0 (fun _ => true) true Tryd.f5.params.toList args.toList ds p := hA0
  rw [Tryd.params5] at hA hval
  obtain ⟨v0, v1, d0, d1, p0, p1, rfl, rfl, rfl, h0, h1⟩ := trodAll_two hA
  obtain ⟨rfl, rfl⟩ := trodVars_none hV
  have hT := tab_of_laid hL
  obtain ⟨l, rfl⟩ := law_open (hval 0 23 v0 rfl rfl) h0
  obtain ⟨a, c, bs, rfl, hS, hcap⟩ := sheet_open2 (hval 1 24 v1 rfl rfl) h1
  have hlt : ∀ x ∈ (p0 ++ p1) ++ [], x.block < W.heap.size := fun x hx => by simpa using hW'.lt x hx
  refine (spans_any l bs a c W hS hcap hT).mono fun e W' ⟨he, hB⟩ => ?_
  subst he
  have e1 : Rows.frameSpansSpec.fn H ([d0, d1] ++ []) = { results := [.lit (.bool true)], args := [d0, d1] } := by simp [Rows.frameSpansSpec]
  refine ⟨_, rfl, _, _, _, [], p0 ++ p1, [], hW', ?_, ?_, ?_, hB.frame _, fun h => by cases h⟩
  · rw [e1]; exact trodAll_mk1 (shut_bool Tryd.underlying4 true)
  · rw [e1]
    exact trodAll_mk2 (Below.trod laidOut (by kernel_rfl) (of_decide_eq_true (by kernel_rfl)) h0 hB (fun x hx => hlt x (by simp [hx]))) (Below.trod laidOut (by kernel_rfl) (of_decide_eq_true (by kernel_rfl)) h1 hB (fun x hx => hlt x (by simp [hx])))
  · rw [e1]; rfl

theorem frameSpans_holds : Rows.FrameSpansSaid :=
  OpenClaim.holds_of_wide 5 Tryd.f5 rfl rfl rfl rfl rfl rfl rfl ⟨rfl, rfl, rfl, rfl, rfl⟩ rfl rfl rfl rfl rfl (by kernel_rfl) Tryd.func5 (by kernel_rfl)
    (of_decide_eq_true (by kernel_rfl)) (by unfold Func.isWrapper; first | (rw [if_pos (by decide +kernel)]; kernel_rfl) | (rw [if_neg (by decide +kernel)]; exact ⟨rfl, rfl⟩))
    (fun os started H enc _ => frameSpans_lifted os started H enc)

/-- The tied card. -/
theorem frameSpans_card : Rows.FrameSpansCardSaid :=
  Claim7.holds_tied_plain_at .later [] [.data] true (true, "a66f936dd313ec0b3b774961a9c7f266eda39370b23c596a123bc58e6b1306a4") false
    frameSpans_holds (fun _ h => by cases h) (by kernel_rfl) (fun _ h => by cases h) frameSpans_row_tie rfl ⟨rfl, rfl⟩ (by kernel_rfl) rfl
    (fun f fn hf hfn => by
      obtain rfl : f = 5 := Option.some.inj ((show Tryd.prog.funcNamed "kingpin/kingpinlaw01.FrameSpans" = some 5 by kernel_rfl).symm.trans hf) |>.symm
      obtain rfl : fn = Tryd.f5 := (Option.some.inj (Tryd.func5.symm.trans hfn)).symm
      exact ⟨by kernel_rfl, fun j t ht => by
        rw [Tryd.params5] at ht
        have hm : t ∈ [23, 24] := by simpa using Array.mem_of_getElem? ht
        have hall : ([23, 24].all fun u => !Tryd.prog.wantsStandIn u) = true := by kernel_rfl
        exact (show Tryd.prog.wantsStandIn t = false by simpa using List.all_eq_true.1 hall t hm)⟩)
    (by kernel_rfl)
#print axioms frameSpans_card

end Go.Proofs.YtmjbidnlknmcgaaDoor
