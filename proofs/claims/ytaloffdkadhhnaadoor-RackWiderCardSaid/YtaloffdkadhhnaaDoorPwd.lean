/- RackWider: for any rack, pins, ball, two numbers and link: with one range of the ball made wider or one link more, no more pins surely fall, no fewer may fall, and the bounds of what is left are no closer; with a greater reach or a link made sure, no fewer surely fall, and the most that is left is no greater. Its conditions: none on the input (what is not as the statement wants it is let by, as the statement does); the library's table deBruijn32tab reads as its own text lays it (the card ties it). -/
import Derived.Test.YtaloffdkadhhnaaDoorGm
import Derived.Test.YtaloffdkadhhnaaDoorRp4
import Derived.Test.YtaloffdkadhhnaaDoorWwd
set_option linter.unusedVariables false
set_option linter.unusedSimpArgs false
namespace Go.Proofs.YtaloffdkadhhnaaDoor
open Go.ChangeShapes Go.WideShapes Go.ChangeAt Go.WideMaps Go.WideElems Go.RowKit Go.Joins

set_option maxRecDepth 100000 in
theorem rackWider_lifted (os : Os) (started : os.Started) (H : Type) (enc : TypeId × Value → H) :
    ReturnsInHanded {} Tryd.checked os 10 .any (fun w args => (Rows.rackWiderSpec.pre enc Tryd.prog Tryd.f10 [] false w args ∧ laidMetH Tryd.prog laidL w) ∧ sizedMet enc Tryd.prog Tryd.f10 (OpenSpec.ofChange Rows.rackWiderSpec) false w args)
      (Rows.rackWiderSpec.post enc Tryd.prog Tryd.f10 false true false false) := by
  refine returnsInHanded_of_change_and (C := Tryd.checked) (X := fun w _ => laidMetH Tryd.prog laidL w) (fun _ _ _ hh h => h.of_heap hh) own started (by kernel_rfl) Tryd.func10
    (ChangeSpec.witness_shaped (enc := enc) (C := Tryd.checked) (os := os) (X := fun w _ => laidMetH Tryd.prog laidL w) false (World.doorLaid Tryd.prog 400 os) #[.agg #[.int .i64 0, .int .i64 0, .int .i64 0, .int .i64 0, .slice none 0 0], .slice none 0 0, .slice none 0 0, .int .u8 0, .int .u8 0, .agg #[.int .i64 0, .int .i64 0, .bool false]] 8 rfl (World.shaped_of_RefB (by kernel_rfl) (by kernel_rfl)) (by kernel_rfl) (by kernel_rfl) (by kernel_rfl) (door_met os _)) ?_
  intro W base args ds gs before hval0 hW _ _ hL0 _
  have hval : ∀ (j : Nat) t v, Tryd.f10.params[j]? = some t → args[j]? = some v → Value.okWide Tryd.prog W .any base t v := hval0
  have hW' := hW
  obtain ⟨p, q, hA0, hV, rfl, hfz, hnd⟩ := hW
  have hA : DataW.TrodAll enc Tryd.prog W 0 (fun _ => true) true Tryd.f10.params.toList args.toList ds p := hA0
  rw [Tryd.params10] at hA hval
  obtain ⟨v0, v1, v2, v3, v4, v5, d0, d1, d2, d3, d4, d5, p0, p1, p2, p3, p4, p5, rfl, rfl, rfl, h0, h1, h2, h3, h4, h5⟩ := trodAll_r6 hA
  obtain ⟨rfl, rfl⟩ := trodVars_none hV
  have hT := tab_of_laid hL0
  obtain ⟨r, rfl, hL⟩ := rack_open (hval 0 24 v0 rfl rfl) h0
  obtain ⟨a1, c1, xs1, rfl, hX1, hN1⟩ := ints_open (hval 1 25 v1 rfl rfl) h1
  obtain ⟨ka2, kc2, ks2, rfl, hK2, hKN2⟩ := ball_open (hval 2 47 v2 rfl rfl) h2
  obtain ⟨u3, rfl, hU3⟩ := u8_open (hval 3 5 v3 rfl rfl) h3
  obtain ⟨u4, rfl, hU4⟩ := u8_open (hval 4 5 v4 rfl rfl) h4
  obtain ⟨l5, rfl⟩ := link_open (hval 5 91 v5 rfl rfl) h5
  have hlt : ∀ x ∈ (p0 ++ (p1 ++ (p2 ++ (p3 ++ (p4 ++ p5))))) ++ [], x.block < W.heap.size := fun x hx => by simpa using hW'.lt x hx
  refine (rackWider_any r xs1 a1 c1 ks2 ka2 kc2 u3 u4 l5 W hL hX1 hN1 hK2 hU3 hU4 hT).mono fun e W' ⟨he, hB⟩ => ?_
  subst he
  have e1 : Rows.rackWiderSpec.fn H ([d0, d1, d2, d3, d4, d5] ++ []) = { results := [.lit (.bool true)], args := [d0, d1, d2, d3, d4, d5] } := by simp [Rows.rackWiderSpec]
  refine ⟨_, rfl, _, _, _, [], p0 ++ (p1 ++ (p2 ++ (p3 ++ (p4 ++ p5)))), [], hW', ?_, ?_, ?_, hB.frame _, fun h => by cases h⟩
  · rw [e1]; exact trodAll_mk1 (shut_bool Tryd.underlying4 true)
  · rw [e1]
    exact trodAll_m6 (Below.trod laidOut (by kernel_rfl) (of_decide_eq_true (by kernel_rfl)) h0 hB (fun x hx => hlt x (by simp [hx]))) (Below.trod laidOut (by kernel_rfl) (of_decide_eq_true (by kernel_rfl)) h1 hB (fun x hx => hlt x (by simp [hx]))) (Below.trod laidOut (by kernel_rfl) (of_decide_eq_true (by kernel_rfl)) h2 hB (fun x hx => hlt x (by simp [hx]))) (Below.trod laidOut (by kernel_rfl) (of_decide_eq_true (by kernel_rfl)) h3 hB (fun x hx => hlt x (by simp [hx]))) (Below.trod laidOut (by kernel_rfl) (of_decide_eq_true (by kernel_rfl)) h4 hB (fun x hx => hlt x (by simp [hx]))) (Below.trod laidOut (by kernel_rfl) (of_decide_eq_true (by kernel_rfl)) h5 hB (fun x hx => hlt x (by simp [hx])))
  · rw [e1]; rfl

theorem rackWider_holds : Rows.RackWiderSaid :=
  OpenClaim.holds_of_wide 10 Tryd.f10 rfl rfl rfl rfl rfl rfl rfl ⟨rfl, rfl, rfl, rfl, rfl⟩ rfl rfl rfl rfl rfl (by kernel_rfl) Tryd.func10 (by kernel_rfl)
    (of_decide_eq_true (by kernel_rfl)) (by unfold Func.isWrapper; first | (rw [if_pos (by decide +kernel)]; kernel_rfl) | (rw [if_neg (by decide +kernel)]; exact ⟨rfl, rfl⟩))
    (fun os started H enc _ => rackWider_lifted os started H enc)

/-- The tied card. -/
theorem rackWider_card : Rows.RackWiderCardSaid :=
  Claim7.holds_tied_plain_at .later [] [.data] true (true, "1b2694aa29309c032bae00cd4f2d437dcd1d4c33af43b672871c2a96e49026e5") false
    rackWider_holds (fun _ h => by cases h) (by kernel_rfl) (fun _ h => by cases h) rackWider_row_tie rfl ⟨rfl, rfl⟩ (by kernel_rfl) rfl
    (fun f fn hf hfn => by
      obtain rfl : f = 10 := Option.some.inj ((show Tryd.prog.funcNamed "kingpin/kingpinlaw02.RackWider" = some 10 by kernel_rfl).symm.trans hf) |>.symm
      obtain rfl : fn = Tryd.f10 := (Option.some.inj (Tryd.func10.symm.trans hfn)).symm
      exact ⟨by kernel_rfl, fun j t ht => by
        rw [Tryd.params10] at ht
        have hm : t ∈ [24, 25, 47, 5, 5, 91] := by simpa using Array.mem_of_getElem? ht
        have hall : ([24, 25, 47, 5, 5, 91].all fun u => !Tryd.prog.wantsStandIn u) = true := by kernel_rfl
        exact (show Tryd.prog.wantsStandIn t = false by simpa using List.all_eq_true.1 hall t hm)⟩)
    (by kernel_rfl)
#print axioms rackWider_card

end Go.Proofs.YtaloffdkadhhnaaDoor
