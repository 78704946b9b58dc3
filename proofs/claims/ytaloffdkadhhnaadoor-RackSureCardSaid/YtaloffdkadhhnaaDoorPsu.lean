/- RackSure: for any rack, pins (of at most 6 that stand) and ball, each pin that surely falls may; each pin that may fall is not in some leave that there can be, and each that does not surely fall is in some (all leaves are tried); Left has the least and the greatest of them. Its conditions: none on the input (what is not as the statement wants it is let by, as the statement does); the library's table deBruijn32tab reads as its own text lays it (the card ties it). -/
import Derived.Test.YtaloffdkadhhnaaDoorGm
import Derived.Test.YtaloffdkadhhnaaDoorWsu
set_option linter.unusedVariables false
set_option linter.unusedSimpArgs false
namespace Go.Proofs.YtaloffdkadhhnaaDoor
open Go.ChangeShapes Go.WideShapes Go.ChangeAt Go.WideMaps Go.WideElems Go.RowKit Go.Joins

set_option maxRecDepth 100000 in
theorem rackSure_lifted (os : Os) (started : os.Started) (H : Type) (enc : TypeId × Value → H) :
    ReturnsInHanded {} Tryd.checked os 9 .any (fun w args => (Rows.rackSureSpec.pre enc Tryd.prog Tryd.f9 [] false w args ∧ laidMetH Tryd.prog laidL w) ∧ sizedMet enc Tryd.prog Tryd.f9 (OpenSpec.ofChange Rows.rackSureSpec) false w args)
      (Rows.rackSureSpec.post enc Tryd.prog Tryd.f9 false true false false) := by
  refine returnsInHanded_of_change_and (C := Tryd.checked) (X := fun w _ => laidMetH Tryd.prog laidL w) (fun _ _ _ hh h => h.of_heap hh) own started (by kernel_rfl) Tryd.func9
    (ChangeSpec.witness_shaped (enc := enc) (C := Tryd.checked) (os := os) (X := fun w _ => laidMetH Tryd.prog laidL w) false (World.doorLaid Tryd.prog 400 os) #[.agg #[.int .i64 0, .int .i64 0, .int .i64 0, .int .i64 0, .slice none 0 0], .slice none 0 0, .slice none 0 0] 8 rfl (World.shaped_of_RefB (by kernel_rfl) (by kernel_rfl)) (by kernel_rfl) (by kernel_rfl) (by kernel_rfl) (door_met os _)) ?_
  intro W base args ds gs before hval0 hW _ _ hL0 _
  have hval : ∀ (j : Nat) t v, Tryd.f9.params[j]? = some t → args[j]? = some v → Value.okWide Tryd.prog W .any base t v := hval0
  have hW' := hW
  obtain ⟨p, q, hA0, hV, rfl, hfz, hnd⟩ := hW
  have hA : DataW.TrodAll enc Tryd.prog W 0 (fun _ => true) true Tryd.f9.params.toList args.toList ds p := hA0
  rw [Tryd.params9] at hA hval
  obtain ⟨v0, v1, v2, d0, d1, d2, p0, p1, p2, rfl, rfl, rfl, h0, h1, h2⟩ := trodAll_r3 hA
  obtain ⟨rfl, rfl⟩ := trodVars_none hV
  have hT := tab_of_laid hL0
  obtain ⟨r, rfl, hL⟩ := rack_open (hval 0 24 v0 rfl rfl) h0
  obtain ⟨a1, c1, xs1, rfl, hX1, hN1⟩ := ints_open (hval 1 25 v1 rfl rfl) h1
  obtain ⟨ka2, kc2, ks2, rfl, hK2, hKN2⟩ := ball_open (hval 2 47 v2 rfl rfl) h2
  have hlt : ∀ x ∈ (p0 ++ (p1 ++ p2)) ++ [], x.block < W.heap.size := fun x hx => by simpa using hW'.lt x hx
  refine (rackSure_any r xs1 a1 c1 ks2 ka2 kc2 W hL hX1 hN1 hK2 hT).mono fun e W' ⟨he, hB⟩ => ?_
  subst he
  have e1 : Rows.rackSureSpec.fn H ([d0, d1, d2] ++ []) = { results := [.lit (.bool true)], args := [d0, d1, d2] } := by simp [Rows.rackSureSpec]
  refine ⟨_, rfl, _, _, _, [], p0 ++ (p1 ++ p2), [], hW', ?_, ?_, ?_, hB.frame _, fun h => by cases h⟩
  · rw [e1]; exact trodAll_mk1 (shut_bool Tryd.underlying4 true)
  · rw [e1]
    exact trodAll_mk3 (Below.trod laidOut (by kernel_rfl) (of_decide_eq_true (by kernel_rfl)) h0 hB (fun x hx => hlt x (by simp [hx]))) (Below.trod laidOut (by kernel_rfl) (of_decide_eq_true (by kernel_rfl)) h1 hB (fun x hx => hlt x (by simp [hx]))) (Below.trod laidOut (by kernel_rfl) (of_decide_eq_true (by kernel_rfl)) h2 hB (fun x hx => hlt x (by simp [hx])))
  · rw [e1]; rfl

theorem rackSure_holds : Rows.RackSureSaid :=
  OpenClaim.holds_of_wide 9 Tryd.f9 rfl rfl rfl rfl rfl rfl rfl ⟨rfl, rfl, rfl, rfl, rfl⟩ rfl rfl rfl rfl rfl (by kernel_rfl) Tryd.func9 (by kernel_rfl)
    (of_decide_eq_true (by kernel_rfl)) (by unfold Func.isWrapper; first | (rw [if_pos (by decide +kernel)]; kernel_rfl) | (rw [if_neg (by decide +kernel)]; exact ⟨rfl, rfl⟩))
    (fun os started H enc _ => rackSure_lifted os started H enc)

/-- The tied card. -/
theorem rackSure_card : Rows.RackSureCardSaid :=
  Claim7.holds_tied_plain_at .later [] [.data] true (true, "1b2694aa29309c032bae00cd4f2d437dcd1d4c33af43b672871c2a96e49026e5") false
    rackSure_holds (fun _ h => by cases h) (by kernel_rfl) (fun _ h => by cases h) rackSure_row_tie rfl ⟨rfl, rfl⟩ (by kernel_rfl) rfl
    (fun f fn hf hfn => by
      obtain rfl : f = 9 := Option.some.inj ((show Tryd.prog.funcNamed "kingpin/kingpinlaw02.RackSure" = some 9 by kernel_rfl).symm.trans hf) |>.symm
      obtain rfl : fn = Tryd.f9 := (Option.some.inj (Tryd.func9.symm.trans hfn)).symm
      exact ⟨by kernel_rfl, fun j t ht => by
        rw [Tryd.params9] at ht
        have hm : t ∈ [24, 25, 47] := by simpa using Array.mem_of_getElem? ht
        have hall : ([24, 25, 47].all fun u => !Tryd.prog.wantsStandIn u) = true := by kernel_rfl
        exact (show Tryd.prog.wantsStandIn t = false by simpa using List.all_eq_true.1 hall t hm)⟩)
    (by kernel_rfl)
#print axioms rackSure_card

end Go.Proofs.YtaloffdkadhhnaaDoor
