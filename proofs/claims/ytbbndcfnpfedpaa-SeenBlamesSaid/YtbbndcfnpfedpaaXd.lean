/- The contract of the reference's Least. -/
import Derived.Test.YtbbndcfnpfedpaaXc
set_option linter.unusedVariables false
set_option linter.unusedSimpArgs false
namespace Go.Proofs.Ytbbndcfnpfedpaa
open Go.RowKit Go.Shelf

attribute [local go_sem] Oper.semAt_some

theorem sets_len : setsL.length = 16 ∧ ∀ ts ∈ setsL, ts.length ≤ 4 := by decide
theorem least_hit {l : Lan} {i : Nat} {row : List Int} (h0 : (setsL.take i).find? (fun ts => explB l ts) = none) (h : setsL[i]? = some row) (he : explB l row = true) : leastN l = row := by
  unfold leastN
  have e : setsL = setsL.take i ++ row :: setsL.drop (i + 1) := by
    conv => lhs; rw [← List.take_append_drop (i + 1) setsL]
    rw [take_next h, List.append_assoc]; rfl
  have h2 : (setsL.find? fun ts => explB l ts) = some row := by
    rw [e, List.find?_append, h0, List.find?_cons]; simp [he]
  rw [h2]; rfl
theorem least_miss {l : Lan} {i : Nat} {row : List Int} (h0 : (setsL.take i).find? (fun ts => explB l ts) = none) (h : setsL[i]? = some row) (he : explB l row = false) : (setsL.take (i + 1)).find? (fun ts => explB l ts) = none := by
  rw [take_next h, List.find?_append, h0, List.find?_cons]; simp [he]
theorem least_none {l : Lan} (h0 : (setsL.take 16).find? (fun ts => explB l ts) = none) : leastN l = [] := by
  unfold leastN
  rw [show setsL = setsL.take 16 from rfl]
  rw [h0]; rfl

set_option maxRecDepth 100000 in
set_option maxHeartbeats 8000000 in
theorem refLeast_any (l : Lan) (w : World) (hL : WdsAt w l.wa l.ws) (hF : faultW l = 0) :
    Calls Try.prog 35 #[l.val] w fun e w' => ∃ a c, e = .returned (.slice a (leastN l).length c) ∧ IntsAt w' a (leastN l) ∧ Below w.heap.size w w' := by
  have SR := Lib.hid (fun W => sets_ref W)
  have ER := Lib.hid (fun (i : Nat) (row : List Int) (hi : setsL[i]? = some row) (a : Option Addr) (c : Nat) W (hb : Below w.heap.size w W) (hX : IntsAt W a row) => (show Calls Try.prog 25 #[l.val, .slice a row.length c] W (fun e w' => e = .returned (.bool (explB l row)) ∧ Below W.heap.size W w') from
    explains_ref l row a c W (hL.lo hb) hX (by have := sets_len.2 row (List.mem_of_getElem? hi); omega) (chkE_ok hF (sets_rise row (List.mem_of_getElem? hi)))))
  have X := Lib.hid (BX.mk' l w)
  have HH := Lib.hid (fun i row => least_hit (l := l) (i := i) (row := row))
  have HM := Lib.hid (fun i row => least_miss (l := l) (i := i) (row := row))
  have HN := Lib.hid (least_none (l := l))
  have SLN := Lib.hid sets_len.1
  obtain ⟨T, hT⟩ : ∃ T, Hid (T = setsL) := ⟨_, Lib.hid rfl⟩
  rw [← hT.out] at SR ER HH HM HN SLN
  have F0 := Lib.hid (show (T.take 0).find? (fun ts => explB l ts) = none from rfl)
  unfold Lan.val at *
  generalize leastN l = LN at *
  clear hL hF
  go_enter Try.func35, Try.ntmps35
  go_wp2_with fail
  generalize w.alloc _ = W0 at X ⊢
  refine (SR.out _).mono ?_
  rintro e w1 ⟨a1, c1, rfl, hG, hg, hb⟩
  replace X := Lib.hid (X.out.lo hb)
  have G1 := Lib.hid hG
  clear hG hg hb SR
  rw [SLN.out]
  go_wp2_with fail
  go_loopg [4] 16 (fun g s4 wx => ∃ i : Nat, i ≤ 16 ∧ g = 16 - i ∧ s4 = .int .i64 (i : Int) ∧ Hid ((T.take i).find? (fun ts => explB l ts) = none) ∧ Hid (BX l w wx) ∧ Hid (GAt wx a1 T))
  case atStart => exact ⟨0, by omega, by omega, rfl, F0, X, G1⟩
  case round =>
    obtain ⟨i, hi, rfl, rfl, hno, hX, hG⟩ := hrel
    clear X G1
    by_cases hlt : i < 16
    · have hz1 : (i : Int) < 16 := by omega
      have hz0 : (0 : Int) ≤ (i : Int) := by omega
      have e2 : IntKind.i64.wrap ((i : Int) + 1) = (i : Int) + 1 := IntWalk.i64_in _ (by omega)
      have HI := Lib.hid hlt
      obtain ⟨row, hrow⟩ : ∃ row, T[i]? = some row := ⟨T[i]'(by have := SLN.out; omega), List.getElem?_eq_getElem _⟩
      obtain ⟨g, o, a', c', rfl, q1, q2⟩ := hG.out i row hrow
      have k0 := hX.out.b.cell 0 (show _ = some (Value.int .i64 l.fs) from rfl)
      have k1 := hX.out.b.cell 1 (show _ = some (Value.slice l.wa l.ws.length l.wc) from rfl)
      have m0 := fun u : Late wr => u.cell k0 (cell_lt k0)
      have m1 := fun u : Late wr => u.cell k1 (cell_lt k1)
      have m2 := fun u : Late wr => u.cell q1 (cell_lt q1)
      have EU := Lib.hid (fun u : Late wr => ER.out i row hrow a' c' u.W (below_go hX.out.bl u.b) (q2.lo u.b))
      have Q2 := Lib.hid q2
      have HY := Lib.hid (HH.out i row hno.out hrow)
      have HZ := Lib.hid (HM.out i row hno.out hrow)
      clear hlt hi hrow hno q2
      go_wp2_with fail
      refine wp_region_late wr (Below.refl _ _) (by kernel_rfl) (by kernel_rfl) ?_
      repeat (go_big_quiet_step ((first | (go_at_call 25; exact Calls.late (EU.out _)))))
      refine wpQuiet_nil ?_
      intro _ hw'
      obtain ⟨uq, hw''⟩ := hw'
      subst hw''
      have XU := Lib.hid (hX.out.lo uq.b)
      have GU := Lib.hid (hG.out.lo uq.b)
      have RU := Lib.hid (Q2.out.lo uq.b)
      have q1 := cell_lo uq.b q1
      clear m0 m1 m2 k0 k1 EU
      cases he : explB l row
      · have HN2 := Lib.hid (HZ.out he)
        clear he q1
        go_wp2_with fail
        go_roundg (16 - (i + 1))
        case measure => have := HI.out; omega
        case rel => exact ⟨i + 1, by have := HI.out; omega, rfl, by simp, HN2, XU, GU⟩
      · have HE := Lib.hid (HY.out he)
        clear he
        have he2 := HE.out
        subst he2
        go_wp2_with fail
        go_returns
        first
        | exact ⟨a', ⟨c', rfl⟩, RU.out, XU.out.bl⟩
        | exact ⟨a', c', rfl, RU.out, XU.out.bl⟩
    · have hz1 : ¬ (i : Int) < 16 := by omega
      obtain rfl : i = 16 := by omega
      have HE := Lib.hid (HN.out hno.out)
      clear hno hlt
      have he2 := HE.out
      subst he2
      have HNI := Lib.hid (show ∀ W, IntsAt W none [] from fun W i v h => by simp at h)
      go_wp2_with fail
      go_returns
      first
      | exact ⟨none, ⟨0, rfl⟩, HNI.out _, hX.out.bl⟩
      | exact ⟨none, 0, rfl, HNI.out _, hX.out.bl⟩

end Go.Proofs.Ytbbndcfnpfedpaa
