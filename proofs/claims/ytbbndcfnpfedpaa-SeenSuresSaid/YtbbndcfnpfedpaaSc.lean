/- The contracts of the reference's Rising and Has. -/
import Derived.Test.YtbbndcfnpfedpaaSb
set_option linter.unusedVariables false
set_option linter.unusedSimpArgs false
namespace Go.Proofs.Ytbbndcfnpfedpaa
open Go.RowKit

attribute [local go_sem] Oper.semAt_some

set_option maxRecDepth 100000 in
set_option maxHeartbeats 4000000 in
theorem refRising_any (xs : List Int) (a : Option Addr) (c : Nat) (w : World) (hX : IntsAt w a xs) (hn : xs.length ≤ 1000) :
    Calls Try.prog 55 #[.slice a xs.length c] w fun e w' => e = .returned (.bool (riseIn 0 3 xs)) ∧ Below w.heap.size w w' := by
  have HIN : Hid (xs.Pairwise (· < ·) → (∀ x ∈ xs, inB x 0 3 = true) → riseIn 0 3 xs = true) := Lib.hid riseIn_step
  have HOUT : Hid (∀ x ∈ xs, inB x 0 3 = false → riseIn 0 3 xs = false) := Lib.hid fun x => riseIn_out
  have HR : Hid (riseB xs = false → riseIn 0 3 xs = false) := Lib.hid riseIn_not
  have HX := Lib.hid hX
  have IN := Lib.hid (fun x W => refIn_any x 0 3 W)
  have B0 := Lib.hid (Below.refl w.heap.size w)
  generalize riseIn 0 3 xs = RES at *
  clear hX
  go_enter Try.func55, Try.ntmps55
  go_wp2_with fail
  go_loopg [3] xs.length (fun g s5 wx => ∃ (i : Nat), i ≤ xs.length ∧ g = xs.length - i ∧ s5 = .int .i64 (i : Int) ∧ Hid ((xs.take i).Pairwise (· < ·) ∧ ∀ x ∈ xs.take i, inB x 0 3 = true) ∧ Hid (Below w.heap.size w wx))
  case atStart => exact ⟨0, by omega, by omega, rfl, Lib.hid (by simp), B0⟩
  case round =>
    obtain ⟨i, hi', rfl, rfl, hP, hB⟩ := hrel
    clear B0
    by_cases hlt : i < xs.length
    · obtain ⟨x, hx⟩ : ∃ x, xs[i]? = some x := ⟨xs[i]'hlt, List.getElem?_eq_getElem _⟩
      obtain ⟨g, o, rfl, k1⟩ := HX.out _ _ hx
      have hz0 : (0 : Int) ≤ (i : Int) := by omega
      have hz1 : (i : Int) < (xs.length : Int) := by omega
      have q0 := fun u : Late wr => u.cell (cell_lo hB.out k1) (cell_lt (cell_lo hB.out k1))
      have INx := Lib.hid (IN.out x)
      have HXI := Lib.hid hx
      clear hx k1
      cases hq : inB x 0 3
      · have HF := Lib.hid (HOUT.out x (List.mem_of_getElem? HXI.out) hq)
        rw [hq] at INx
        clear hq
        go_wp2_with fail
        refine wp_region_late wr (Below.refl _ _) (by kernel_rfl) (by kernel_rfl) ?_
        repeat (go_big_quiet_step ((go_at_call 66; exact Calls.late_same (INx.out _))))
        refine wpQuiet_nil ?_
        intro _ hw'
        obtain ⟨uq, hw''⟩ := hw'
        subst hw''
        have BU := Lib.hid (below_go hB.out uq.b)
        clear q0
        go_wp2_with fail
        go_returns
        exact ⟨by rw [HF.out]; first | done | rfl, BU.out⟩
      · have hxb := inB_iff.1 hq
        have HQ := Lib.hid hq
        rw [hq] at INx
        clear hq hxb
        cases i with
        | zero =>
          have P2 : Hid ((xs.take (0 + 1)).Pairwise (· < ·) ∧ ∀ x ∈ xs.take (0 + 1), inB x 0 3 = true) := Lib.hid (by
            rw [List.take_add_one, HXI.out]
            refine ⟨by simp, fun y hy => ?_⟩
            obtain rfl : y = x := by simpa using hy
            exact HQ.out)
          have z00 : ((0 : Nat) : Int) = 0 := rfl
          rw [z00] at hz1 ⊢
          simp only [Nat.add_zero] at q0
          clear hz0 z00
          go_wp2_with fail
          refine wp_region_late wr (Below.refl _ _) (by kernel_rfl) (by kernel_rfl) ?_
          repeat (go_big_quiet_step ((go_at_call 66; exact Calls.late_same (INx.out _))))
          refine wpQuiet_nil ?_
          intro _ hw'
          obtain ⟨uq, hw''⟩ := hw'
          subst hw''
          have BU := Lib.hid (below_go hB.out uq.b)
          clear q0
          go_wp2_with fail
          go_roundg (xs.length - 1)
          case measure => omega
          case rel => exact ⟨1, by omega, by omega, by first | rfl | simp, P2, BU⟩
        | succ j =>
          obtain ⟨y, hy⟩ : ∃ y, xs[j]? = some y := ⟨xs[j]'(by omega), List.getElem?_eq_getElem _⟩
          obtain ⟨g', o', he, k2⟩ := HX.out _ _ hy
          obtain ⟨rfl, rfl⟩ : g = g' ∧ o = o' := by simpa using he
          have y0 := fun u : Late wr => u.cell (cell_lo hB.out k2) (cell_lt (cell_lo hB.out k2))
          have HYI := Lib.hid hy
          have cj : ((j + 1 : Nat) : Int) = (j : Int) + 1 := by omega
          rw [cj] at hz0 hz1 ⊢
          have hj0 : (0 : Int) ≤ (j : Int) := by omega
          have hj1 : (j : Int) < (xs.length : Int) := by omega
          have hjp : (0 : Int) < (j : Int) + 1 := by omega
          have ewj : IntKind.i64.wrap ((j : Int) + 1 - 1) = (j : Int) := by rw [IntWalk.i64_in _ (by omega)]; omega
          have et : ((j : Int) + 1).toNat = j + 1 := by omega
          have ew2 : IntKind.i64.wrap ((j : Int) + 1 + 1) = (j : Int) + 1 + 1 := IntWalk.i64_in _ (by omega)
          clear hy he k2 cj
          by_cases hxy : y < x
          · have hle : decide (x ≤ y) = false := by simpa using hxy
            have P2 : Hid ((xs.take (j + 1 + 1)).Pairwise (· < ·) ∧ ∀ x ∈ xs.take (j + 1 + 1), inB x 0 3 = true) := Lib.hid ⟨rise_step hP.out.1 HYI.out HXI.out hxy, fun z hz => by
              rw [List.take_add_one, HXI.out] at hz
              rcases List.mem_append.1 hz with h | h
              · exact hP.out.2 z h
              · obtain rfl : z = x := by simpa using h
                exact HQ.out⟩
            clear hP
            go_wp2_with fail
            refine wp_region_late wr (Below.refl _ _) (by kernel_rfl) (by kernel_rfl) ?_
            repeat (go_big_quiet_step ((go_at_call 66; exact Calls.late_same (INx.out _))))
            refine wpQuiet_nil ?_
            intro _ hw'
            obtain ⟨uq, hw''⟩ := hw'
            subst hw''
            have BU := Lib.hid (below_go hB.out uq.b)
            clear q0 y0
            go_wp2_with fail
            go_roundg (xs.length - (j + 1 + 1))
            case measure => omega
            case rel => exact ⟨j + 1 + 1, by omega, rfl, by simp, P2, BU⟩
          · have hle : decide (x ≤ y) = true := by simpa using hxy
            have HF := Lib.hid (HR.out (rise_not HYI.out HXI.out hxy))
            clear hP
            go_wp2_with fail
            refine wp_region_late wr (Below.refl _ _) (by kernel_rfl) (by kernel_rfl) ?_
            repeat (go_big_quiet_step ((go_at_call 66; exact Calls.late_same (INx.out _))))
            refine wpQuiet_nil ?_
            intro _ hw'
            obtain ⟨uq, hw''⟩ := hw'
            subst hw''
            have BU := Lib.hid (below_go hB.out uq.b)
            clear q0 y0
            go_wp2_with fail
            go_returns
            exact ⟨by rw [HF.out]; first | done | rfl, BU.out⟩
    · have hz1 : ¬ (i : Int) < (xs.length : Int) := by omega
      have HF : Hid (RES = true) := Lib.hid (by
        have := hP.out
        rw [List.take_of_length_le (by omega)] at this
        exact HIN.out this.1 this.2)
      clear hP hlt
      go_wp2_with fail
      go_returns
      exact ⟨by rw [HF.out]; first | done | rfl, hB.out⟩


set_option maxRecDepth 100000 in
set_option maxHeartbeats 4000000 in
theorem refHas_any (xs : List Int) (n : Int) (a : Option Addr) (c : Nat) (w : World) (hX : IntsAt w a xs) (hn : xs.length ≤ 1000) :
    Calls Try.prog 50 #[.slice a xs.length c, .int .i64 n] w fun e w' => e = .returned (.bool (hasI xs n)) ∧ Below w.heap.size w w' := by
  have HIN : Hid (n ∈ xs → hasI xs n = true) := Lib.hid hasI_iff.2
  have HOUT : Hid ((∀ x ∈ xs, x ≠ n) → hasI xs n = false) := Lib.hid fun h => by
    cases e : hasI xs n
    · rfl
    · exact absurd rfl (h n (hasI_iff.1 e))
  have HX := Lib.hid hX
  have B0 := Lib.hid (Below.refl w.heap.size w)
  generalize hasI xs n = RES at *
  clear hX
  go_enter Try.func50, Try.ntmps50
  go_wp2_with fail
  go_loopg [5] xs.length (fun g s5 wx => ∃ (i : Nat), i ≤ xs.length ∧ g = xs.length - i ∧ s5 = .int .i64 (i : Int) ∧ Hid (∀ x ∈ xs.take i, x ≠ n) ∧ Hid (Below w.heap.size w wx))
  case atStart => exact ⟨0, by omega, by omega, rfl, Lib.hid (by simp), B0⟩
  case round =>
    obtain ⟨i, hi', rfl, rfl, hP, hB⟩ := hrel
    clear B0
    by_cases hlt : i < xs.length
    · obtain ⟨x, hx⟩ : ∃ x, xs[i]? = some x := ⟨xs[i]'hlt, List.getElem?_eq_getElem _⟩
      obtain ⟨g, o, rfl, k1⟩ := HX.out _ _ hx
      have hz0 : (0 : Int) ≤ (i : Int) := by omega
      have hz1 : (i : Int) < (xs.length : Int) := by omega
      have q0 := cell_lo hB.out k1
      have ew2 : IntKind.i64.wrap ((i : Int) + 1) = (i : Int) + 1 := IntWalk.i64_in _ (by omega)
      have HXI := Lib.hid hx
      clear hx k1
      by_cases hq : x = n
      · have HF := Lib.hid (HIN.out (by rw [← hq]; exact List.mem_of_getElem? HXI.out))
        have hb : (x == n) = true := by simpa using hq
        clear hq
        go_wp2_with fail
        go_returns
        exact ⟨by rw [HF.out]; first | done | rfl, hB.out⟩
      · have P2 : Hid (∀ x ∈ xs.take (i + 1), x ≠ n) := Lib.hid (by
          rw [take_next HXI.out]
          intro y hy
          rcases List.mem_append.1 hy with h | h
          · exact hP.out y h
          · obtain rfl : y = x := by simpa using h
            exact hq)
        have hb : (x == n) = false := by simpa using hq
        clear hq
        go_wp2_with fail
        go_roundg (xs.length - (i + 1))
        case measure => omega
        case rel => exact ⟨i + 1, by omega, rfl, by simp, P2, hB⟩
    · have hz1 : ¬ (i : Int) < (xs.length : Int) := by omega
      have HF : Hid (RES = false) := Lib.hid (by
        have := hP.out
        rw [List.take_of_length_le (by omega)] at this
        exact HOUT.out this)
      clear hP hlt
      go_wp2_with fail
      go_returns
      exact ⟨by rw [HF.out]; first | done | rfl, hB.out⟩

end Go.Proofs.Ytbbndcfnpfedpaa
