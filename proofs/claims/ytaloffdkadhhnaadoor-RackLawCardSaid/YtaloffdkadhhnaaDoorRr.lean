/- The contract of the reference's Rising. -/
import Derived.Test.YtaloffdkadhhnaaDoorRp
import Derived.Test.YtaloffdkadhhnaaDoorCw
set_option linter.unusedVariables false
set_option linter.unusedSimpArgs false
namespace Go.Proofs.YtaloffdkadhhnaaDoor
open Go.RowKit

attribute [local go_sem] Oper.semAt_some

set_option maxRecDepth 100000 in
set_option maxHeartbeats 4000000 in
theorem rising_any (r : Rk) (xs : List Int) (a : Option Addr) (c : Nat) (w : World) (h1 : 1 ≤ r.rows) (h2 : r.rows ≤ 4) (hX : IntsAt w a xs) (hn : xs.length ≤ 1000) :
    Calls Tryd.prog 60 #[r.val, .slice a xs.length c] w fun e w' => e = .returned (.bool (hasL r xs)) ∧ Below w.heap.size w w' := by
  have PN := Lib.hid (fun W => refPins_any r W h1 h2)
  have HIN : Hid (xs.Pairwise (· < ·) → (∀ x ∈ xs, 0 ≤ x ∧ x < pinsN r.rows) → hasL r xs = true) := Lib.hid hasL_in
  have HOUT : Hid (∀ x ∈ xs, inB x 0 (pinsN r.rows - 1) = false → hasL r xs = false) := Lib.hid (fun x hx hb => by
    cases hh : hasL r xs
    · rfl
    · have := (hasL_out hh).2 x hx
      rw [inB_iff.2 ⟨this.1, by omega⟩] at hb; cases hb)
  have HR : Hid (riseB xs = false → hasL r xs = false) := Lib.hid (fun h => by unfold hasL; rw [h]; rfl)
  have IN := Lib.hid (fun x W => refIn_any x 0 (pinsN r.rows - 1) W)
  have HP := Lib.hid (@pinsN_bd r)
  have HX := Lib.hid hX
  have R0 := Lib.hid (Blk.new w (rCells r) 24)
  have B0 := Lib.hid (below_al w (.cells (rCells r) 24))
  generalize hasL r xs = RES at *
  generalize pinsN r.rows = P at *
  unfold rCells at R0 B0
  unfold Rk.val at PN
  unfold Rk.val
  clear hX h1 h2
  go_enter Tryd.func60, Tryd.ntmps60
  go_wp2_with fail
  go_loopg [5] xs.length (fun g s5 wx => ∃ (i : Nat), i ≤ xs.length ∧ g = xs.length - i ∧ s5 = .int .i64 (i : Int) ∧ Hid ((xs.take i).Pairwise (· < ·) ∧ ∀ x ∈ xs.take i, 0 ≤ x ∧ x < P) ∧ Hid (Below w.heap.size w wx) ∧ Hid (Blk wx w.heap.size #[.int .i64 r.rows, .int .i64 r.mid, .int .i64 r.gap, .int .i64 r.reach, .slice r.la r.ls.length r.lc] 24))
  case atStart => exact ⟨0, by omega, by omega, rfl, Lib.hid (by simp), B0, R0⟩
  case round =>
    obtain ⟨i, hi, rfl, rfl, hP, hB, hR⟩ := hrel
    clear B0 R0
    by_cases hlt : i < xs.length
    · obtain ⟨x, hx⟩ : ∃ x, xs[i]? = some x := ⟨xs[i]'hlt, List.getElem?_eq_getElem _⟩
      obtain ⟨g, o, rfl, k1⟩ := HX.out _ _ hx
      have hz0 : (0 : Int) ≤ (i : Int) := by omega
      have hz1 : (i : Int) < (xs.length : Int) := by omega
      have hP1 := HP.out
      have ew : IntKind.i64.wrap (P - 1) = P - 1 := IntWalk.i64_in _ (by omega)
      have INx := Lib.hid (IN.out x)
      have q0 := fun u : Late wr => u.cell (cell_lo hB.out k1) (cell_lt (cell_lo hB.out k1))
      have p0 := fun u : Late wr => u.cell (hR.out.cell 0 (show _ = some (Value.int .i64 r.rows) from rfl)) hR.out.lt
      have p1 := fun u : Late wr => u.cell (hR.out.cell 1 (show _ = some (Value.int .i64 r.mid) from rfl)) hR.out.lt
      have p2 := fun u : Late wr => u.cell (hR.out.cell 2 (show _ = some (Value.int .i64 r.gap) from rfl)) hR.out.lt
      have p3 := fun u : Late wr => u.cell (hR.out.cell 3 (show _ = some (Value.int .i64 r.reach) from rfl)) hR.out.lt
      have p4 := fun u : Late wr => u.cell (hR.out.cell 4 (show _ = some (Value.slice r.la r.ls.length r.lc) from rfl)) hR.out.lt
      have HXI := Lib.hid hx
      clear hx hP1
      cases hq : inB x 0 (P - 1)
      · have HF := Lib.hid (HOUT.out x (List.mem_of_getElem? HXI.out) hq)
        rw [hq] at INx
        clear hq
        go_wp2_with fail
        refine wp_region_late wr (Below.refl _ _) (by kernel_rfl) (by kernel_rfl) ?_
        repeat (go_big_quiet_step ((first | (go_at_call 23; exact Calls.late (PN.out _)) | (go_at_call 42; exact Calls.late_same (INx.out _)))))
        refine wpQuiet_nil ?_
        intro _ hw'
        obtain ⟨uq, hw''⟩ := hw'
        subst hw''
        go_wp2_with fail
        go_returns
        exact ⟨by rw [HF.out]; first | done | rfl, below_go hB.out uq.b⟩
      · have hxb := inB_iff.1 hq
        rw [hq] at INx
        have hxb2 := Lib.hid (show 0 ≤ x ∧ x < P by omega)
        clear hq hxb
        cases i with
        | zero =>
          have P2 : Hid ((xs.take (0 + 1)).Pairwise (· < ·) ∧ ∀ x ∈ xs.take (0 + 1), 0 ≤ x ∧ x < P) := Lib.hid (by
            rw [List.take_add_one, HXI.out]
            refine ⟨by simp, fun y hy => ?_⟩
            obtain rfl : y = x := by simpa using hy
            exact hxb2.out)
          have z00 : ((0 : Nat) : Int) = 0 := rfl
          rw [z00] at hz1 ⊢
          simp only [Nat.add_zero] at q0
          clear hz0 z00
          go_wp2_with fail
          refine wp_region_late wr (Below.refl _ _) (by kernel_rfl) (by kernel_rfl) ?_
          repeat (go_big_quiet_step ((first | (go_at_call 23; exact Calls.late (PN.out _)) | (go_at_call 42; exact Calls.late_same (INx.out _)))))
          refine wpQuiet_nil ?_
          intro _ hw'
          obtain ⟨uq, hw''⟩ := hw'
          subst hw''
          have BU := Lib.hid (below_go hB.out uq.b)
          have RU := Lib.hid (Blk.alt hR.out (Alt.of_below (p := fun _ => False) uq.b (fun k hk h => by omega)) id)
          clear q0 p0 p1 p2 p3 p4
          go_wp2_with fail
          go_roundg (xs.length - 1)
          case measure => omega
          case rel => exact ⟨1, by omega, by omega, by first | rfl | simp, P2, BU, RU⟩
        | succ j =>
          obtain ⟨y, hy⟩ : ∃ y, xs[j]? = some y := ⟨xs[j]'(by omega), List.getElem?_eq_getElem _⟩
          obtain ⟨g', o', he, k2⟩ := HX.out _ _ hy
          obtain ⟨rfl, rfl⟩ : g = g' ∧ o = o' := by simpa using he
          have y0 := fun u : Late wr => u.cell (cell_lo hB.out k2) (cell_lt (cell_lo hB.out k2))
          have HYI := Lib.hid hy
          have cj : ((j + 1 : Nat) : Int) = (j : Int) + 1 := by omega
          rw [cj] at hz0 hz1 ⊢
          have hj0 : (0 : Int) ≤ (j : Int) := by omega
          have hj1 : (j : Int) < (xs.length : Int) := by omega
          have hjp : (0 : Int) < (j : Int) + 1 := by omega
          have ewj : IntKind.i64.wrap ((j : Int) + 1 - 1) = (j : Int) := by rw [IntWalk.i64_in _ (by omega)]; omega
          have et : ((j : Int) + 1).toNat = j + 1 := by omega
          clear hy he k2 cj
          by_cases hxy : y < x
          · have hle : decide (x ≤ y) = false := by simpa using hxy
            have P2 : Hid ((xs.take (j + 1 + 1)).Pairwise (· < ·) ∧ ∀ x ∈ xs.take (j + 1 + 1), 0 ≤ x ∧ x < P) := Lib.hid ⟨rise_step hP.out.1 HYI.out HXI.out hxy, fun z hz => by
              rw [List.take_add_one, HXI.out] at hz
              rcases List.mem_append.1 hz with h | h
              · exact hP.out.2 z h
              · obtain rfl : z = x := by simpa using h
                exact hxb2.out⟩
            clear hP
            go_wp2_with fail
            refine wp_region_late wr (Below.refl _ _) (by kernel_rfl) (by kernel_rfl) ?_
            repeat (go_big_quiet_step ((first | (go_at_call 23; exact Calls.late (PN.out _)) | (go_at_call 42; exact Calls.late_same (INx.out _)))))
            refine wpQuiet_nil ?_
            intro _ hw'
            obtain ⟨uq, hw''⟩ := hw'
            subst hw''
            have BU := Lib.hid (below_go hB.out uq.b)
            have RU := Lib.hid (Blk.alt hR.out (Alt.of_below (p := fun _ => False) uq.b (fun k hk h => by omega)) id)
            clear q0 p0 p1 p2 p3 p4
            clear y0
            go_wp2_with fail
            go_roundg (xs.length - (j + 1 + 1))
            case measure => omega
            case rel => exact ⟨j + 1 + 1, by omega, rfl, by simp, P2, BU, RU⟩
          · have hle : decide (x ≤ y) = true := by simpa using hxy
            have HF := Lib.hid (HR.out (rise_not HYI.out HXI.out hxy))
            clear hP
            go_wp2_with fail
            refine wp_region_late wr (Below.refl _ _) (by kernel_rfl) (by kernel_rfl) ?_
            repeat (go_big_quiet_step ((first | (go_at_call 23; exact Calls.late (PN.out _)) | (go_at_call 42; exact Calls.late_same (INx.out _)))))
            refine wpQuiet_nil ?_
            intro _ hw'
            obtain ⟨uq, hw''⟩ := hw'
            subst hw''
            have BU := Lib.hid (below_go hB.out uq.b)
            have RU := Lib.hid (Blk.alt hR.out (Alt.of_below (p := fun _ => False) uq.b (fun k hk h => by omega)) id)
            clear q0 p0 p1 p2 p3 p4
            clear y0
            go_wp2_with fail
            go_returns
            exact ⟨by rw [HF.out]; first | done | rfl, BU.out⟩
    · have hz1 : ¬ (i : Int) < (xs.length : Int) := by omega
      have HF : Hid (RES = true) := Lib.hid (by
        have := hP.out
        rw [List.take_of_length_le (by omega)] at this
        exact HIN.out this.1 this.2)
      clear hP hlt
      go_wp2_with fail
      go_returns
      exact ⟨by rw [HF.out]; first | done | rfl, hB.out⟩

end Go.Proofs.YtaloffdkadhhnaaDoor
