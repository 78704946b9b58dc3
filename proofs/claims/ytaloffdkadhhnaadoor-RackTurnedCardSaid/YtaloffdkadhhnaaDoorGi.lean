/- The contracts of the reference's In, Pins and Rising. The contract of the reference's Rising. The contract of the reference's Fault. The contract of the law's Rack. The contracts of the law's fault and pinned. -/
import Derived.Test.YtaloffdkadhhnaaDoorGb
import Derived.Test.YtaloffdkadhhnaaDoorGd
import Derived.Test.YtaloffdkadhhnaaDoorGh
import Derived.Test.YtaloffdkadhhnaaDoorGa
set_option linter.unusedVariables false
set_option linter.unusedSimpArgs false

namespace Go.Proofs.YtaloffdkadhhnaaDoor
open Go.RowKit

attribute [local go_sem] Oper.semAt_some

set_option maxHeartbeats 400000 in
theorem refIn_any (n lo hi : Int) (w : World) :
    Calls Tryd.prog 42 #[.int .i64 n, .int .i64 lo, .int .i64 hi] w fun e w' => e = .returned (.bool (inB n lo hi)) ∧ w = w' := by
  unfold inB
  by_cases h : lo ≤ n
  · go_enter Tryd.func42, Tryd.ntmps42
    go_wp2
    go_ret
    exact ⟨by simp [h], rfl⟩
  · have h' : n < lo := by omega
    go_enter Tryd.func42, Tryd.ntmps42
    go_wp2
    go_ret
    exact ⟨by rw [decide_eq_false (show ¬ lo ≤ n by omega)]; rfl, rfl⟩

set_option maxHeartbeats 400000 in
theorem refPins_any (r : Rk) (w : World) (h1 : 1 ≤ r.rows) (h2 : r.rows ≤ 4) :
    Calls Tryd.prog 23 #[r.val] w fun e w' => e = .returned (.int .i64 (pinsN r.rows)) ∧ Below w.heap.size w w' := by
  obtain ⟨rows, mid, gap, reach, la, lc, ls⟩ := r
  have h : rows = 1 ∨ rows = 2 ∨ rows = 3 ∨ rows = 4 := by simp only at h1 h2; omega
  unfold Rk.val
  rcases h with rfl | rfl | rfl | rfl <;>
  · clear h1 h2
    go_enter Tryd.func23, Tryd.ntmps23
    go_wp2
    go_ret
    exact ⟨rfl, (Below.refl _ _).alloc (Nat.le_refl _) _⟩

end Go.Proofs.YtaloffdkadhhnaaDoor

namespace Go.Proofs.YtaloffdkadhhnaaDoor
open Go.RowKit

attribute [local go_sem] Oper.semAt_some

set_option maxRecDepth 100000 in
set_option maxHeartbeats 4000000 in
theorem rising_any (r : Rk) (xs : List Int) (a : Option Addr) (c : Nat) (w : World) (h1 : 1 ≤ r.rows) (h2 : r.rows ≤ 4) (hX : IntsAt w a xs) (hn : xs.length ≤ 1000) :
    Calls Tryd.prog 60 #[r.val, .slice a xs.length c] w fun e w' => e = .returned (.bool (hasL r xs)) ∧ Below w.heap.size w w' := by
  have PN := Lib.hid (fun W => refPins_any r W h1 h2)
  have HIN : Hid (xs.Pairwise (· < ·) → (∀ x ∈ xs, 0 ≤ x ∧ x < pinsN r.rows) → hasL r xs = true) := Lib.hid hasL_in
  have HOUT : Hid (∀ x ∈ xs, inB x 0 (pinsN r.rows - 1) = false → hasL r xs = false) := Lib.hid (fun x hx hb => by
    cases hh : hasL r xs
    · rfl
    · have := (hasL_out hh).2 x hx
      rw [inB_iff.2 ⟨this.1, by omega⟩] at hb; cases hb)
  have HR : Hid (riseB xs = false → hasL r xs = false) := Lib.hid (fun h => by unfold hasL; rw [h]; rfl)
  have IN := Lib.hid (fun x W => refIn_any x 0 (pinsN r.rows - 1) W)
  have HP := Lib.hid (@pinsN_bd r)
  have HX := Lib.hid hX
  have R0 := Lib.hid (Blk.new w (rCells r) 24)
  have B0 := Lib.hid (below_al w (.cells (rCells r) 24))
  generalize hasL r xs = RES at *
  generalize pinsN r.rows = P at *
  unfold rCells at R0 B0
  unfold Rk.val at PN
  unfold Rk.val
  clear hX h1 h2
  go_enter Tryd.func60, Tryd.ntmps60
  go_wp2_with fail
  go_loopg [5] xs.length (fun g s5 wx => ∃ (i : Nat), i ≤ xs.length ∧ g = xs.length - i ∧ s5 = .int .i64 (i : Int) ∧ Hid ((xs.take i).Pairwise (· < ·) ∧ ∀ x ∈ xs.take i, 0 ≤ x ∧ x < P) ∧ Hid (Below w.heap.size w wx) ∧ Hid (Blk wx w.heap.size #[.int .i64 r.rows, .int .i64 r.mid, .int .i64 r.gap, .int .i64 r.reach, .slice r.la r.ls.length r.lc] 24))
  case atStart => exact ⟨0, by omega, by omega, rfl, Lib.hid (by simp), B0, R0⟩
  case round =>
    obtain ⟨i, hi, rfl, rfl, hP, hB, hR⟩ := hrel
    clear B0 R0
    by_cases hlt : i < xs.length
    · obtain ⟨x, hx⟩ : ∃ x, xs[i]? = some x := ⟨xs[i]'hlt, List.getElem?_eq_getElem _⟩
      obtain ⟨g, o, rfl, k1⟩ := HX.out _ _ hx
      have hz0 : (0 : Int) ≤ (i : Int) := by omega
      have hz1 : (i : Int) < (xs.length : Int) := by omega
      have hP1 := HP.out
      have ew : IntKind.i64.wrap (P - 1) = P - 1 := IntWalk.i64_in _ (by omega)
      have INx := Lib.hid (IN.out x)
      have q0 := fun u : Late wr => u.cell (cell_lo hB.out k1) (cell_lt (cell_lo hB.out k1))
      have p0 := fun u : Late wr => u.cell (hR.out.cell 0 (show _ = some (Value.int .i64 r.rows) from rfl)) hR.out.lt
      have p1 := fun u : Late wr => u.cell (hR.out.cell 1 (show _ = some (Value.int .i64 r.mid) from rfl)) hR.out.lt
      have p2 := fun u : Late wr => u.cell (hR.out.cell 2 (show _ = some (Value.int .i64 r.gap) from rfl)) hR.out.lt
      have p3 := fun u : Late wr => u.cell (hR.out.cell 3 (show _ = some (Value.int .i64 r.reach) from rfl)) hR.out.lt
      have p4 := fun u : Late wr => u.cell (hR.out.cell 4 (show _ = some (Value.slice r.la r.ls.length r.lc) from rfl)) hR.out.lt
      have HXI := Lib.hid hx
      clear hx hP1
      cases hq : inB x 0 (P - 1)
      · have HF := Lib.hid (HOUT.out x (List.mem_of_getElem? HXI.out) hq)
        rw [hq] at INx
        clear hq
        go_wp2_with fail
        refine wp_region_late wr (Below.refl _ _) (by kernel_rfl) (by kernel_rfl) ?_
        repeat (go_big_quiet_step ((first | (go_at_call 23; exact Calls.late (PN.out _)) | (go_at_call 42; exact Calls.late_same (INx.out _)))))
        refine wpQuiet_nil ?_
        intro _ hw'
        obtain ⟨uq, hw''⟩ := hw'
        subst hw''
        go_wp2_with fail
        go_returns
        exact ⟨by rw [HF.out]; first | done | rfl, below_go hB.out uq.b⟩
      · have hxb := inB_iff.1 hq
        rw [hq] at INx
        have hxb2 := Lib.hid (show 0 ≤ x ∧ x < P by omega)
        clear hq hxb
        cases i with
        | zero =>
          have P2 : Hid ((xs.take (0 + 1)).Pairwise (· < ·) ∧ ∀ x ∈ xs.take (0 + 1), 0 ≤ x ∧ x < P) := Lib.hid (by
            rw [List.take_add_one, HXI.out]
            refine ⟨by simp, fun y hy => ?_⟩
            obtain rfl : y = x := by simpa using hy
            exact hxb2.out)
          have z00 : ((0 : Nat) : Int) = 0 := rfl
          rw [z00] at hz1 ⊢
          simp only [Nat.add_zero] at q0
          clear hz0 z00
          go_wp2_with fail
          refine wp_region_late wr (Below.refl _ _) (by kernel_rfl) (by kernel_rfl) ?_
          repeat (go_big_quiet_step ((first | (go_at_call 23; exact Calls.late (PN.out _)) | (go_at_call 42; exact Calls.late_same (INx.out _)))))
          refine wpQuiet_nil ?_
          intro _ hw'
          obtain ⟨uq, hw''⟩ := hw'
          subst hw''
          have BU := Lib.hid (below_go hB.out uq.b)
          have RU := Lib.hid (Blk.alt hR.out (Alt.of_below (p := fun _ => False) uq.b (fun k hk h => by omega)) id)
          clear q0 p0 p1 p2 p3 p4
          go_wp2_with fail
          go_roundg (xs.length - 1)
          case measure => omega
          case rel => exact ⟨1, by omega, by omega, by first | rfl | simp, P2, BU, RU⟩
        | succ j =>
          obtain ⟨y, hy⟩ : ∃ y, xs[j]? = some y := ⟨xs[j]'(by omega), List.getElem?_eq_getElem _⟩
          obtain ⟨g', o', he, k2⟩ := HX.out _ _ hy
          obtain ⟨rfl, rfl⟩ : g = g' ∧ o = o' := by simpa using he
          have y0 := fun u : Late wr => u.cell (cell_lo hB.out k2) (cell_lt (cell_lo hB.out k2))
          have HYI := Lib.hid hy
          have cj : ((j + 1 : Nat) : Int) = (j : Int) + 1 := by omega
          rw [cj] at hz0 hz1 ⊢
          have hj0 : (0 : Int) ≤ (j : Int) := by omega
          have hj1 : (j : Int) < (xs.length : Int) := by omega
          have hjp : (0 : Int) < (j : Int) + 1 := by omega
          have ewj : IntKind.i64.wrap ((j : Int) + 1 - 1) = (j : Int) := by rw [IntWalk.i64_in _ (by omega)]; omega
          have et : ((j : Int) + 1).toNat = j + 1 := by omega
          clear hy he k2 cj
          by_cases hxy : y < x
          · have hle : decide (x ≤ y) = false := by simpa using hxy
            have P2 : Hid ((xs.take (j + 1 + 1)).Pairwise (· < ·) ∧ ∀ x ∈ xs.take (j + 1 + 1), 0 ≤ x ∧ x < P) := Lib.hid ⟨rise_step hP.out.1 HYI.out HXI.out hxy, fun z hz => by
              rw [List.take_add_one, HXI.out] at hz
              rcases List.mem_append.1 hz with h | h
              · exact hP.out.2 z h
              · obtain rfl : z = x := by simpa using h
                exact hxb2.out⟩
            clear hP
            go_wp2_with fail
            refine wp_region_late wr (Below.refl _ _) (by kernel_rfl) (by kernel_rfl) ?_
            repeat (go_big_quiet_step ((first | (go_at_call 23; exact Calls.late (PN.out _)) | (go_at_call 42; exact Calls.late_same (INx.out _)))))
            refine wpQuiet_nil ?_
            intro _ hw'
            obtain ⟨uq, hw''⟩ := hw'
            subst hw''
            have BU := Lib.hid (below_go hB.out uq.b)
            have RU := Lib.hid (Blk.alt hR.out (Alt.of_below (p := fun _ => False) uq.b (fun k hk h => by omega)) id)
            clear q0 p0 p1 p2 p3 p4
            clear y0
            go_wp2_with fail
            go_roundg (xs.length - (j + 1 + 1))
            case measure => omega
            case rel => exact ⟨j + 1 + 1, by omega, rfl, by simp, P2, BU, RU⟩
          · have hle : decide (x ≤ y) = true := by simpa using hxy
            have HF := Lib.hid (HR.out (rise_not HYI.out HXI.out hxy))
            clear hP
            go_wp2_with fail
            refine wp_region_late wr (Below.refl _ _) (by kernel_rfl) (by kernel_rfl) ?_
            repeat (go_big_quiet_step ((first | (go_at_call 23; exact Calls.late (PN.out _)) | (go_at_call 42; exact Calls.late_same (INx.out _)))))
            refine wpQuiet_nil ?_
            intro _ hw'
            obtain ⟨uq, hw''⟩ := hw'
            subst hw''
            have BU := Lib.hid (below_go hB.out uq.b)
            have RU := Lib.hid (Blk.alt hR.out (Alt.of_below (p := fun _ => False) uq.b (fun k hk h => by omega)) id)
            clear q0 p0 p1 p2 p3 p4
            clear y0
            go_wp2_with fail
            go_returns
            exact ⟨by rw [HF.out]; first | done | rfl, BU.out⟩
    · have hz1 : ¬ (i : Int) < (xs.length : Int) := by omega
      have HF : Hid (RES = true) := Lib.hid (by
        have := hP.out
        rw [List.take_of_length_le (by omega)] at this
        exact HIN.out this.1 this.2)
      clear hP hlt
      go_wp2_with fail
      go_returns
      exact ⟨by rw [HF.out]; first | done | rfl, hB.out⟩

end Go.Proofs.YtaloffdkadhhnaaDoor

namespace Go.Proofs.YtaloffdkadhhnaaDoor
open Go.RowKit

attribute [local go_sem] Oper.semAt_some

set_option maxRecDepth 100000 in
set_option maxHeartbeats 8000000 in
theorem refFault_any (r : Rk) (w : World) (hL : LinksAt w r.la r.ls) (hn : r.ls.length ≤ 1000) :
    Calls Tryd.prog 58 #[r.val] w fun e w' => e = .returned (.int .i64 (faultN r)) ∧ Below w.heap.size w w' := by
  have HFV := Lib.hid (show faultN r = if fewB r.ls then (if validB r then 0 else 1) else 3 from rfl)
  have HV0 := Lib.hid (show validB r = (inB r.rows 1 4 && (inB r.mid 0 60 && (inB r.gap 1 8 && (inB r.reach 0 10 && !(r.ls.any (wrongB r)))))) from rfl)
  have HFW := Lib.hid (show fewB r.ls = (decide (r.ls.length ≤ 12) && decide (unsureN r.ls ≤ 6)) from rfl)
  have PN := Lib.hid (fun h1 h2 W => refPins_any r W h1 h2)
  have HP := Lib.hid (@pinsN_bd r)
  have HW := Lib.hid (show ∀ l, wrongB r l = (!(inB l.fr 0 (pinsN r.rows - 1)) || (!(inB l.to 0 (pinsN r.rows - 1)) || l.fr == l.to)) from fun l => rfl)
  have HL := Lib.hid hL
  have R0 := Lib.hid (Blk.new w (rCells r) 24)
  have B0 := Lib.hid (below_al w (.cells (rCells r) 24))
  generalize faultN r = RES at *
  generalize validB r = VB at *
  generalize fewB r.ls = FB at *
  generalize pinsN r.rows = P at *
  generalize wrongB r = WB at *
  unfold rCells at R0 B0
  unfold Rk.val at PN
  unfold Rk.val
  clear hL
  obtain ⟨rows, mid, gap, reach, la, lc, L⟩ := r
  simp only at *
  go_enter Tryd.func58, Tryd.ntmps58
  go_wp2_with fail
  go_loopg [3, 4] L.length (fun g s3 s4 wx => ∃ (i u : Nat), i ≤ L.length ∧ g = L.length - i ∧ s4 = .int .i64 (i : Int) ∧ s3 = .int .i64 (u : Int) ∧ u ≤ i ∧ Hid (u = unsureN (L.take i)) ∧ w.alloc (.cells #[.int .i64 rows, .int .i64 mid, .int .i64 gap, .int .i64 reach, .slice la L.length lc] 24) = wx)
  case atStart => exact ⟨0, 0, by omega, by omega, rfl, rfl, by omega, Lib.hid (by simp [unsureN]), rfl⟩
  case round =>
    obtain ⟨i, u, hi, rfl, rfl, rfl, hu, hA, rfl⟩ := hrel
    by_cases hlt : i < L.length
    · have hz0 : (0 : Int) ≤ (i : Int) := by omega
      have hz1 : (i : Int) < (L.length : Int) := by omega
      obtain ⟨l, hl⟩ : ∃ l, L[i]? = some l := ⟨L[i]'hlt, List.getElem?_eq_getElem _⟩
      obtain ⟨g, o, rfl, k1, k2, k3⟩ := HL.out i _ hl
      have c3 : (w.alloc (.cells #[.int .i64 rows, .int .i64 mid, .int .i64 gap, .int .i64 reach, .slice (some ⟨g, o, none⟩) L.length lc] 24)).cell? ⟨g, o + i * 3 + 2, none⟩ = some (.bool l.sr) := cell_lo B0.out k3
      have hT := Lib.hid (show unsureN (L.take (i + 1)) = unsureN (L.take i) + if l.sr then 0 else 1 from by rw [List.take_add_one, hl]; exact unsure_snoc _ _)
      clear k1 k2 k3 hl
      obtain ⟨fr, to, sr⟩ := l
      simp only at *
      cases sr
      · go_wp2_with fail
        go_roundg (L.length - (i + 1))
        case measure => omega
        case rel => exact ⟨i + 1, u + 1, by omega, rfl, by simp, by simp, by omega, Lib.hid (by rw [hT.out, hA.out]; rfl), rfl⟩
      · go_wp2_with fail
        go_roundg (L.length - (i + 1))
        case measure => omega
        case rel => exact ⟨i + 1, u, by omega, rfl, by simp, rfl, by omega, Lib.hid (by rw [hT.out, hA.out]; rfl), rfl⟩
    · have hz1 : ¬ (i : Int) < (L.length : Int) := by omega
      have hE := Lib.hid (show unsureN L = u from by
        have h1 := hA.out
        rw [List.take_of_length_le (by omega)] at h1; exact h1.symm)
      clear hA hlt
      by_cases h12 : L.length ≤ 12
      · have h12' : ¬ (12 : Int) < (L.length : Int) := by omega
        by_cases h6 : u ≤ 6
        · have h6' : ¬ (6 : Int) < (u : Int) := by omega
          have HFB : Hid (RES = if VB = true then 0 else 1) := Lib.hid (by rw [HFV.out, HFW.out, hE.out, decide_eq_true h12, decide_eq_true h6]; rfl)
          clear h12 h6 HFV HFW
          go_wp2_with fail
          refine (refIn_any _ _ _ _).mono ?_
          rintro e w1 ⟨rfl, rfl⟩
          cases hq1 : inB rows 1 4
          · have HV := Lib.hid (show RES = 1 by rw [HFB.out, HV0.out, hq1]; rfl)
            clear hq1
            go_wp2_with fail
            go_returns
            exact ⟨by rw [HV.out]; first | done | rfl, B0.out⟩
          · go_wp2_with fail
            refine (refIn_any _ _ _ _).mono ?_
            rintro e w1 ⟨rfl, rfl⟩
            cases hq2 : inB mid 0 60
            · have HV := Lib.hid (show RES = 1 by rw [HFB.out, HV0.out, hq1, hq2]; rfl)
              clear hq1 hq2
              go_wp2_with fail
              go_returns
              exact ⟨by rw [HV.out]; first | done | rfl, B0.out⟩
            · go_wp2_with fail
              refine (refIn_any _ _ _ _).mono ?_
              rintro e w1 ⟨rfl, rfl⟩
              cases hq3 : inB gap 1 8
              · have HV := Lib.hid (show RES = 1 by rw [HFB.out, HV0.out, hq1, hq2, hq3]; rfl)
                clear hq1 hq2 hq3
                go_wp2_with fail
                go_returns
                exact ⟨by rw [HV.out]; first | done | rfl, B0.out⟩
              · go_wp2_with fail
                refine (refIn_any _ _ _ _).mono ?_
                rintro e w1 ⟨rfl, rfl⟩
                cases hq4 : inB reach 0 10
                · have HV := Lib.hid (show RES = 1 by rw [HFB.out, HV0.out, hq1, hq2, hq3, hq4]; rfl)
                  clear hq1 hq2 hq3 hq4
                  go_wp2_with fail
                  go_returns
                  exact ⟨by rw [HV.out]; first | done | rfl, B0.out⟩
                · have HV1 := Lib.hid (show RES = if L.any WB = true then 1 else 0 by rw [HFB.out, HV0.out, hq1, hq2, hq3, hq4]; cases L.any WB <;> rfl)
                  have hrb := inB_iff.1 hq1
                  have PN := Lib.hid (fun W => PN.out hrb.1 hrb.2 W)
                  clear hq1 hq2 hq3 hq4 hrb HFB HV0 hE hu
                  go_wp2_with fail
                  go_loopg [5] L.length (fun g s5 wx => ∃ (i : Nat), i ≤ L.length ∧ g = L.length - i ∧ s5 = .int .i64 (i : Int) ∧ Hid ((L.take i).any WB = false) ∧ Hid (Below w.heap.size w wx) ∧ Hid (Blk wx w.heap.size #[.int .i64 rows, .int .i64 mid, .int .i64 gap, .int .i64 reach, .slice la L.length lc] 24))
                  case atStart => exact ⟨0, by omega, by omega, rfl, Lib.hid (by simp), B0, R0⟩
                  case round =>
                    obtain ⟨i, hi, rfl, rfl, hA, hB, hR⟩ := hrel
                    clear B0 R0
                    have r4 : wr.cell? ⟨w.heap.size, 4, none⟩ = some (.slice la L.length lc) := hR.out.cell 4 rfl
                    by_cases hlt : i < L.length
                    · have hz0 : (0 : Int) ≤ (i : Int) := by omega
                      have hz1 : (i : Int) < (L.length : Int) := by omega
                      obtain ⟨l, hl⟩ : ∃ l, L[i]? = some l := ⟨L[i]'hlt, List.getElem?_eq_getElem _⟩
                      obtain ⟨g, o, rfl, k1, k2, k3⟩ := HL.out i _ hl
                      have c1 : wr.cell? ⟨g, o + i * 3, none⟩ = some (.int .i64 l.fr) := cell_lo hB.out k1
                      have c2 : wr.cell? ⟨g, o + i * 3 + 1, none⟩ = some (.int .i64 l.to) := cell_lo hB.out k2
                      have c3 : wr.cell? ⟨g, o + i * 3 + 2, none⟩ = some (.bool l.sr) := cell_lo hB.out k3
                      have hT := Lib.hid (show (L.take (i + 1)).any WB = ((L.take i).any WB || WB l) from by rw [List.take_add_one, hl]; simp)
                      have hLA : Hid (WB l = true → L.any WB = true) := Lib.hid (fun h => List.any_eq_true.2 ⟨l, List.mem_of_getElem? hl, h⟩)
                      have HWl := Lib.hid (HW.out l)
                      have hP1 := HP.out
                      have ew : IntKind.i64.wrap (P - 1) = P - 1 := IntWalk.i64_in _ (by omega)
                      have I1 := Lib.hid (fun W => refIn_any l.fr 0 (P - 1) W)
                      have I2 := Lib.hid (fun W => refIn_any l.to 0 (P - 1) W)
                      obtain ⟨W0, hW0⟩ : ∃ W0, Hid (W0 = wr.alloc (.cells #[.int .i64 l.fr, .int .i64 l.to, .bool l.sr] 91)) := ⟨_, Lib.hid rfl⟩
                      have B3 : Hid (Below w.heap.size w W0) := Lib.hid (by rw [hW0.out]; exact below_al2 hB.out _)
                      have R3 : Hid (Blk W0 w.heap.size #[.int .i64 rows, .int .i64 mid, .int .i64 gap, .int .i64 reach, .slice (some ⟨g, o, none⟩) L.length lc] 24) := Lib.hid (by rw [hW0.out]; exact Blk.alt hR.out ((Alt.refl (fun _ => False) wr).alloc _) id)
                      have T3 : Hid (Blk W0 wr.heap.size #[.int .i64 l.fr, .int .i64 l.to, .bool l.sr] 91) := Lib.hid (by rw [hW0.out]; exact Blk.new wr _ _)
                      clear k1 k2 k3 hl hP1 hB hR
                      obtain ⟨fr, to, sr⟩ := l
                      simp only at *
                      have p0 := fun u : Late W0 => u.cell (R3.out.cell 0 (show _ = some (Value.int .i64 rows) from rfl)) R3.out.lt
                      have p1 := fun u : Late W0 => u.cell (R3.out.cell 1 (show _ = some (Value.int .i64 mid) from rfl)) R3.out.lt
                      have p2 := fun u : Late W0 => u.cell (R3.out.cell 2 (show _ = some (Value.int .i64 gap) from rfl)) R3.out.lt
                      have p3 := fun u : Late W0 => u.cell (R3.out.cell 3 (show _ = some (Value.int .i64 reach) from rfl)) R3.out.lt
                      have p4 := fun u : Late W0 => u.cell (R3.out.cell 4 (show _ = some (Value.slice (some ⟨g, o, none⟩) L.length lc) from rfl)) R3.out.lt
                      have t0 := fun u : Late W0 => u.cell (T3.out.cell 0 (show _ = some (Value.int .i64 fr) from rfl)) T3.out.lt
                      have t1 := fun u : Late W0 => u.cell (T3.out.cell 1 (show _ = some (Value.int .i64 to) from rfl)) T3.out.lt
                      have t2 := fun u : Late W0 => u.cell (T3.out.cell 2 (show _ = some (Value.bool sr) from rfl)) T3.out.lt
                      cases hq1 : inB fr 0 (P - 1)
                      · have HV := Lib.hid (show RES = 1 by rw [HV1.out, if_pos (hLA.out (by rw [HWl.out, hq1]; rfl))])
                        rw [hq1] at I1
                        clear hq1 hT hLA HWl I2
                        go_wp2_with fail
                        have hWo := hW0.out
                        rw [← hWo]
                        clear hWo r4 c1 c2 c3
                        refine wp_region_late W0 (Below.refl _ _) (by kernel_rfl) (by kernel_rfl) ?_
                        repeat (go_big_quiet_step ((first | (go_at_call 23; exact Calls.late (PN.out _)) | (go_at_call 42; (first | (with_reducible exact Calls.late_same (I1.out _)) | (with_reducible exact Calls.late_same (I2.out _)))))))
                        refine wpQuiet_nil ?_
                        intro _ hw'
                        obtain ⟨uq, hw''⟩ := hw'
                        subst hw''
                        have BU := Lib.hid (below_go B3.out uq.b)
                        clear p0 p1 p2 p3 p4 t0 t1 t2
                        go_wp2_with fail
                        go_returns
                        exact ⟨by rw [HV.out]; first | done | rfl, BU.out⟩
                      · rw [hq1] at I1
                        cases hq2 : inB to 0 (P - 1)
                        · have HV := Lib.hid (show RES = 1 by rw [HV1.out, if_pos (hLA.out (by rw [HWl.out, hq1, hq2]; rfl))])
                          rw [hq2] at I2
                          clear hq1 hq2 hT hLA HWl
                          go_wp2_with fail
                          have hWo := hW0.out
                          rw [← hWo]
                          clear hWo r4 c1 c2 c3
                          refine wp_region_late W0 (Below.refl _ _) (by kernel_rfl) (by kernel_rfl) ?_
                          repeat (go_big_quiet_step ((first | (go_at_call 23; exact Calls.late (PN.out _)) | (go_at_call 42; (first | (with_reducible exact Calls.late_same (I1.out _)) | (with_reducible exact Calls.late_same (I2.out _)))))))
                          refine wpQuiet_nil ?_
                          intro _ hw'
                          obtain ⟨uq, hw''⟩ := hw'
                          subst hw''
                          have BU := Lib.hid (below_go B3.out uq.b)
                          clear p0 p1 p2 p3 p4 t0 t1 t2
                          go_wp2_with fail
                          go_returns
                          exact ⟨by rw [HV.out]; first | done | rfl, BU.out⟩
                        · rw [hq2] at I2
                          cases hq3 : (fr == to)
                          · have hN := Lib.hid (show (L.take (i + 1)).any WB = false by rw [hT.out, hA.out, HWl.out, hq1, hq2, hq3]; rfl)
                            clear hq1 hq2 hT hLA HWl hA
                            go_wp2_with fail
                            have hWo := hW0.out
                            rw [← hWo]
                            clear hWo r4 c1 c2 c3
                            refine wp_region_late W0 (Below.refl _ _) (by kernel_rfl) (by kernel_rfl) ?_
                            repeat (go_big_quiet_step ((first | (go_at_call 23; exact Calls.late (PN.out _)) | (go_at_call 42; (first | (with_reducible exact Calls.late_same (I1.out _)) | (with_reducible exact Calls.late_same (I2.out _)))))))
                            refine wpQuiet_nil ?_
                            intro _ hw'
                            obtain ⟨uq, hw''⟩ := hw'
                            subst hw''
                            have BU := Lib.hid (below_go B3.out uq.b)
                            clear ew
                            have RU := Lib.hid (Blk.alt R3.out (Alt.of_below (p := fun _ => False) uq.b (fun k hk h => by omega)) id)
                            clear p0 p1 p2 p3 p4 t0 t1 t2
                            clear hq3
                            go_wp2_with fail
                            go_roundg (L.length - (i + 1))
                            case measure => omega
                            case rel => exact ⟨i + 1, by omega, rfl, by simp, hN, BU, RU⟩
                          · have HV := Lib.hid (show RES = 1 by rw [HV1.out, if_pos (hLA.out (by rw [HWl.out, hq1, hq2, hq3]; rfl))])
                            clear hq1 hq2 hT hLA HWl
                            go_wp2_with fail
                            have hWo := hW0.out
                            rw [← hWo]
                            clear hWo r4 c1 c2 c3
                            refine wp_region_late W0 (Below.refl _ _) (by kernel_rfl) (by kernel_rfl) ?_
                            repeat (go_big_quiet_step ((first | (go_at_call 23; exact Calls.late (PN.out _)) | (go_at_call 42; (first | (with_reducible exact Calls.late_same (I1.out _)) | (with_reducible exact Calls.late_same (I2.out _)))))))
                            refine wpQuiet_nil ?_
                            intro _ hw'
                            obtain ⟨uq, hw''⟩ := hw'
                            subst hw''
                            have BU := Lib.hid (below_go B3.out uq.b)
                            clear p0 p1 p2 p3 p4 t0 t1 t2
                            clear hq3
                            go_wp2_with fail
                            go_returns
                            exact ⟨by rw [HV.out]; first | done | rfl, BU.out⟩
                    · have hz1 : ¬ (i : Int) < (L.length : Int) := by omega
                      have HV := Lib.hid (show RES = 0 by
                        have := hA.out
                        rw [List.take_of_length_le (by omega)] at this
                        rw [HV1.out, this]; rfl)
                      clear hA hlt
                      go_wp2_with fail
                      go_returns
                      exact ⟨by rw [HV.out]; first | done | rfl, hB.out⟩
        · have h6' : (6 : Int) < (u : Int) := by omega
          have HV := Lib.hid (show RES = 3 by rw [HFV.out, HFW.out, hE.out, decide_eq_false h6, Bool.and_false]; rfl)
          clear h12 h6 HFV HFW
          go_wp2_with fail
          go_returns
          exact ⟨by rw [HV.out]; first | done | rfl, B0.out⟩
      · have h12' : (12 : Int) < (L.length : Int) := by omega
        have HV := Lib.hid (show RES = 3 by rw [HFV.out, HFW.out, decide_eq_false h12]; rfl)
        clear h12 HFV HFW
        go_wp2_with fail
        go_returns
        exact ⟨by rw [HV.out]; first | done | rfl, B0.out⟩

end Go.Proofs.YtaloffdkadhhnaaDoor

namespace Go.Proofs.YtaloffdkadhhnaaDoor
open Go.RowKit

attribute [local go_sem] Oper.semAt_some

theorem info86 : (Tryd.prog.info? 86).map (fun i => (i.zero, i.size, i.bytes)) = some (some (.agg #[.int .i64 0, .int .i64 0, .bool false]), 3, 24) := by kernel_rfl

theorem lkCells_snoc (L : List Lk) (l : Lk) : lkCells (L ++ [l]) = lkCells L ++ [.int .i64 l.fr, .int .i64 l.to, .bool l.sr] := by unfold lkCells; simp

/-- A list of links in a row of the call's own reads as such. -/
theorem own_links {W : World} {base : Nat} {v : Value} {L : List Lk} (h : W.ownsRow base 86 3 v L.length (lkCells L)) : ∃ a c, v = .slice a L.length c ∧ LinksAt W a L ∧ ∀ g o, a = some ⟨g, o, none⟩ → base ≤ g ∧ g < W.heap.size := by
  by_cases h0 : 0 < L.length
  · obtain ⟨g, cap, rfl, hb, hl⟩ := h.form h0
    refine ⟨some ⟨g, 0, none⟩, cap, rfl, ?_, fun g' o e => by cases e; exact ⟨hb, hl⟩⟩
    intro i l hi
    obtain ⟨k1, k2, k3⟩ := lkCells_at L i l hi
    have hc : ∀ j u, (lkCells L)[j]? = some u → W.cell? ⟨g, j, none⟩ = some u := fun j u hj => (h.cellAt j (by have := (List.getElem?_eq_some_iff.1 hj).1; have := h.1; omega)).trans hj
    exact ⟨g, 0, rfl, by rw [Nat.zero_add]; exact hc _ _ k1, by rw [Nat.zero_add]; exact hc _ _ k2, by rw [Nat.zero_add]; exact hc _ _ k3⟩
  · have : L = [] := List.eq_nil_of_length_eq_zero (by omega)
    subst this
    rcases h.2 with ⟨rfl, _⟩ | ⟨g, cap, cur, rfl, hb, hg, _⟩
    · exact ⟨none, 0, rfl, fun i l h => by simp at h, fun g o e => by cases e⟩
    · refine ⟨some ⟨g, 0, none⟩, cap, rfl, fun i l h => by simp at h, fun g' o e => by cases e; exact ⟨hb, (Array.getElem?_eq_some_iff.1 hg).1⟩⟩

/-- Here an 'append' comes up. -/
theorem append_here {P : Program} {ops : Array Oper} {d : Option Tmp} {s x : Operand} {t ty : TypeId} {p : String} {af : Array Edge} {a : Act} {w : World} {K : Act → World → Prop} {Q : Exit → Act → World → Prop} {E : Prop}
    (h : if Region.wanted { dst := d, op := .call { callee := .builtin .append, args := #[s, x], argTypes := #[t, t] }, type := ty, pos := p, after := af, guard := none } (yielded ops a.tmps) = true then Oper.wp P { dst := d, op := .call { callee := .builtin .append, args := #[s, x], argTypes := #[t, t] }, type := ty, pos := p, after := af, guard := none } a w K Q else E) :
    if Region.wanted { dst := d, op := .call { callee := .builtin .append, args := #[s, x], argTypes := #[t, t] }, type := ty, pos := p, after := af, guard := none } (yielded ops a.tmps) = true then Oper.wp P { dst := d, op := .call { callee := .builtin .append, args := #[s, x], argTypes := #[t, t] }, type := ty, pos := p, after := af, guard := none } a w K Q else E := h

theorem alt_cell {p : Nat → Prop} {A B : World} (h : Alt p A B) {b o : Nat} {v : Value} (hc : A.cell? ⟨b, o, none⟩ = some v) (hp : ¬ p b) : B.cell? ⟨b, o, none⟩ = some v :=
  (World.cell?_of_block (a := ⟨b, o, none⟩) (h.blk b (cell_lt hc) hp)).trans hc
theorem alt_frz {p : Nat → Prop} {A B : World} (h : Alt p A B) {b o : Nat} (hz : A.frozen? ⟨b, o, none⟩ = false) (hb : b < A.heap.size) (hp : ¬ p b) : B.frozen? ⟨b, o, none⟩ = false :=
  (World.frozen?_of_block (a := ⟨b, o, none⟩) (h.blk b hb hp)).trans hz

/-- A rack that the law has made anew. -/
def NewRack (r : Rk) (w : World) (e : Ending) (w' : World) : Prop :=
  ∃ a c, e = .returned (Rk.val { r with la := a, lc := c }) ∧ LinksAt w' a r.ls ∧ (∀ g o, a = some ⟨g, o, none⟩ → g < w'.heap.size) ∧ Below w.heap.size w w'

/-- What the round stands on: N the box of the argument, N + 1 the result, N + 2 the rack that grows. -/
structure RL (r : Rk) (w W : World) (v : Value) (i : Nat) : Prop where
  bK : Blk W w.heap.size (rCells r) 24
  bR : Blk W (w.heap.size + 1) #[.int .i64 0, .int .i64 0, .int .i64 0, .int .i64 0, .slice none 0 0] 32
  bO : Blk W (w.heap.size + 1 + 1) #[.int .i64 r.rows, .int .i64 r.mid, .int .i64 r.gap, .int .i64 r.reach, v] 32
  ow : W.ownsRow (w.heap.size + 3) 86 3 v i (lkCells (r.ls.take i))
  bl : Below w.heap.size w W
  sz : w.heap.size + 3 ≤ W.heap.size
theorem RL.step {r : Rk} {w W W1 : World} {v : Value} {i gg cap : Nat} {o : Obj} {l : Lk} (h : RL r w W v i) (hl : r.ls[i]? = some l)
    (hg : (W.alloc o).drew.grownBy W1 v.ownBlock) (ho : W1.ownsRow (w.heap.size + 3) 86 3 (.slice (some ⟨gg, 0, none⟩) (i + 1) cap) (i + 1) (lkCells (r.ls.take i) ++ [.int .i64 l.fr, .int .i64 l.to, .bool l.sr])) :
    RL r w (W1.setCell ⟨w.heap.size + 1 + 1, 4, none⟩ (.slice (some ⟨gg, 0, none⟩) (i + 1) cap)) (.slice (some ⟨gg, 0, none⟩) (i + 1) cap) (i + 1) := by
  have hA : Alt (fun k => w.heap.size + 3 ≤ k) W W1 := (((Alt.refl _ W).alloc o).drew).grown hg fun k e => own_base h.ow e
  have hS : Alt (fun k => k = w.heap.size + 1 + 1) W1 (W1.setCell ⟨w.heap.size + 1 + 1, 4, none⟩ (.slice (some ⟨gg, 0, none⟩) (i + 1) cap)) := (Alt.refl (fun k => k = w.heap.size + 1 + 1) W1).setCell (q := ⟨w.heap.size + 1 + 1, 4, none⟩) rfl _
  have e : r.ls.take (i + 1) = r.ls.take i ++ [l] := by rw [List.take_add_one, hl]; rfl
  refine ⟨(h.bK.alt hA (by omega)).alt hS (by omega), (h.bR.alt hA (by omega)).alt hS (by omega), ?_, ?_, ?_, ?_⟩
  · exact Blk.setAt (h.bO.alt hA (by omega)) 4 _
  · rw [e, lkCells_snoc]
    exact ownsRow_alt ho hS (fun g hg e => by omega)
  · exact ((Alt.of_below (p := fun k => w.heap.size ≤ k) h.bl (fun k _ e => e)).trans ((hA.mono fun k _ e => by omega).trans (hS.mono fun k _ e => by omega))).below (Nat.le_refl _) fun _ e => e
  · have := h.sz
    have := hA.size
    have := hS.size
    omega

set_option maxRecDepth 100000 in
set_option maxHeartbeats 4000000 in
theorem lawRack_any (r : Rk) (w : World) (hL : LinksAt w r.la r.ls) (hn : r.ls.length ≤ 1000) :
    Calls Tryd.prog 18 #[r.val] w (NewRack r w) := by
  have HL := Lib.hid hL
  obtain ⟨i0, hi0, hy0, hy1, hy2⟩ := info_parts info86
  have K0 := Lib.hid (show RL r w (((w.alloc (.cells (rCells r) 24)).alloc (.cells #[.int .i64 0, .int .i64 0, .int .i64 0, .int .i64 0, .slice none 0 0] 32)).alloc (.cells #[.int .i64 r.rows, .int .i64 r.mid, .int .i64 r.gap, .int .i64 r.reach, .slice none 0 0] 32)) (.slice none 0 0) 0 from
    ⟨Blk.alt (p := fun _ => False) (Blk.new w _ _) (((Alt.refl _ _).alloc _).alloc _) id, by
      have := Blk.alt (p := fun _ => False) (Blk.new (w.alloc (.cells (rCells r) 24)) #[.int .i64 0, .int .i64 0, .int .i64 0, .int .i64 0, .slice none 0 0] 32) ((Alt.refl _ _).alloc (.cells #[.int .i64 r.rows, .int .i64 r.mid, .int .i64 r.gap, .int .i64 r.reach, .slice none 0 0] 32)) id
      rwa [World.size_alloc] at this, by
      have := Blk.new ((w.alloc (.cells (rCells r) 24)).alloc (.cells #[.int .i64 0, .int .i64 0, .int .i64 0, .int .i64 0, .slice none 0 0] 32)) #[.int .i64 r.rows, .int .i64 r.mid, .int .i64 r.gap, .int .i64 r.reach, .slice none 0 0] 32
      rwa [World.size_alloc, World.size_alloc] at this, ⟨rfl, .inl ⟨rfl, rfl⟩⟩, below_al2 (below_al2 (below_al _ _) _) _, by simp⟩)
  unfold rCells at K0
  unfold Rk.val
  clear hL
  go_enter Tryd.func18, Tryd.ntmps18
  go_wp2_with fail
  generalize ((w.alloc _).alloc _).alloc _ = W0 at K0 ⊢
  go_loopg [4] r.ls.length (fun g s4 wx => ∃ (i : Nat) (v : Value), i ≤ r.ls.length ∧ g = r.ls.length - i ∧ s4 = .int .i64 (i : Int) ∧ Hid (RL r w wx v i))
  case atStart => exact ⟨0, _, by omega, by omega, rfl, K0⟩
  case round =>
    obtain ⟨i, v, hi, rfl, rfl, hK⟩ := hrel
    clear K0
    have k4 : wr.cell? ⟨w.heap.size, 4, none⟩ = some (.slice r.la r.ls.length r.lc) := hK.out.bK.cell 4 rfl
    by_cases hlt : i < r.ls.length
    · have hz0 : (0 : Int) ≤ (i : Int) := by omega
      have hz1 : (i : Int) < (r.ls.length : Int) := by omega
      obtain ⟨l, hl⟩ : ∃ l, r.ls[i]? = some l := ⟨r.ls[i]'hlt, List.getElem?_eq_getElem _⟩
      obtain ⟨g, o, hla, k1, k2, k3⟩ := HL.out i _ hl
      have c1 : wr.cell? ⟨g, o + i * 3, none⟩ = some (.int .i64 l.fr) := cell_lo hK.out.bl k1
      have c2 : wr.cell? ⟨g, o + i * 3 + 1, none⟩ = some (.int .i64 l.to) := cell_lo hK.out.bl k2
      have c3 : wr.cell? ⟨g, o + i * 3 + 2, none⟩ = some (.bool l.sr) := cell_lo hK.out.bl k3
      have hgw : g < w.heap.size := cell_lt k1
      have o4 : wr.cell? ⟨w.heap.size + 1 + 1, 4, none⟩ = some v := hK.out.bO.cell 4 rfl
      have of := hK.out.bO.fr 4
      have HLl := Lib.hid hl
      have ag : v.ownBlock ≠ some w.heap.size := fun e => by have := own_base hK.out.ow e; omega
      have a2 : v.ownBlock ≠ some (w.heap.size + 1 + 1) := fun e => by have := own_base hK.out.ow e; omega
      have al : v.ownBlock ≠ some g := fun e => by have := own_base hK.out.ow e; omega
      rw [hla] at k4
      have HA1 := Lib.hid ag; have HA2 := Lib.hid a2; have HA3 := Lib.hid al; have HGW := Lib.hid hgw
      have HOW := Lib.hid hK.out.ow
      have HSZ := Lib.hid hK.out.sz
      have HOB := Lib.hid (show ∀ k, v.ownBlock = some k → w.heap.size + 3 ≤ k from fun k e => own_base hK.out.ow e)
      clear k1 k2 k3 hl ag a2 al hgw hla
      go_wp2_with fail
      have HNC : Hid (2 * 1000 ≤ maxLen) := Lib.hid (by unfold maxLen; omega)
      have e2 : IntKind.i64.wrap ((i : Int) + 1) = (i : Int) + 1 := IntWalk.i64_in _ (by omega)
      obtain ⟨gA, capA, WA, hrunA, hownA, hgrA, hlocA, hltA⟩ := run_append_lies (P := Tryd.prog) (w := (wr.alloc (.cells #[.int .i64 l.fr, .int .i64 l.to, .bool l.sr] 86)).drew) 30 30 (w.heap.size + 3) 86 i0 (.agg #[.int .i64 0, .int .i64 0, .bool false]) 3 24 Tryd.underlying30 hi0 hy0 hy1 hy2 rfl (by omega) v i (lkCells (r.ls.take i)) ((HOW.out.alloc _).drew) ⟨wr.heap.size, 0, none⟩ 1 1 [.int .i64 l.fr, .int .i64 l.to, .bool l.sr] rfl (World.news_of_block (cs := #[.int .i64 l.fr, .int .i64 l.to, .bool l.sr]) (t := 86) (fr := (0, 0)) (heap_alloc_new wr _)) (by simp [Value.oneCell']) (by omega) (by have := HNC.out; omega) (by omega) (by have := HSZ.out; simp; omega) (wr.heap.size + 1) (by simp)
      have hgw := HGW.out
      obtain ⟨wf, hwf⟩ : ∃ wf : Array Bool → World, Hid (∀ L, wf L = if L.getD 24 false = true then WA.setCell ⟨w.heap.size + 1 + 1, 4, none⟩ (.slice (some ⟨gA, 0, none⟩) (i + 1) capA) else if L.getD 22 false = true then WA else if L.getD 21 false = true then (wr.alloc (.cells #[.int .i64 l.fr, .int .i64 l.to, .bool l.sr] 86)).drew else wr.drew) := ⟨_, Lib.hid (fun _ => rfl)⟩
      have HAL : ∀ L, Alt (fun k => w.heap.size + 1 + 1 ≤ k) wr (wf L) := fun L => by
        rw [hwf.out]; split
        · exact ((((Alt.refl (fun k => w.heap.size + 1 + 1 ≤ k) wr).alloc _).drew).grown hgrA (fun k e => by have := HOB.out k e; omega)).setCell (q := ⟨w.heap.size + 1 + 1, 4, none⟩) (Nat.le_refl _) _
        · split
          · exact (((Alt.refl (fun k => w.heap.size + 1 + 1 ≤ k) wr).alloc _).drew).grown hgrA (fun k e => by have := HOB.out k e; omega)
          · split
            · exact ((Alt.refl (fun k => w.heap.size + 1 + 1 ≤ k) wr).alloc _).drew
            · exact (Alt.refl _ wr).drew
      have HAM : ∀ L, L.getD 24 false = false → Alt (fun k => w.heap.size + 3 ≤ k) wr (wf L) := fun L h => by
        rw [hwf.out, h, if_neg (by simp)]; split
        · exact (((Alt.refl _ wr).alloc _).drew).grown hgrA (fun k e => HOB.out k e)
        · split
          · exact ((Alt.refl _ wr).alloc _).drew
          · exact (Alt.refl _ wr).drew
      have CK : ∀ L, (wf L).cell? ⟨w.heap.size, 4, none⟩ = some (.slice (some ⟨g, o, none⟩) r.ls.length r.lc) := fun L => alt_cell (HAL L) k4 (by have := HGW.out; omega)
      have CO : ∀ L, L.getD 24 false = false → (wf L).cell? ⟨w.heap.size + 1 + 1, 4, none⟩ = some v := fun L h => alt_cell (HAM L h) o4 (by omega)
      have C1 : ∀ L, (wf L).cell? ⟨g, o + i * 3, none⟩ = some (.int .i64 l.fr) := fun L => alt_cell (HAL L) c1 (by have := HGW.out; omega)
      have C2 : ∀ L, (wf L).cell? ⟨g, o + i * 3 + 1, none⟩ = some (.int .i64 l.to) := fun L => alt_cell (HAL L) c2 (by have := HGW.out; omega)
      have C3 : ∀ L, (wf L).cell? ⟨g, o + i * 3 + 2, none⟩ = some (.bool l.sr) := fun L => alt_cell (HAL L) c3 (by have := HGW.out; omega)
      have zA : WA.frozen? ⟨w.heap.size + 1 + 1, 4, none⟩ = false := alt_frz ((((Alt.refl (fun k => w.heap.size + 3 ≤ k) wr).alloc _).drew).grown hgrA (fun k e => HOB.out k e)) of (by have := HSZ.out; omega) (by omega)
      have cA : WA.cell? ⟨w.heap.size + 1 + 1, 4, none⟩ = some v := alt_cell ((((Alt.refl (fun k => w.heap.size + 3 ≤ k) wr).alloc _).drew).grown hgrA (fun k e => HOB.out k e)) o4 (by omega)
      have hsame : ∀ (L : Array Bool) (jj : Nat), jj ≠ 21 → jj ≠ 22 → jj ≠ 24 → wf (L.setIfInBounds jj true) = wf L := fun L jj h21 h22 h24 => by
        rw [hwf.out, hwf.out, getD_set_ne (Ne.symm h24), getD_set_ne (Ne.symm h22), getD_set_ne (Ne.symm h21)]
      refine wp_region_flow (val := fun jj => match jj with
        | 0 => .pointer (some ⟨w.heap.size + 1 + 1, 4, none⟩)
        | 1 => v
        | 2 => .pointer (some ⟨w.heap.size, 4, none⟩)
        | 3 => .slice (some ⟨g, o, none⟩) r.ls.length r.lc
        | 4 => .int .i64 (i : Int)
        | 5 => .pointer (some ⟨g, o + i * 3, none⟩)
        | 6 => .pointer (some ⟨g, o + i * 3, none⟩)
        | 7 => .int .i64 l.fr
        | 8 => .pointer (some ⟨w.heap.size, 4, none⟩)
        | 9 => .slice (some ⟨g, o, none⟩) r.ls.length r.lc
        | 10 => .int .i64 (i : Int)
        | 11 => .pointer (some ⟨g, o + i * 3, none⟩)
        | 12 => .pointer (some ⟨g, o + i * 3 + 1, none⟩)
        | 13 => .int .i64 l.to
        | 14 => .pointer (some ⟨w.heap.size, 4, none⟩)
        | 15 => .slice (some ⟨g, o, none⟩) r.ls.length r.lc
        | 16 => .int .i64 (i : Int)
        | 17 => .pointer (some ⟨g, o + i * 3, none⟩)
        | 18 => .pointer (some ⟨g, o + i * 3 + 2, none⟩)
        | 19 => .bool l.sr
        | 20 => .agg #[.int .i64 l.fr, .int .i64 l.to, .bool l.sr]
        | 21 => .slice (some ⟨wr.heap.size, 0, none⟩) 1 1
        | 22 => .slice (some ⟨gA, 0, none⟩) (i + 1) capA
        | 23 => .pointer (some ⟨w.heap.size + 1 + 1, 4, none⟩)
        | _ => undef) wf (by kernel_rfl) (by kernel_rfl) (by kernel_rfl) (by rw [hwf.out]; rfl) ?_ ?_
      · refine ⟨?_, ?_, ?_, ?_, ?_, ?_, ?_, ?_, ?_, ?_, ?_, ?_, ?_, ?_, ?_, ?_, ?_, ?_, ?_, ?_, ?_, ?_, ?_, ?_, ?_, trivial⟩
        · intro L a hLs hl hdep hc hfr K hK
          have et3 : a.tmps.getD 3 undef = .pointer (some ⟨w.heap.size + 1 + 1, 0, none⟩) := hfr.evalBase 3 (by kernel_rfl)
          have ft3 : a.eval (.tmp 3) = .pointer (some ⟨w.heap.size + 1 + 1, 0, none⟩) := hfr.evalBase 3 (by kernel_rfl)
          rw [hsame _ _ (by omega) (by omega) (by omega)] at hK
          generalize wf L = wL at hK ⊢
          clear hfr hc hdep hl ft3 CK CO C1 C2 C3 hsame hwf HAL HAM hrunA hownA hgrA hlocA hi0 hy0 hy1 hy2 k4 o4 c1 c2 c3 of zA cA hgw hltA
          go_simp
          exact hK
        · intro L a hLs hl hdep hc hfr K hK
          have g0 : a.tmps[21]? = some (.pointer (some ⟨w.heap.size + 1 + 1, 4, none⟩)) := hfr.got 0 _ 21 rfl rfl (hdep ⟨0, .data⟩ (by simp) rfl) (by simp)
          have e0 : a.tmps.getD 21 undef = .pointer (some ⟨w.heap.size + 1 + 1, 4, none⟩) := hfr.eval 0 _ 21 rfl rfl (by simp) (hdep ⟨0, .data⟩ (by simp) rfl)
          have f0 : a.eval (.tmp 21) = .pointer (some ⟨w.heap.size + 1 + 1, 4, none⟩) := hfr.eval 0 _ 21 rfl rfl (by simp) (hdep ⟨0, .data⟩ (by simp) rfl)
          have hno : L.getD 24 false = false := not_later hc hl 24 _ rfl ⟨1, .phase⟩ (by simp) rfl
          have hcell := CO L hno
          clear hno
          rw [hsame _ _ (by omega) (by omega) (by omega)] at hK
          generalize wf L = wL at hcell hK ⊢
          clear hfr hc hdep hl f0 CK CO C1 C2 C3 hsame hwf HAL HAM hrunA hownA hgrA hlocA hi0 hy0 hy1 hy2 k4 o4 c1 c2 c3 of zA cA hgw hltA
          go_simp
          exact hK
        · intro L a hLs hl hdep hc hfr K hK
          have et1 : a.tmps.getD 1 undef = .pointer (some ⟨w.heap.size, 0, none⟩) := hfr.evalBase 1 (by kernel_rfl)
          have ft1 : a.eval (.tmp 1) = .pointer (some ⟨w.heap.size, 0, none⟩) := hfr.evalBase 1 (by kernel_rfl)
          rw [hsame _ _ (by omega) (by omega) (by omega)] at hK
          generalize wf L = wL at hK ⊢
          clear hfr hc hdep hl ft1 CK CO C1 C2 C3 hsame hwf HAL HAM hrunA hownA hgrA hlocA hi0 hy0 hy1 hy2 k4 o4 c1 c2 c3 of zA cA hgw hltA
          go_simp
          exact hK
        · intro L a hLs hl hdep hc hfr K hK
          have g2 : a.tmps[23]? = some (.pointer (some ⟨w.heap.size, 4, none⟩)) := hfr.got 2 _ 23 rfl rfl (hdep ⟨2, .data⟩ (by simp) rfl) (by simp)
          have e2 : a.tmps.getD 23 undef = .pointer (some ⟨w.heap.size, 4, none⟩) := hfr.eval 2 _ 23 rfl rfl (by simp) (hdep ⟨2, .data⟩ (by simp) rfl)
          have f2 : a.eval (.tmp 23) = .pointer (some ⟨w.heap.size, 4, none⟩) := hfr.eval 2 _ 23 rfl rfl (by simp) (hdep ⟨2, .data⟩ (by simp) rfl)
          have hcell := CK L
          rw [hsame _ _ (by omega) (by omega) (by omega)] at hK
          generalize wf L = wL at hcell hK ⊢
          clear hfr hc hdep hl f2 CK CO C1 C2 C3 hsame hwf HAL HAM hrunA hownA hgrA hlocA hi0 hy0 hy1 hy2 k4 o4 c1 c2 c3 of zA cA hgw hltA
          go_simp
          exact hK
        · intro L a hLs hl hdep hc hfr K hK
          have et4 : a.tmps.getD 4 undef = .int .i64 (i : Int) := hfr.evalBase 4 (by kernel_rfl)
          have ft4 : a.eval (.tmp 4) = .int .i64 (i : Int) := hfr.evalBase 4 (by kernel_rfl)
          rw [hsame _ _ (by omega) (by omega) (by omega)] at hK
          generalize wf L = wL at hK ⊢
          clear hfr hc hdep hl ft4 CK CO C1 C2 C3 hsame hwf HAL HAM hrunA hownA hgrA hlocA hi0 hy0 hy1 hy2 k4 o4 c1 c2 c3 of zA cA hgw hltA
          go_simp
          exact hK
        · intro L a hLs hl hdep hc hfr K hK
          have g3 : a.tmps[24]? = some (.slice (some ⟨g, o, none⟩) r.ls.length r.lc) := hfr.got 3 _ 24 rfl rfl (hdep ⟨3, .data⟩ (by simp) rfl) (by simp)
          have e3 : a.tmps.getD 24 undef = .slice (some ⟨g, o, none⟩) r.ls.length r.lc := hfr.eval 3 _ 24 rfl rfl (by simp) (hdep ⟨3, .data⟩ (by simp) rfl)
          have f3 : a.eval (.tmp 24) = .slice (some ⟨g, o, none⟩) r.ls.length r.lc := hfr.eval 3 _ 24 rfl rfl (by simp) (hdep ⟨3, .data⟩ (by simp) rfl)
          have g4 : a.tmps[25]? = some (.int .i64 (i : Int)) := hfr.got 4 _ 25 rfl rfl (hdep ⟨4, .data⟩ (by simp) rfl) (by simp)
          have e4 : a.tmps.getD 25 undef = .int .i64 (i : Int) := hfr.eval 4 _ 25 rfl rfl (by simp) (hdep ⟨4, .data⟩ (by simp) rfl)
          have f4 : a.eval (.tmp 25) = .int .i64 (i : Int) := hfr.eval 4 _ 25 rfl rfl (by simp) (hdep ⟨4, .data⟩ (by simp) rfl)
          rw [hsame _ _ (by omega) (by omega) (by omega)] at hK
          generalize wf L = wL at hK ⊢
          clear hfr hc hdep hl f3 f4 CK CO C1 C2 C3 hsame hwf HAL HAM hrunA hownA hgrA hlocA hi0 hy0 hy1 hy2 k4 o4 c1 c2 c3 of zA cA hgw hltA
          go_simp
          exact hK
        · intro L a hLs hl hdep hc hfr K hK
          have g5 : a.tmps[26]? = some (.pointer (some ⟨g, o + i * 3, none⟩)) := hfr.got 5 _ 26 rfl rfl (hdep ⟨5, .data⟩ (by simp) rfl) (by simp)
          have e5 : a.tmps.getD 26 undef = .pointer (some ⟨g, o + i * 3, none⟩) := hfr.eval 5 _ 26 rfl rfl (by simp) (hdep ⟨5, .data⟩ (by simp) rfl)
          have f5 : a.eval (.tmp 26) = .pointer (some ⟨g, o + i * 3, none⟩) := hfr.eval 5 _ 26 rfl rfl (by simp) (hdep ⟨5, .data⟩ (by simp) rfl)
          rw [hsame _ _ (by omega) (by omega) (by omega)] at hK
          generalize wf L = wL at hK ⊢
          clear hfr hc hdep hl f5 CK CO C1 C2 C3 hsame hwf HAL HAM hrunA hownA hgrA hlocA hi0 hy0 hy1 hy2 k4 o4 c1 c2 c3 of zA cA hgw hltA
          go_simp
          exact hK
        · intro L a hLs hl hdep hc hfr K hK
          have g6 : a.tmps[27]? = some (.pointer (some ⟨g, o + i * 3, none⟩)) := hfr.got 6 _ 27 rfl rfl (hdep ⟨6, .data⟩ (by simp) rfl) (by simp)
          have e6 : a.tmps.getD 27 undef = .pointer (some ⟨g, o + i * 3, none⟩) := hfr.eval 6 _ 27 rfl rfl (by simp) (hdep ⟨6, .data⟩ (by simp) rfl)
          have f6 : a.eval (.tmp 27) = .pointer (some ⟨g, o + i * 3, none⟩) := hfr.eval 6 _ 27 rfl rfl (by simp) (hdep ⟨6, .data⟩ (by simp) rfl)
          have hcell := C1 L
          rw [hsame _ _ (by omega) (by omega) (by omega)] at hK
          generalize wf L = wL at hcell hK ⊢
          clear hfr hc hdep hl f6 CK CO C1 C2 C3 hsame hwf HAL HAM hrunA hownA hgrA hlocA hi0 hy0 hy1 hy2 k4 o4 c1 c2 c3 of zA cA hgw hltA
          go_simp
          exact hK
        · intro L a hLs hl hdep hc hfr K hK
          have et1 : a.tmps.getD 1 undef = .pointer (some ⟨w.heap.size, 0, none⟩) := hfr.evalBase 1 (by kernel_rfl)
          have ft1 : a.eval (.tmp 1) = .pointer (some ⟨w.heap.size, 0, none⟩) := hfr.evalBase 1 (by kernel_rfl)
          rw [hsame _ _ (by omega) (by omega) (by omega)] at hK
          generalize wf L = wL at hK ⊢
          clear hfr hc hdep hl ft1 CK CO C1 C2 C3 hsame hwf HAL HAM hrunA hownA hgrA hlocA hi0 hy0 hy1 hy2 k4 o4 c1 c2 c3 of zA cA hgw hltA
          go_simp
          exact hK
        · intro L a hLs hl hdep hc hfr K hK
          have g8 : a.tmps[29]? = some (.pointer (some ⟨w.heap.size, 4, none⟩)) := hfr.got 8 _ 29 rfl rfl (hdep ⟨8, .data⟩ (by simp) rfl) (by simp)
          have e8 : a.tmps.getD 29 undef = .pointer (some ⟨w.heap.size, 4, none⟩) := hfr.eval 8 _ 29 rfl rfl (by simp) (hdep ⟨8, .data⟩ (by simp) rfl)
          have f8 : a.eval (.tmp 29) = .pointer (some ⟨w.heap.size, 4, none⟩) := hfr.eval 8 _ 29 rfl rfl (by simp) (hdep ⟨8, .data⟩ (by simp) rfl)
          have hcell := CK L
          rw [hsame _ _ (by omega) (by omega) (by omega)] at hK
          generalize wf L = wL at hcell hK ⊢
          clear hfr hc hdep hl f8 CK CO C1 C2 C3 hsame hwf HAL HAM hrunA hownA hgrA hlocA hi0 hy0 hy1 hy2 k4 o4 c1 c2 c3 of zA cA hgw hltA
          go_simp
          exact hK
        · intro L a hLs hl hdep hc hfr K hK
          have et4 : a.tmps.getD 4 undef = .int .i64 (i : Int) := hfr.evalBase 4 (by kernel_rfl)
          have ft4 : a.eval (.tmp 4) = .int .i64 (i : Int) := hfr.evalBase 4 (by kernel_rfl)
          rw [hsame _ _ (by omega) (by omega) (by omega)] at hK
          generalize wf L = wL at hK ⊢
          clear hfr hc hdep hl ft4 CK CO C1 C2 C3 hsame hwf HAL HAM hrunA hownA hgrA hlocA hi0 hy0 hy1 hy2 k4 o4 c1 c2 c3 of zA cA hgw hltA
          go_simp
          exact hK
        · intro L a hLs hl hdep hc hfr K hK
          have g9 : a.tmps[30]? = some (.slice (some ⟨g, o, none⟩) r.ls.length r.lc) := hfr.got 9 _ 30 rfl rfl (hdep ⟨9, .data⟩ (by simp) rfl) (by simp)
          have e9 : a.tmps.getD 30 undef = .slice (some ⟨g, o, none⟩) r.ls.length r.lc := hfr.eval 9 _ 30 rfl rfl (by simp) (hdep ⟨9, .data⟩ (by simp) rfl)
          have f9 : a.eval (.tmp 30) = .slice (some ⟨g, o, none⟩) r.ls.length r.lc := hfr.eval 9 _ 30 rfl rfl (by simp) (hdep ⟨9, .data⟩ (by simp) rfl)
          have g10 : a.tmps[31]? = some (.int .i64 (i : Int)) := hfr.got 10 _ 31 rfl rfl (hdep ⟨10, .data⟩ (by simp) rfl) (by simp)
          have e10 : a.tmps.getD 31 undef = .int .i64 (i : Int) := hfr.eval 10 _ 31 rfl rfl (by simp) (hdep ⟨10, .data⟩ (by simp) rfl)
          have f10 : a.eval (.tmp 31) = .int .i64 (i : Int) := hfr.eval 10 _ 31 rfl rfl (by simp) (hdep ⟨10, .data⟩ (by simp) rfl)
          rw [hsame _ _ (by omega) (by omega) (by omega)] at hK
          generalize wf L = wL at hK ⊢
          clear hfr hc hdep hl f9 f10 CK CO C1 C2 C3 hsame hwf HAL HAM hrunA hownA hgrA hlocA hi0 hy0 hy1 hy2 k4 o4 c1 c2 c3 of zA cA hgw hltA
          go_simp
          exact hK
        · intro L a hLs hl hdep hc hfr K hK
          have g11 : a.tmps[32]? = some (.pointer (some ⟨g, o + i * 3, none⟩)) := hfr.got 11 _ 32 rfl rfl (hdep ⟨11, .data⟩ (by simp) rfl) (by simp)
          have e11 : a.tmps.getD 32 undef = .pointer (some ⟨g, o + i * 3, none⟩) := hfr.eval 11 _ 32 rfl rfl (by simp) (hdep ⟨11, .data⟩ (by simp) rfl)
          have f11 : a.eval (.tmp 32) = .pointer (some ⟨g, o + i * 3, none⟩) := hfr.eval 11 _ 32 rfl rfl (by simp) (hdep ⟨11, .data⟩ (by simp) rfl)
          rw [hsame _ _ (by omega) (by omega) (by omega)] at hK
          generalize wf L = wL at hK ⊢
          clear hfr hc hdep hl f11 CK CO C1 C2 C3 hsame hwf HAL HAM hrunA hownA hgrA hlocA hi0 hy0 hy1 hy2 k4 o4 c1 c2 c3 of zA cA hgw hltA
          go_simp
          exact hK
        · intro L a hLs hl hdep hc hfr K hK
          have g12 : a.tmps[33]? = some (.pointer (some ⟨g, o + i * 3 + 1, none⟩)) := hfr.got 12 _ 33 rfl rfl (hdep ⟨12, .data⟩ (by simp) rfl) (by simp)
          have e12 : a.tmps.getD 33 undef = .pointer (some ⟨g, o + i * 3 + 1, none⟩) := hfr.eval 12 _ 33 rfl rfl (by simp) (hdep ⟨12, .data⟩ (by simp) rfl)
          have f12 : a.eval (.tmp 33) = .pointer (some ⟨g, o + i * 3 + 1, none⟩) := hfr.eval 12 _ 33 rfl rfl (by simp) (hdep ⟨12, .data⟩ (by simp) rfl)
          have hcell := C2 L
          rw [hsame _ _ (by omega) (by omega) (by omega)] at hK
          generalize wf L = wL at hcell hK ⊢
          clear hfr hc hdep hl f12 CK CO C1 C2 C3 hsame hwf HAL HAM hrunA hownA hgrA hlocA hi0 hy0 hy1 hy2 k4 o4 c1 c2 c3 of zA cA hgw hltA
          go_simp
          exact hK
        · intro L a hLs hl hdep hc hfr K hK
          have et1 : a.tmps.getD 1 undef = .pointer (some ⟨w.heap.size, 0, none⟩) := hfr.evalBase 1 (by kernel_rfl)
          have ft1 : a.eval (.tmp 1) = .pointer (some ⟨w.heap.size, 0, none⟩) := hfr.evalBase 1 (by kernel_rfl)
          rw [hsame _ _ (by omega) (by omega) (by omega)] at hK
          generalize wf L = wL at hK ⊢
          clear hfr hc hdep hl ft1 CK CO C1 C2 C3 hsame hwf HAL HAM hrunA hownA hgrA hlocA hi0 hy0 hy1 hy2 k4 o4 c1 c2 c3 of zA cA hgw hltA
          go_simp
          exact hK
        · intro L a hLs hl hdep hc hfr K hK
          have g14 : a.tmps[35]? = some (.pointer (some ⟨w.heap.size, 4, none⟩)) := hfr.got 14 _ 35 rfl rfl (hdep ⟨14, .data⟩ (by simp) rfl) (by simp)
          have e14 : a.tmps.getD 35 undef = .pointer (some ⟨w.heap.size, 4, none⟩) := hfr.eval 14 _ 35 rfl rfl (by simp) (hdep ⟨14, .data⟩ (by simp) rfl)
          have f14 : a.eval (.tmp 35) = .pointer (some ⟨w.heap.size, 4, none⟩) := hfr.eval 14 _ 35 rfl rfl (by simp) (hdep ⟨14, .data⟩ (by simp) rfl)
          have hcell := CK L
          rw [hsame _ _ (by omega) (by omega) (by omega)] at hK
          generalize wf L = wL at hcell hK ⊢
          clear hfr hc hdep hl f14 CK CO C1 C2 C3 hsame hwf HAL HAM hrunA hownA hgrA hlocA hi0 hy0 hy1 hy2 k4 o4 c1 c2 c3 of zA cA hgw hltA
          go_simp
          exact hK
        · intro L a hLs hl hdep hc hfr K hK
          have et4 : a.tmps.getD 4 undef = .int .i64 (i : Int) := hfr.evalBase 4 (by kernel_rfl)
          have ft4 : a.eval (.tmp 4) = .int .i64 (i : Int) := hfr.evalBase 4 (by kernel_rfl)
          rw [hsame _ _ (by omega) (by omega) (by omega)] at hK
          generalize wf L = wL at hK ⊢
          clear hfr hc hdep hl ft4 CK CO C1 C2 C3 hsame hwf HAL HAM hrunA hownA hgrA hlocA hi0 hy0 hy1 hy2 k4 o4 c1 c2 c3 of zA cA hgw hltA
          go_simp
          exact hK
        · intro L a hLs hl hdep hc hfr K hK
          have g15 : a.tmps[36]? = some (.slice (some ⟨g, o, none⟩) r.ls.length r.lc) := hfr.got 15 _ 36 rfl rfl (hdep ⟨15, .data⟩ (by simp) rfl) (by simp)
          have e15 : a.tmps.getD 36 undef = .slice (some ⟨g, o, none⟩) r.ls.length r.lc := hfr.eval 15 _ 36 rfl rfl (by simp) (hdep ⟨15, .data⟩ (by simp) rfl)
          have f15 : a.eval (.tmp 36) = .slice (some ⟨g, o, none⟩) r.ls.length r.lc := hfr.eval 15 _ 36 rfl rfl (by simp) (hdep ⟨15, .data⟩ (by simp) rfl)
          have g16 : a.tmps[37]? = some (.int .i64 (i : Int)) := hfr.got 16 _ 37 rfl rfl (hdep ⟨16, .data⟩ (by simp) rfl) (by simp)
          have e16 : a.tmps.getD 37 undef = .int .i64 (i : Int) := hfr.eval 16 _ 37 rfl rfl (by simp) (hdep ⟨16, .data⟩ (by simp) rfl)
          have f16 : a.eval (.tmp 37) = .int .i64 (i : Int) := hfr.eval 16 _ 37 rfl rfl (by simp) (hdep ⟨16, .data⟩ (by simp) rfl)
          rw [hsame _ _ (by omega) (by omega) (by omega)] at hK
          generalize wf L = wL at hK ⊢
          clear hfr hc hdep hl f15 f16 CK CO C1 C2 C3 hsame hwf HAL HAM hrunA hownA hgrA hlocA hi0 hy0 hy1 hy2 k4 o4 c1 c2 c3 of zA cA hgw hltA
          go_simp
          exact hK
        · intro L a hLs hl hdep hc hfr K hK
          have g17 : a.tmps[38]? = some (.pointer (some ⟨g, o + i * 3, none⟩)) := hfr.got 17 _ 38 rfl rfl (hdep ⟨17, .data⟩ (by simp) rfl) (by simp)
          have e17 : a.tmps.getD 38 undef = .pointer (some ⟨g, o + i * 3, none⟩) := hfr.eval 17 _ 38 rfl rfl (by simp) (hdep ⟨17, .data⟩ (by simp) rfl)
          have f17 : a.eval (.tmp 38) = .pointer (some ⟨g, o + i * 3, none⟩) := hfr.eval 17 _ 38 rfl rfl (by simp) (hdep ⟨17, .data⟩ (by simp) rfl)
          rw [hsame _ _ (by omega) (by omega) (by omega)] at hK
          generalize wf L = wL at hK ⊢
          clear hfr hc hdep hl f17 CK CO C1 C2 C3 hsame hwf HAL HAM hrunA hownA hgrA hlocA hi0 hy0 hy1 hy2 k4 o4 c1 c2 c3 of zA cA hgw hltA
          go_simp
          exact hK
        · intro L a hLs hl hdep hc hfr K hK
          have g18 : a.tmps[39]? = some (.pointer (some ⟨g, o + i * 3 + 2, none⟩)) := hfr.got 18 _ 39 rfl rfl (hdep ⟨18, .data⟩ (by simp) rfl) (by simp)
          have e18 : a.tmps.getD 39 undef = .pointer (some ⟨g, o + i * 3 + 2, none⟩) := hfr.eval 18 _ 39 rfl rfl (by simp) (hdep ⟨18, .data⟩ (by simp) rfl)
          have f18 : a.eval (.tmp 39) = .pointer (some ⟨g, o + i * 3 + 2, none⟩) := hfr.eval 18 _ 39 rfl rfl (by simp) (hdep ⟨18, .data⟩ (by simp) rfl)
          have hcell := C3 L
          rw [hsame _ _ (by omega) (by omega) (by omega)] at hK
          generalize wf L = wL at hcell hK ⊢
          clear hfr hc hdep hl f18 CK CO C1 C2 C3 hsame hwf HAL HAM hrunA hownA hgrA hlocA hi0 hy0 hy1 hy2 k4 o4 c1 c2 c3 of zA cA hgw hltA
          go_simp
          exact hK
        · intro L a hLs hl hdep hc hfr K hK
          have g7 : a.tmps[28]? = some (.int .i64 l.fr) := hfr.got 7 _ 28 rfl rfl (hdep ⟨7, .data⟩ (by simp) rfl) (by simp)
          have e7 : a.tmps.getD 28 undef = .int .i64 l.fr := hfr.eval 7 _ 28 rfl rfl (by simp) (hdep ⟨7, .data⟩ (by simp) rfl)
          have f7 : a.eval (.tmp 28) = .int .i64 l.fr := hfr.eval 7 _ 28 rfl rfl (by simp) (hdep ⟨7, .data⟩ (by simp) rfl)
          have g13 : a.tmps[34]? = some (.int .i64 l.to) := hfr.got 13 _ 34 rfl rfl (hdep ⟨13, .data⟩ (by simp) rfl) (by simp)
          have e13 : a.tmps.getD 34 undef = .int .i64 l.to := hfr.eval 13 _ 34 rfl rfl (by simp) (hdep ⟨13, .data⟩ (by simp) rfl)
          have f13 : a.eval (.tmp 34) = .int .i64 l.to := hfr.eval 13 _ 34 rfl rfl (by simp) (hdep ⟨13, .data⟩ (by simp) rfl)
          have g19 : a.tmps[40]? = some (.bool l.sr) := hfr.got 19 _ 40 rfl rfl (hdep ⟨19, .data⟩ (by simp) rfl) (by simp)
          have e19 : a.tmps.getD 40 undef = .bool l.sr := hfr.eval 19 _ 40 rfl rfl (by simp) (hdep ⟨19, .data⟩ (by simp) rfl)
          have f19 : a.eval (.tmp 40) = .bool l.sr := hfr.eval 19 _ 40 rfl rfl (by simp) (hdep ⟨19, .data⟩ (by simp) rfl)
          rw [hsame _ _ (by omega) (by omega) (by omega)] at hK
          generalize wf L = wL at hK ⊢
          clear hfr hc hdep hl f7 f13 f19 CK CO C1 C2 C3 hsame hwf HAL HAM hrunA hownA hgrA hlocA hi0 hy0 hy1 hy2 k4 o4 c1 c2 c3 of zA cA hgw hltA
          go_simp
          exact hK
        · intro L a hLs hl hdep hc hfr K hK
          have g20 : a.tmps[41]? = some (.agg #[.int .i64 l.fr, .int .i64 l.to, .bool l.sr]) := hfr.got 20 _ 41 rfl rfl (hdep ⟨20, .data⟩ (by simp) rfl) (by simp)
          have e20 : a.tmps.getD 41 undef = .agg #[.int .i64 l.fr, .int .i64 l.to, .bool l.sr] := hfr.eval 20 _ 41 rfl rfl (by simp) (hdep ⟨20, .data⟩ (by simp) rfl)
          have f20 : a.eval (.tmp 41) = .agg #[.int .i64 l.fr, .int .i64 l.to, .bool l.sr] := hfr.eval 20 _ 41 rfl rfl (by simp) (hdep ⟨20, .data⟩ (by simp) rfl)
          have hA1 : L.getD 22 false = false := not_later hc hl 22 _ rfl ⟨21, .data⟩ (by simp) rfl
          have hA2 : L.getD 24 false = false := not_later hc hl 24 _ rfl ⟨21, .phase⟩ (by simp) rfl
          have w1' : wf L = wr.drew := by rw [hwf.out, hA2, hA1, hl]; rfl
          have w2' : wf (L.setIfInBounds 21 true) = (wr.alloc (.cells #[.int .i64 l.fr, .int .i64 l.to, .bool l.sr] 86)).drew := by
            rw [hwf.out, getD_set_ne (by omega), getD_set_ne (by omega), hA2, hA1, getD_set_self]
            · rfl
            · exact (by rw [hLs]; simp)
          rw [w1']
          rw [w2'] at hK
          clear hfr hc hdep hl w1' w2' hA1 hA2 CK CO C1 C2 C3 hsame hwf HAL HAM hrunA hownA hgrA hlocA hi0 hy0 hy1 hy2 k4 o4 c1 c2 c3 of f20
          go_simp
          exact hK
        · intro L a hLs hl hdep hc hfr K hK
          have g1 : a.tmps[22]? = some (v) := hfr.got 1 _ 22 rfl rfl (hdep ⟨1, .data⟩ (by simp) rfl) (by simp)
          have e1 : a.tmps.getD 22 undef = v := hfr.eval 1 _ 22 rfl rfl (by simp) (hdep ⟨1, .data⟩ (by simp) rfl)
          have f1 : a.eval (.tmp 22) = v := hfr.eval 1 _ 22 rfl rfl (by simp) (hdep ⟨1, .data⟩ (by simp) rfl)
          have g21 : a.tmps[42]? = some (.slice (some ⟨wr.heap.size, 0, none⟩) 1 1) := hfr.got 21 _ 42 rfl rfl (hdep ⟨21, .data⟩ (by simp) rfl) (by simp)
          have e21 : a.tmps.getD 42 undef = .slice (some ⟨wr.heap.size, 0, none⟩) 1 1 := hfr.eval 21 _ 42 rfl rfl (by simp) (hdep ⟨21, .data⟩ (by simp) rfl)
          have f21 : a.eval (.tmp 42) = .slice (some ⟨wr.heap.size, 0, none⟩) 1 1 := hfr.eval 21 _ 42 rfl rfl (by simp) (hdep ⟨21, .data⟩ (by simp) rfl)
          have h23 := hdep ⟨21, .data⟩ (by simp) rfl
          have h26 : L.getD 24 false = false := not_later hc hl 24 _ rfl ⟨22, .data⟩ (by simp) rfl
          have w1' : wf L = (wr.alloc (.cells #[.int .i64 l.fr, .int .i64 l.to, .bool l.sr] 86)).drew := by rw [hwf.out, h26, hl, h23]; rfl
          have w2' : wf (L.setIfInBounds 22 true) = WA := by
            rw [hwf.out, getD_set_ne (by omega), h26, getD_set_self]
            · rfl
            · exact (by rw [hLs]; simp)
          rw [w1']
          rw [w2'] at hK
          rw [if_pos (by simp [Region.wanted])]
          unfold Oper.wp execOp
          simp only [resolve, invoke, builtin, Sem.run_bind, Sem.run_pure, Result.andThen_ok, List.map_toArray, List.map_cons, List.map_nil, f1, f21, hrunA]
          exact hK
        · intro L a hLs hl hdep hc hfr K hK
          have et3 : a.tmps.getD 3 undef = .pointer (some ⟨w.heap.size + 1 + 1, 0, none⟩) := hfr.evalBase 3 (by kernel_rfl)
          have ft3 : a.eval (.tmp 3) = .pointer (some ⟨w.heap.size + 1 + 1, 0, none⟩) := hfr.evalBase 3 (by kernel_rfl)
          rw [hsame _ _ (by omega) (by omega) (by omega)] at hK
          generalize wf L = wL at hK ⊢
          clear hfr hc hdep hl ft3 CK CO C1 C2 C3 hsame hwf HAL HAM hrunA hownA hgrA hlocA hi0 hy0 hy1 hy2 k4 o4 c1 c2 c3 of zA cA hgw hltA
          go_simp
          exact hK
        · intro L a hLs hl hdep hc hfr K hK
          have g23 : a.tmps[44]? = some (.pointer (some ⟨w.heap.size + 1 + 1, 4, none⟩)) := hfr.got 23 _ 44 rfl rfl (hdep ⟨23, .data⟩ (by simp) rfl) (by simp)
          have e23 : a.tmps.getD 44 undef = .pointer (some ⟨w.heap.size + 1 + 1, 4, none⟩) := hfr.eval 23 _ 44 rfl rfl (by simp) (hdep ⟨23, .data⟩ (by simp) rfl)
          have f23 : a.eval (.tmp 44) = .pointer (some ⟨w.heap.size + 1 + 1, 4, none⟩) := hfr.eval 23 _ 44 rfl rfl (by simp) (hdep ⟨23, .data⟩ (by simp) rfl)
          have g22 : a.tmps[43]? = some (.slice (some ⟨gA, 0, none⟩) (i + 1) capA) := hfr.got 22 _ 43 rfl rfl (hdep ⟨22, .data⟩ (by simp) rfl) (by simp)
          have e22 : a.tmps.getD 43 undef = .slice (some ⟨gA, 0, none⟩) (i + 1) capA := hfr.eval 22 _ 43 rfl rfl (by simp) (hdep ⟨22, .data⟩ (by simp) rfl)
          have f22 : a.eval (.tmp 43) = .slice (some ⟨gA, 0, none⟩) (i + 1) capA := hfr.eval 22 _ 43 rfl rfl (by simp) (hdep ⟨22, .data⟩ (by simp) rfl)
          have h24 := hdep ⟨22, .data⟩ (by simp) rfl
          have w1' : wf L = WA := by rw [hwf.out, hl, h24]; rfl
          have w2' : wf (L.setIfInBounds 24 true) = WA.setCell ⟨w.heap.size + 1 + 1, 4, none⟩ (.slice (some ⟨gA, 0, none⟩) (i + 1) capA) := by
            rw [hwf.out, getD_set_self]
            · rfl
            · exact (by rw [hLs]; simp)
          rw [w1']
          rw [w2'] at hK
          clear hfr hc hdep hl w1' w2' h24 CK CO C1 C2 C3 hsame hwf HAL HAM hrunA hownA hgrA hlocA hi0 hy0 hy1 hy2 k4 o4 c1 c2 c3 of f23 f22
          go_simp
          exact hK
      · intro L hall
        have hlast := hall 24 (by simp)
        rw [hwf.out, hlast, if_pos rfl]
        simp only [finA, Act.put, List.setIfInBounds_toArray, List.set_cons_zero, List.set_cons_succ]
        have KN := Lib.hid (hK.out.step HLl.out hgrA hownA)
        generalize World.setCell _ _ _ = w2 at KN ⊢
        clear zA cA hltA hgw hall hlast HAL HAM CK CO C1 C2 C3 hsame hwf hgrA hownA hlocA hrunA hK HOW c1 c2 c3 k4 o4 of
        go_wp2_with fail
        go_roundg (r.ls.length - (i + 1))
        case measure => omega
        case rel => exact ⟨i + 1, _, by omega, rfl, by simp, KN⟩
    · have hz1 : ¬ (i : Int) < (r.ls.length : Int) := by omega
      have KE := hK.out
      obtain rfl : i = r.ls.length := by omega
      have ow := KE.ow
      rw [List.take_length] at ow
      obtain ⟨a, c, rfl, hLL, hg⟩ := own_links ow
      have BL := Lib.hid KE.bl
      have HLL := Lib.hid hLL
      have HG := Lib.hid hg
      have bR := KE.bR
      have bO := KE.bO
      have q0 : wr.cell? ⟨w.heap.size + 1 + 1, 0, none⟩ = some (.int .i64 r.rows) := bO.cell 0 rfl
      have q1 : wr.cell? ⟨w.heap.size + 1 + 1, 1, none⟩ = some (.int .i64 r.mid) := bO.cell 1 rfl
      have q2 : wr.cell? ⟨w.heap.size + 1 + 1, 2, none⟩ = some (.int .i64 r.gap) := bO.cell 2 rfl
      have q3 : wr.cell? ⟨w.heap.size + 1 + 1, 3, none⟩ = some (.int .i64 r.reach) := bO.cell 3 rfl
      have q4 : wr.cell? ⟨w.heap.size + 1 + 1, 4, none⟩ = some (.slice a r.ls.length c) := bO.cell 4 rfl
      have t0 : wr.cell? ⟨w.heap.size + 1, 0, none⟩ = some (.int .i64 0) := bR.cell 0 rfl
      have f0 := bR.fr 0
      have t1 : wr.cell? ⟨w.heap.size + 1, 1, none⟩ = some (.int .i64 0) := bR.cell 1 rfl
      have f1 := bR.fr 1
      have t2 : wr.cell? ⟨w.heap.size + 1, 2, none⟩ = some (.int .i64 0) := bR.cell 2 rfl
      have f2 := bR.fr 2
      have t3 : wr.cell? ⟨w.heap.size + 1, 3, none⟩ = some (.int .i64 0) := bR.cell 3 rfl
      have f3 := bR.fr 3
      have t4 : wr.cell? ⟨w.heap.size + 1, 4, none⟩ = some (.slice none 0 0) := bR.cell 4 rfl
      have f4 := bR.fr 4
      have AX := Lib.hid ((((((Alt.refl (fun k => k = w.heap.size + 1) wr).setCell (q := ⟨w.heap.size + 1, 0, none⟩) rfl (.int .i64 r.rows)).setCell (q := ⟨w.heap.size + 1, 1, none⟩) rfl (.int .i64 r.mid)).setCell (q := ⟨w.heap.size + 1, 2, none⟩) rfl (.int .i64 r.gap)).setCell (q := ⟨w.heap.size + 1, 3, none⟩) rfl (.int .i64 r.reach)).setCell (q := ⟨w.heap.size + 1, 4, none⟩) rfl (.slice a r.ls.length c))
      have TX := Lib.hid (Blk.setAt (Blk.setAt (Blk.setAt (Blk.setAt (Blk.setAt bR 0 (.int .i64 r.rows)) 1 (.int .i64 r.mid)) 2 (.int .i64 r.gap)) 3 (.int .i64 r.reach)) 4 (.slice a r.ls.length c))
      clear hK KE ow hLL hg bR bO hlt
      go_wp2_with fail
      have tx := TX.out
      have ax := AX.out
      generalize World.setCell _ _ _ = X at tx ax ⊢
      have h0 : X.cell? ⟨w.heap.size + 1, 0, none⟩ = some (.int .i64 r.rows) := tx.cell 0 rfl
      have h1 : X.cell? ⟨w.heap.size + 1, 1, none⟩ = some (.int .i64 r.mid) := tx.cell 1 rfl
      have h2 : X.cell? ⟨w.heap.size + 1, 2, none⟩ = some (.int .i64 r.gap) := tx.cell 2 rfl
      have h3 : X.cell? ⟨w.heap.size + 1, 3, none⟩ = some (.int .i64 r.reach) := tx.cell 3 rfl
      have h4 : X.cell? ⟨w.heap.size + 1, 4, none⟩ = some (.slice a r.ls.length c) := tx.cell 4 rfl
      clear tx
      refine bodyPost_ret (v := .agg #[.int .i64 r.rows, .int .i64 r.mid, .int .i64 r.gap, .int .i64 r.reach, .slice a r.ls.length c]) (by simp [results, Tryd.results18, go_sem, h0, h1, h2, h3, h4]) rfl ⟨a, c, rfl, ?_, ?_, ?_⟩
      · exact HLL.out.alt ax fun g o e h => by have := (HG.out g o e).1; omega
      · intro g o e
        exact Nat.lt_of_lt_of_le (HG.out g o e).2 ax.size
      · exact ((Alt.of_below (p := fun k => w.heap.size ≤ k) BL.out (fun k _ e => e)).trans (ax.mono fun k _ e => by omega)).below (Nat.le_refl _) fun _ e => e

end Go.Proofs.YtaloffdkadhhnaaDoor

namespace Go.Proofs.YtaloffdkadhhnaaDoor
open Go.RowKit

attribute [local go_sem] Oper.semAt_some

set_option maxRecDepth 100000 in
set_option maxHeartbeats 4000000 in
theorem lawFault_any (r : Rk) (w : World) (hL : LinksAt w r.la r.ls) (hn : r.ls.length ≤ 1000) :
    Calls Tryd.prog 22 #[r.val] w fun e w' => e = .returned (.int .i64 (faultN r)) ∧ Below w.heap.size w w' := by
  have hF := Lib.hid (fun W (hb : Below w.heap.size w W) => refFault_any r W (hL.lo hb) hn)
  generalize faultN r = R at *
  have B0 := Lib.hid (below_al w (.cells (rCells r) 24))
  unfold rCells at B0
  unfold Rk.val at *
  clear hL
  go_enter Tryd.func22, Tryd.ntmps22
  go_wp2_with fail
  refine (hF.out _ B0.out).mono ?_
  rintro e w1 ⟨rfl, hb⟩
  have B1 := Lib.hid (below_go B0.out hb)
  clear hb
  go_wp2_with fail
  go_returns
  exact ⟨rfl, B1.out⟩

set_option maxRecDepth 100000 in
set_option maxHeartbeats 4000000 in
theorem pinned_any (r : Rk) (xs : List Int) (a : Option Addr) (c : Nat) (w : World) (hL : LinksAt w r.la r.ls) (hn : r.ls.length ≤ 1000) (hX : IntsAt w a xs) (hm : xs.length ≤ 1000) :
    Calls Tryd.prog 26 #[r.val, .slice a xs.length c] w fun e w' => e = .returned (.int .i64 (chkE r xs)) ∧ Below w.heap.size w w' := by
  have hF := Lib.hid (fun W (hb : Below w.heap.size w W) => lawFault_any r W (hL.lo hb) hn)
  have hR := Lib.hid (fun W (h1 : 1 ≤ r.rows) (h2 : r.rows ≤ 4) (hb : Below w.heap.size w W) => rising_any r xs a c W h1 h2 (hX.lo hb) hm)
  have HE : Hid (chkE r xs = if faultN r = 0 then (if hasL r xs then 0 else 2) else faultN r) := Lib.hid rfl
  have HO := Lib.hid (@faultN_ok r)
  generalize chkE r xs = E at *
  generalize hasL r xs = HB at *
  have B0 := Lib.hid (below_al w (.cells (rCells r) 24))
  have R0 : Hid (Blk (w.alloc (.cells (rCells r) 24)) w.heap.size (rCells r) 24) := Lib.hid (Blk.new w _ _)
  by_cases h0 : faultN r = 0
  · obtain ⟨hok, _⟩ := HO.out h0
    have hR := Lib.hid (fun W hb => hR.out W hok.r1 hok.r2 hb)
    rw [h0] at hF
    have HV := Lib.hid (show E = if HB then 0 else 2 by rw [HE.out, if_pos h0])
    clear HO HE h0 hok hL hX
    unfold rCells at B0 R0
    unfold Rk.val at hF hR
    unfold Rk.val
    go_enter Tryd.func26, Tryd.ntmps26
    go_wp2_with fail
    refine (hF.out _ B0.out).mono ?_
    rintro e w1 ⟨rfl, hb⟩
    have B1 := Lib.hid (below_go B0.out hb)
    have R1 := Lib.hid (Blk.alt R0.out (Alt.of_below (p := fun _ => False) hb (fun k hk h => by omega)) id)
    clear hb R0
    have r0 : w1.cell? ⟨w.heap.size, 0, none⟩ = some (.int .i64 r.rows) := R1.out.cell 0 rfl
    have r1 : w1.cell? ⟨w.heap.size, 1, none⟩ = some (.int .i64 r.mid) := R1.out.cell 1 rfl
    have r2 : w1.cell? ⟨w.heap.size, 2, none⟩ = some (.int .i64 r.gap) := R1.out.cell 2 rfl
    have r3 : w1.cell? ⟨w.heap.size, 3, none⟩ = some (.int .i64 r.reach) := R1.out.cell 3 rfl
    have r4 : w1.cell? ⟨w.heap.size, 4, none⟩ = some (.slice r.la r.ls.length r.lc) := R1.out.cell 4 rfl
    go_wp2_with fail
    refine (hR.out _ B1.out).mono ?_
    rintro e w2 ⟨rfl, hb⟩
    have B2 := Lib.hid (below_go B1.out hb)
    clear hb r0 r1 r2 r3 r4
    cases HB
    · go_wp2_with fail
      go_returns
      exact ⟨by rw [HV.out]; rfl, B2.out⟩
    · go_wp2_with fail
      go_returns
      exact ⟨by rw [HV.out]; rfl, B2.out⟩
  · have HV := Lib.hid (show E = faultN r by rw [HE.out, if_neg h0])
    have hE' : (faultN r == 0) = false := by simpa using h0
    generalize faultN r = F at *
    clear HO HE h0 hL hX hR
    unfold rCells at B0 R0
    unfold Rk.val at hF
    unfold Rk.val
    go_enter Tryd.func26, Tryd.ntmps26
    go_wp2_with fail
    refine (hF.out _ B0.out).mono ?_
    rintro e w1 ⟨rfl, hb⟩
    have B1 := Lib.hid (below_go B0.out hb)
    clear hb R0
    go_wp2_with fail
    go_returns
    exact ⟨by rw [HV.out]; first | done | rfl, B1.out⟩

end Go.Proofs.YtaloffdkadhhnaaDoor
