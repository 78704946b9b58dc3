/- The contract of the reference's Fault. -/
import Derived.Test.YtaloffdkadhhnaaDoorRr
set_option linter.unusedVariables false
set_option linter.unusedSimpArgs false
namespace Go.Proofs.YtaloffdkadhhnaaDoor
open Go.RowKit

attribute [local go_sem] Oper.semAt_some

set_option maxRecDepth 100000 in
set_option maxHeartbeats 8000000 in
theorem refFault_any (r : Rk) (w : World) (hL : LinksAt w r.la r.ls) (hn : r.ls.length ≤ 1000) :
    Calls Tryd.prog 58 #[r.val] w fun e w' => e = .returned (.int .i64 (faultN r)) ∧ Below w.heap.size w w' := by
  have HFV := Lib.hid (show faultN r = if fewB r.ls then (if validB r then 0 else 1) else 3 from rfl)
  have HV0 := Lib.hid (show validB r = (inB r.rows 1 4 && (inB r.mid 0 60 && (inB r.gap 1 8 && (inB r.reach 0 10 && !(r.ls.any (wrongB r)))))) from rfl)
  have HFW := Lib.hid (show fewB r.ls = (decide (r.ls.length ≤ 12) && decide (unsureN r.ls ≤ 6)) from rfl)
  have PN := Lib.hid (fun h1 h2 W => refPins_any r W h1 h2)
  have HP := Lib.hid (@pinsN_bd r)
  have HW := Lib.hid (show ∀ l, wrongB r l = (!(inB l.fr 0 (pinsN r.rows - 1)) || (!(inB l.to 0 (pinsN r.rows - 1)) || l.fr == l.to)) from fun l => rfl)
  have HL := Lib.hid hL
  have R0 := Lib.hid (Blk.new w (rCells r) 24)
  have B0 := Lib.hid (below_al w (.cells (rCells r) 24))
  generalize faultN r = RES at *
  generalize validB r = VB at *
  generalize fewB r.ls = FB at *
  generalize pinsN r.rows = P at *
  generalize wrongB r = WB at *
  unfold rCells at R0 B0
  unfold Rk.val at PN
  unfold Rk.val
  clear hL
  obtain ⟨rows, mid, gap, reach, la, lc, L⟩ := r
  simp only at *
  go_enter Tryd.func58, Tryd.ntmps58
  go_wp2_with fail
  go_loopg [3, 4] L.length (fun g s3 s4 wx => ∃ (i u : Nat), i ≤ L.length ∧ g = L.length - i ∧ s4 = .int .i64 (i : Int) ∧ s3 = .int .i64 (u : Int) ∧ u ≤ i ∧ Hid (u = unsureN (L.take i)) ∧ w.alloc (.cells #[.int .i64 rows, .int .i64 mid, .int .i64 gap, .int .i64 reach, .slice la L.length lc] 24) = wx)
  case atStart => exact ⟨0, 0, by omega, by omega, rfl, rfl, by omega, Lib.hid (by simp [unsureN]), rfl⟩
  case round =>
    obtain ⟨i, u, hi, rfl, rfl, rfl, hu, hA, rfl⟩ := hrel
    by_cases hlt : i < L.length
    · have hz0 : (0 : Int) ≤ (i : Int) := by omega
      have hz1 : (i : Int) < (L.length : Int) := by omega
      obtain ⟨l, hl⟩ : ∃ l, L[i]? = some l := ⟨L[i]'hlt, List.getElem?_eq_getElem _⟩
      obtain ⟨g, o, rfl, k1, k2, k3⟩ := HL.out i _ hl
      have c3 : (w.alloc (.cells #[.int .i64 rows, .int .i64 mid, .int .i64 gap, .int .i64 reach, .slice (some ⟨g, o, none⟩) L.length lc] 24)).cell? ⟨g, o + i * 3 + 2, none⟩ = some (.bool l.sr) := cell_lo B0.out k3
      have hT := Lib.hid (show unsureN (L.take (i + 1)) = unsureN (L.take i) + if l.sr then 0 else 1 from by rw [List.take_add_one, hl]; exact unsure_snoc _ _)
      clear k1 k2 k3 hl
      obtain ⟨fr, to, sr⟩ := l
      simp only at *
      cases sr
      · go_wp2_with fail
        go_roundg (L.length - (i + 1))
        case measure => omega
        case rel => exact ⟨i + 1, u + 1, by omega, rfl, by simp, by simp, by omega, Lib.hid (by rw [hT.out, hA.out]; rfl), rfl⟩
      · go_wp2_with fail
        go_roundg (L.length - (i + 1))
        case measure => omega
        case rel => exact ⟨i + 1, u, by omega, rfl, by simp, rfl, by omega, Lib.hid (by rw [hT.out, hA.out]; rfl), rfl⟩
    · have hz1 : ¬ (i : Int) < (L.length : Int) := by omega
      have hE := Lib.hid (show unsureN L = u from by
        have h1 := hA.out
        rw [List.take_of_length_le (by omega)] at h1; exact h1.symm)
      clear hA hlt
      by_cases h12 : L.length ≤ 12
      · have h12' : ¬ (12 : Int) < (L.length : Int) := by omega
        by_cases h6 : u ≤ 6
        · have h6' : ¬ (6 : Int) < (u : Int) := by omega
          have HFB : Hid (RES = if VB = true then 0 else 1) := Lib.hid (by rw [HFV.out, HFW.out, hE.out, decide_eq_true h12, decide_eq_true h6]; rfl)
          clear h12 h6 HFV HFW
          go_wp2_with fail
          refine (refIn_any _ _ _ _).mono ?_
          rintro e w1 ⟨rfl, rfl⟩
          cases hq1 : inB rows 1 4
          · have HV := Lib.hid (show RES = 1 by rw [HFB.out, HV0.out, hq1]; rfl)
            clear hq1
            go_wp2_with fail
            go_returns
            exact ⟨by rw [HV.out]; first | done | rfl, B0.out⟩
          · go_wp2_with fail
            refine (refIn_any _ _ _ _).mono ?_
            rintro e w1 ⟨rfl, rfl⟩
            cases hq2 : inB mid 0 60
            · have HV := Lib.hid (show RES = 1 by rw [HFB.out, HV0.out, hq1, hq2]; rfl)
              clear hq1 hq2
              go_wp2_with fail
              go_returns
              exact ⟨by rw [HV.out]; first | done | rfl, B0.out⟩
            · go_wp2_with fail
              refine (refIn_any _ _ _ _).mono ?_
              rintro e w1 ⟨rfl, rfl⟩
              cases hq3 : inB gap 1 8
              · have HV := Lib.hid (show RES = 1 by rw [HFB.out, HV0.out, hq1, hq2, hq3]; rfl)
                clear hq1 hq2 hq3
                go_wp2_with fail
                go_returns
                exact ⟨by rw [HV.out]; first | done | rfl, B0.out⟩
              · go_wp2_with fail
                refine (refIn_any _ _ _ _).mono ?_
                rintro e w1 ⟨rfl, rfl⟩
                cases hq4 : inB reach 0 10
                · have HV := Lib.hid (show RES = 1 by rw [HFB.out, HV0.out, hq1, hq2, hq3, hq4]; rfl)
                  clear hq1 hq2 hq3 hq4
                  go_wp2_with fail
                  go_returns
                  exact ⟨by rw [HV.out]; first | done | rfl, B0.out⟩
                · have HV1 := Lib.hid (show RES = if L.any WB = true then 1 else 0 by rw [HFB.out, HV0.out, hq1, hq2, hq3, hq4]; cases L.any WB <;> rfl)
                  have hrb := inB_iff.1 hq1
                  have PN := Lib.hid (fun W => PN.out hrb.1 hrb.2 W)
                  clear hq1 hq2 hq3 hq4 hrb HFB HV0 hE hu
                  go_wp2_with fail
                  go_loopg [5] L.length (fun g s5 wx => ∃ (i : Nat), i ≤ L.length ∧ g = L.length - i ∧ s5 = .int .i64 (i : Int) ∧ Hid ((L.take i).any WB = false) ∧ Hid (Below w.heap.size w wx) ∧ Hid (Blk wx w.heap.size #[.int .i64 rows, .int .i64 mid, .int .i64 gap, .int .i64 reach, .slice la L.length lc] 24))
                  case atStart => exact ⟨0, by omega, by omega, rfl, Lib.hid (by simp), B0, R0⟩
                  case round =>
                    obtain ⟨i, hi, rfl, rfl, hA, hB, hR⟩ := hrel
                    clear B0 R0
                    have r4 : wr.cell? ⟨w.heap.size, 4, none⟩ = some (.slice la L.length lc) := hR.out.cell 4 rfl
                    by_cases hlt : i < L.length
                    · have hz0 : (0 : Int) ≤ (i : Int) := by omega
                      have hz1 : (i : Int) < (L.length : Int) := by omega
                      obtain ⟨l, hl⟩ : ∃ l, L[i]? = some l := ⟨L[i]'hlt, List.getElem?_eq_getElem _⟩
                      obtain ⟨g, o, rfl, k1, k2, k3⟩ := HL.out i _ hl
                      have c1 : wr.cell? ⟨g, o + i * 3, none⟩ = some (.int .i64 l.fr) := cell_lo hB.out k1
                      have c2 : wr.cell? ⟨g, o + i * 3 + 1, none⟩ = some (.int .i64 l.to) := cell_lo hB.out k2
                      have c3 : wr.cell? ⟨g, o + i * 3 + 2, none⟩ = some (.bool l.sr) := cell_lo hB.out k3
                      have hT := Lib.hid (show (L.take (i + 1)).any WB = ((L.take i).any WB || WB l) from by rw [List.take_add_one, hl]; simp)
                      have hLA : Hid (WB l = true → L.any WB = true) := Lib.hid (fun h => List.any_eq_true.2 ⟨l, List.mem_of_getElem? hl, h⟩)
                      have HWl := Lib.hid (HW.out l)
                      have hP1 := HP.out
                      have ew : IntKind.i64.wrap (P - 1) = P - 1 := IntWalk.i64_in _ (by omega)
                      have I1 := Lib.hid (fun W => refIn_any l.fr 0 (P - 1) W)
                      have I2 := Lib.hid (fun W => refIn_any l.to 0 (P - 1) W)
                      obtain ⟨W0, hW0⟩ : ∃ W0, Hid (W0 = wr.alloc (.cells #[.int .i64 l.fr, .int .i64 l.to, .bool l.sr] 91)) := ⟨_, Lib.hid rfl⟩
                      have B3 : Hid (Below w.heap.size w W0) := Lib.hid (by rw [hW0.out]; exact below_al2 hB.out _)
                      have R3 : Hid (Blk W0 w.heap.size #[.int .i64 rows, .int .i64 mid, .int .i64 gap, .int .i64 reach, .slice (some ⟨g, o, none⟩) L.length lc] 24) := Lib.hid (by rw [hW0.out]; exact Blk.alt hR.out ((Alt.refl (fun _ => False) wr).alloc _) id)
                      have T3 : Hid (Blk W0 wr.heap.size #[.int .i64 l.fr, .int .i64 l.to, .bool l.sr] 91) := Lib.hid (by rw [hW0.out]; exact Blk.new wr _ _)
                      clear k1 k2 k3 hl hP1 hB hR
                      obtain ⟨fr, to, sr⟩ := l
                      simp only at *
                      have p0 := fun u : Late W0 => u.cell (R3.out.cell 0 (show _ = some (Value.int .i64 rows) from rfl)) R3.out.lt
                      have p1 := fun u : Late W0 => u.cell (R3.out.cell 1 (show _ = some (Value.int .i64 mid) from rfl)) R3.out.lt
                      have p2 := fun u : Late W0 => u.cell (R3.out.cell 2 (show _ = some (Value.int .i64 gap) from rfl)) R3.out.lt
                      have p3 := fun u : Late W0 => u.cell (R3.out.cell 3 (show _ = some (Value.int .i64 reach) from rfl)) R3.out.lt
                      have p4 := fun u : Late W0 => u.cell (R3.out.cell 4 (show _ = some (Value.slice (some ⟨g, o, none⟩) L.length lc) from rfl)) R3.out.lt
                      have t0 := fun u : Late W0 => u.cell (T3.out.cell 0 (show _ = some (Value.int .i64 fr) from rfl)) T3.out.lt
                      have t1 := fun u : Late W0 => u.cell (T3.out.cell 1 (show _ = some (Value.int .i64 to) from rfl)) T3.out.lt
                      have t2 := fun u : Late W0 => u.cell (T3.out.cell 2 (show _ = some (Value.bool sr) from rfl)) T3.out.lt
                      cases hq1 : inB fr 0 (P - 1)
                      · have HV := Lib.hid (show RES = 1 by rw [HV1.out, if_pos (hLA.out (by rw [HWl.out, hq1]; rfl))])
                        rw [hq1] at I1
                        clear hq1 hT hLA HWl I2
                        go_wp2_with fail
                        have hWo := hW0.out
                        rw [← hWo]
                        clear hWo r4 c1 c2 c3
                        refine wp_region_late W0 (Below.refl _ _) (by kernel_rfl) (by kernel_rfl) ?_
                        repeat (go_big_quiet_step ((first | (go_at_call 23; exact Calls.late (PN.out _)) | (go_at_call 42; (first | (with_reducible exact Calls.late_same (I1.out _)) | (with_reducible exact Calls.late_same (I2.out _)))))))
                        refine wpQuiet_nil ?_
                        intro _ hw'
                        obtain ⟨uq, hw''⟩ := hw'
                        subst hw''
                        have BU := Lib.hid (below_go B3.out uq.b)
                        clear p0 p1 p2 p3 p4 t0 t1 t2
                        go_wp2_with fail
                        go_returns
                        exact ⟨by rw [HV.out]; first | done | rfl, BU.out⟩
                      · rw [hq1] at I1
                        cases hq2 : inB to 0 (P - 1)
                        · have HV := Lib.hid (show RES = 1 by rw [HV1.out, if_pos (hLA.out (by rw [HWl.out, hq1, hq2]; rfl))])
                          rw [hq2] at I2
                          clear hq1 hq2 hT hLA HWl
                          go_wp2_with fail
                          have hWo := hW0.out
                          rw [← hWo]
                          clear hWo r4 c1 c2 c3
                          refine wp_region_late W0 (Below.refl _ _) (by kernel_rfl) (by kernel_rfl) ?_
                          repeat (go_big_quiet_step ((first | (go_at_call 23; exact Calls.late (PN.out _)) | (go_at_call 42; (first | (with_reducible exact Calls.late_same (I1.out _)) | (with_reducible exact Calls.late_same (I2.out _)))))))
                          refine wpQuiet_nil ?_
                          intro _ hw'
                          obtain ⟨uq, hw''⟩ := hw'
                          subst hw''
                          have BU := Lib.hid (below_go B3.out uq.b)
                          clear p0 p1 p2 p3 p4 t0 t1 t2
                          go_wp2_with fail
                          go_returns
                          exact ⟨by rw [HV.out]; first | done | rfl, BU.out⟩
                        · rw [hq2] at I2
                          cases hq3 : (fr == to)
                          · have hN := Lib.hid (show (L.take (i + 1)).any WB = false by rw [hT.out, hA.out, HWl.out, hq1, hq2, hq3]; rfl)
                            clear hq1 hq2 hT hLA HWl hA
                            go_wp2_with fail
                            have hWo := hW0.out
                            rw [← hWo]
                            clear hWo r4 c1 c2 c3
                            refine wp_region_late W0 (Below.refl _ _) (by kernel_rfl) (by kernel_rfl) ?_
                            repeat (go_big_quiet_step ((first | (go_at_call 23; exact Calls.late (PN.out _)) | (go_at_call 42; (first | (with_reducible exact Calls.late_same (I1.out _)) | (with_reducible exact Calls.late_same (I2.out _)))))))
                            refine wpQuiet_nil ?_
                            intro _ hw'
                            obtain ⟨uq, hw''⟩ := hw'
                            subst hw''
                            have BU := Lib.hid (below_go B3.out uq.b)
                            clear ew
                            have RU := Lib.hid (Blk.alt R3.out (Alt.of_below (p := fun _ => False) uq.b (fun k hk h => by omega)) id)
                            clear p0 p1 p2 p3 p4 t0 t1 t2
                            clear hq3
                            go_wp2_with fail
                            go_roundg (L.length - (i + 1))
                            case measure => omega
                            case rel => exact ⟨i + 1, by omega, rfl, by simp, hN, BU, RU⟩
                          · have HV := Lib.hid (show RES = 1 by rw [HV1.out, if_pos (hLA.out (by rw [HWl.out, hq1, hq2, hq3]; rfl))])
                            clear hq1 hq2 hT hLA HWl
                            go_wp2_with fail
                            have hWo := hW0.out
                            rw [← hWo]
                            clear hWo r4 c1 c2 c3
                            refine wp_region_late W0 (Below.refl _ _) (by kernel_rfl) (by kernel_rfl) ?_
                            repeat (go_big_quiet_step ((first | (go_at_call 23; exact Calls.late (PN.out _)) | (go_at_call 42; (first | (with_reducible exact Calls.late_same (I1.out _)) | (with_reducible exact Calls.late_same (I2.out _)))))))
                            refine wpQuiet_nil ?_
                            intro _ hw'
                            obtain ⟨uq, hw''⟩ := hw'
                            subst hw''
                            have BU := Lib.hid (below_go B3.out uq.b)
                            clear p0 p1 p2 p3 p4 t0 t1 t2
                            clear hq3
                            go_wp2_with fail
                            go_returns
                            exact ⟨by rw [HV.out]; first | done | rfl, BU.out⟩
                    · have hz1 : ¬ (i : Int) < (L.length : Int) := by omega
                      have HV := Lib.hid (show RES = 0 by
                        have := hA.out
                        rw [List.take_of_length_le (by omega)] at this
                        rw [HV1.out, this]; rfl)
                      clear hA hlt
                      go_wp2_with fail
                      go_returns
                      exact ⟨by rw [HV.out]; first | done | rfl, hB.out⟩
        · have h6' : (6 : Int) < (u : Int) := by omega
          have HV := Lib.hid (show RES = 3 by rw [HFV.out, HFW.out, hE.out, decide_eq_false h6, Bool.and_false]; rfl)
          clear h12 h6 HFV HFW
          go_wp2_with fail
          go_returns
          exact ⟨by rw [HV.out]; first | done | rfl, B0.out⟩
      · have h12' : (12 : Int) < (L.length : Int) := by omega
        have HV := Lib.hid (show RES = 3 by rw [HFV.out, HFW.out, decide_eq_false h12]; rfl)
        clear h12 HFV HFW
        go_wp2_with fail
        go_returns
        exact ⟨by rw [HV.out]; first | done | rfl, B0.out⟩

end Go.Proofs.YtaloffdkadhhnaaDoor
