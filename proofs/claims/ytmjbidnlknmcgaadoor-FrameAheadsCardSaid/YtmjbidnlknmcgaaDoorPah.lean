/- FrameAheads: for any law and any match (sheets of players), the players that may win, and those that are sure to, are as the reference says by the spans of their sheets, or the error is. Its conditions: none on the input (matches of more than 8 sheets, or with a sheet of more than 45 balls, are let by, as the statement does); the library's table deBruijn64tab reads as its own text lays it (the card ties it). -/
import Derived.Test.YtmjbidnlknmcgaaDoorRk3
import Derived.Test.YtmjbidnlknmcgaaDoorUa
import Derived.Deep.Matrix
set_option linter.unusedVariables false
set_option linter.unusedSimpArgs false
namespace Go.Proofs.YtmjbidnlknmcgaaDoor
open Go.RowKit

theorem longB_step {SS : List (Option Addr × Nat × List Int)} {i : Nat} {p : Option Addr × Nat × List Int} (h : SS[i]? = some p) : longB SS (i + 1) = (longB SS i || decide (40 < p.2.2.length)) := by
  unfold longB
  rw [List.take_add_one, h]
  simp [List.any_append, Bool.or_assoc]
theorem longB_zero (SS : List (Option Addr × Nat × List Int)) : longB SS 0 = decide (6 < SS.length) := by simp [longB]

set_option maxRecDepth 100000 in
set_option maxHeartbeats 16000000 in
theorem aheads_any (l : Lw) (SS : List (Option Addr × Nat × List Int)) (a : Option Addr) (c : Nat) (w : World) (hS : SheetsAt w a SS) (hH : HdOK SS) (hT : TabOK w) :
    Calls Tryd.prog 7 #[l.val, .slice a SS.length c] w fun e w' => e = .returned (.bool true) ∧ Below w.heap.size w w' := by
  have HT := Lib.hid hT
  have HS := Lib.hid hS
  have HH := Lib.hid hH
  have WAK := Lib.hid wakes_any
  have LAW := Lib.hid (law_any l)
  have ISL := Lib.hid (isLaw_any l)
  obtain ⟨n, hN⟩ : ∃ n, SS.length = n := ⟨_, rfl⟩
  rw [hN]
  clear hT hS hH
  by_cases hn : n ≤ 8
  · have hgt : ¬ (8 : Int) < (n : Int) := by omega
    obtain ⟨B6, hB6⟩ : ∃ B6, decide ((6 : Int) < (n : Int)) = B6 := ⟨_, rfl⟩
    have HB6 : Hid (B6 = longB SS 0) := Lib.hid (by
      rw [longB_zero, hN, ← hB6]
      by_cases h : 6 < n
      · have : (6 : Int) < (n : Int) := by omega
        simp [h, this]
      · have : ¬ (6 : Int) < (n : Int) := by omega
        simp [h, this])
    have HN := Lib.hid hN
    unfold Lw.val at *
    go_enter Tryd.func7, Tryd.ntmps7
    go_wp2_with fail
    have A1 := WL.start w l
    generalize World.alloc w _ = w1 at A1 ⊢
    obtain ⟨i24, hi24, hz0, hz1, hz2⟩ := info_parts info24
    go_loopg [5, 6, 7] n (fun g s5 s6 s7 wx => ∃ (i : Nat) (lb : Bool) (ca : Option Addr) (cc : Nat) (CS : List (Option Addr × Nat × List Int)), i ≤ n ∧ g = n - i ∧ s7 = .int .i64 (i : Int) ∧ s6 = .bool lb ∧ s5 = .slice ca i cc ∧ Hid (lb = longB SS i) ∧ Hid (CpI w1 wx (.slice ca i cc) i CS) ∧ Hid (CS.map (fun p => p.2.2) = (SS.take i).map (fun p => p.2.2)) ∧ Hid (∀ p ∈ SS.take i, p.2.2.length ≤ 45))
    case atStart => exact ⟨0, B6, none, 0, [], by omega, rfl, rfl, rfl, rfl, HB6, Lib.hid (CpI.start w1), Lib.hid (by simp), Lib.hid (by simp)⟩
    case round =>
      obtain ⟨i, lb, ca, cc, CS, hi, rfl, rfl, rfl, rfl, hlb, hI, hC, h45⟩ := hrel
      have A3 := WL.lo A1 hI.out.bl
      by_cases hin : i < n
      · have hq0 : (0 : Int) ≤ (i : Int) := by omega
        have hq1 : (i : Int) < (n : Int) := by omega
        have hw1 : IntKind.i64.wrap ((i : Int) + 1) = (i : Int) + 1 := IntWalk.i64_in _ (by omega)
        obtain ⟨p, hp⟩ : ∃ p, SS[i]? = some p := ⟨SS[i]'(by rw [HN.out]; exact hin), List.getElem?_eq_getElem _⟩
        obtain ⟨g, o, hga, hcell, hballs⟩ := HS.out i p hp
        have hstep := longB_step hp
        have htk : SS.take (i + 1) = SS.take i ++ [p] := by rw [List.take_add_one, hp]; rfl
        have hhd := HH.out p (List.mem_of_getElem? hp)
        obtain ⟨xa, xc, zs⟩ := p
        simp only at hcell hballs hstep hhd
        have LST := Lib.hid (fun W (hs : BallsAt W xa zs) (hn : zs.length ≤ 100) => list_any zs xa xc W ⟨hs, hhd.1⟩ hn)
        obtain ⟨m, hm⟩ : ∃ m, zs.length = m := ⟨_, rfl⟩
        rw [hm] at hcell hstep LST
        subst hga
        have hc2 := below_cell A3.out.bl hcell
        have HBL := Lib.hid hballs
        have HM := Lib.hid hm
        have HST := Lib.hid hstep
        have HTK := Lib.hid htk
        clear hp hcell hballs hstep htk hhd hm
        by_cases hm45 : m ≤ 45
        · have hg45 : ¬ (45 : Int) < (m : Int) := by omega
          go_upto_region 10 with fail
          go_cut [6] (fun s6 wx => s6 = .bool (lb || decide (40 < m)) ∧ wr = wx)
          case first =>
            cases lb
            · by_cases h40 : 40 < m
              · have h40b : (40 : Int) < (m : Int) := by omega
                go_wp2_with fail
                go_meet
                exact ⟨by simp [h40], rfl⟩
              · have h40b : ¬ (40 : Int) < (m : Int) := by omega
                go_wp2_with fail
                go_meet
                exact ⟨by simp [h40], rfl⟩
            · go_wp2_with fail
              go_meet
              exact ⟨by simp, rfl⟩
          case rest =>
            obtain ⟨rfl, rfl⟩ := hcut
            go_wp2_with fail
            refine (LST.out wr (HBL.out.lo A3.out.bl) (by omega)).mono ?_
            rintro e w2 ⟨v, rfl, ho, hb⟩
            obtain ⟨va, vc, rfl⟩ := own_len ho
            have I2 := Lib.hid (hI.out.lo hb)
            have hnn : i ≤ 8 := by omega
            have hbs2 : w1.heap.size ≤ (w2.alloc (.cells #[.slice va m vc] 24)).heap.size := Nat.le_trans I2.out.bl.size (below_al w2 _).size
            have HO2 := Lib.hid ho
            have HB2 := Lib.hid hb
            clear ho hb hc2
            go_wp2_with (at_builtin; go_must (refine wpList_append_own_at _ rfl _ _ 41 rfl w1.heap.size 24 i24 (.slice none 0 0) 1 24 Tryd.underlying41 hi24 hz0 hz1 hz2 rfl (by decide) _ i _ rfl (own_al I2.out.ow _) ⟨w2.heap.size, 0, none⟩ 1 1 [.slice va m vc] rfl rfl (World.news_of_block (heap_alloc_new w2 _)) (by simp [Value.oneCell']) (by unfold maxLen; omega) (by omega) hbs2 ?_); intro v' w9 hown' hgrow hnil hloc; have I9 := Lib.hid (CpI.app hI.out HM.out HO2.out HB2.out hgrow hown' hloc); obtain ⟨ya, yc, rfl⟩ := own_len hown'; clear hown' hgrow hnil hloc)
            go_roundg (n - (i + 1))
            case measure => omega
            case rel => exact ⟨i + 1, _, ya, yc, CS ++ [(va, vc, zs)], by omega, rfl, by simp, rfl, rfl, Lib.hid (by rw [HST.out, hlb.out]), I9, Lib.hid (by rw [HTK.out, List.map_append, List.map_append, hC.out]; rfl), Lib.hid (by
              rw [HTK.out]
              intro q hq
              rcases List.mem_append.1 hq with hq | hq
              · exact h45.out q hq
              · simp at hq; subst hq; show zs.length ≤ 45; rw [HM.out]; exact hm45)⟩
        · have hg45 : (45 : Int) < (m : Int) := by omega
          go_wp2_with fail
          refine (WAK.out _ (HT.out.below A3.out.bl HT.out.pos)).mono ?_
          rintro e wZ ⟨rfl, hb⟩
          have BF := Lib.hid (A3.out.bl.trans (hb.mono A3.out.bl.size))
          clear hb
          go_wp2_with fail
          go_ret
          exact ⟨rfl, BF.out⟩
      · have hie : i = n := by omega
        subst hie
        have hz3 : ¬ (i : Int) < (i : Int) := by omega
        have hz3x := trivial
        have hlb := hlb.out
        have hCM := hC.out
        have h45 := h45.out
        have hSC := hI.out.sheets
        rw [← HN.out, List.take_length] at hCM h45
        have hCL : CS.length = i := by have := congrArg List.length hCM; simpa [HN.out] using this
        have hCS := HN.out
        obtain ⟨M, hM⟩ : ∃ M, matchE l SS = M := ⟨_, rfl⟩
        have hMC : matchE l CS = M := by rw [matchE_same hCM]; exact hM
        clear A1 HB6 hi24 hz0 hz1 hz2 hB6 hin
        by_cases hM0 : M = 0
        · subst hM0
          have hok : okB l = true := by
            cases h : okB l
            · rw [matchE_long, h] at hM; simp at hM
            · rfl
          have hlong : lb = false ∧ 0 < i ∧ i ≤ 6 ∧ ∀ p ∈ SS, p.2.2.length ≤ 40 := by
            have h1 := hM
            rw [matchE_long, hok, HN.out, ← hlb] at h1
            simp only [Bool.true_eq_false, if_false] at h1
            cases hl2 : lb
            · rw [hl2] at h1
              simp only [Bool.false_eq_true, if_false] at h1
              have h2 := longB_all SS
              rw [HN.out, ← hlb, hl2] at h2
              have h3 := h2.symm
              simp only [Bool.or_eq_false_iff, decide_eq_false_iff_not, Bool.not_eq_false'] at h3
              refine ⟨rfl, ?_, by omega, fun p hp => by simpa using List.all_eq_true.1 h3.2 p hp⟩
              by_cases h0 : i = 0
              · rw [if_pos h0] at h1; cases h1
              · omega
            · rw [hl2] at h1; simp at h1
          obtain ⟨hlf, hi0, hsn, h40⟩ := hlong
          subst hlf
          have hz : ((i : Int) == 0) = false := by simp; omega
          have ok := (okB_iff l).1 hok
          have OK := Lib.hid ok
          have H40 := Lib.hid h40
          have hE := spE_ten ok h40
          have HSC := Lib.hid hSC
          rw [hok] at ISL
          have RR := spR_same (l := l) hCM
          have EC := spE_same (l := l) hCM
          cases hall0 : SS.all fun p => isB l p.2.2
          · rw [hall0] at hE
            simp only [Bool.false_eq_true, if_false] at hE
            have hEC : spE l CS = 10 := by rw [EC, hE]
            have AHD := Lib.hid (fun W (hs : SheetsAt W ca CS) hT => ahead_err2 l ok CS ca cc W 10 hs (by omega) hMC hEC (by decide) hT)
            rw [hCL] at AHD
            have hbadall := Lib.hid hall0
            have AHDV := Lib.hid trivial
            have SPALL := Lib.hid trivial
            have HC := Lib.hid trivial
            clear hCM hlb hSC hI hC hCS hM hMC RR EC hE hEC hall0 ok h40 h45 hCL HH hok
            obtain ⟨n, hni⟩ : ∃ n, n = i := ⟨_, rfl⟩
            subst hni
            obtain ⟨k0, k1, k2, k3⟩ := WL.at A3
            go_wp2_with fail
            refine (LAW.out wr).mono ?_
            rintro e w4 ⟨rfl, hb⟩
            have A4 := WL.lo A3 hb
            have S4 := Lib.hid (HSC.out.lo hb)
            clear hb k0 k1 k2 k3 HSC
            go_wp2_with fail
            refine (AHD.out w4 S4.out (HT.out.below A4.out.bl HT.out.pos)).mono ?_
            rintro e w5 ⟨rfl, hb⟩
            have A5 := WL.lo A4 hb
            clear hb S4 AHD
            obtain ⟨k0, k1, k2, k3⟩ := WL.at A5
            go_wp2_with fail
            refine (ISL.out w5).mono ?_
            rintro e w6 ⟨rfl, hb⟩
            have A6 := WL.lo A5 hb
            clear hb k0 k1 k2 k3 A5 A4 A3
            go_wp2_with fail
            go_loopg [11, 12] n (fun g s11 s12 wx => ∃ (i : Nat) (wt : Int), i ≤ n ∧ g = n - i ∧ s12 = .int .i64 (i : Int) ∧ s11 = .int .i64 wt ∧ ((wt = 0 ∧ Hid ((SS.take i).all (fun p => isB l p.2.2) = true)) ∨ (wt = 10 ∧ Hid ((SS.take i).all (fun p => isB l p.2.2) = false))) ∧ Hid (BL w6 wx))
            case atStart => exact ⟨0, 0, by omega, rfl, rfl, rfl, .inl ⟨rfl, Lib.hid (by simp)⟩, BL.start w6⟩
            case round =>
              obtain ⟨i, wt, hi, rfl, rfl, rfl, hall, hBW⟩ := hrel
              rcases hall with ⟨rfl, hall⟩ | ⟨rfl, hall⟩
              · by_cases hin : i < n
                · skip
                  have hz0 : (0 : Int) ≤ (i : Int) := by omega
                  have hz1 : (i : Int) < (n : Int) := by omega
                  have hw1 : IntKind.i64.wrap ((i : Int) + 1) = (i : Int) + 1 := IntWalk.i64_in _ (by omega)
                  obtain ⟨p, hp⟩ : ∃ p, SS[i]? = some p := ⟨SS[i]'(by rw [HN.out]; exact hin), List.getElem?_eq_getElem _⟩
                  have hpm := List.mem_of_getElem? hp
                  obtain ⟨g, o, hga, hcell, hballs⟩ := HS.out i p hp
                  have IS1 := fun (W : World) (hs : BallsAt W p.1 p.2.2) => is_ref l p.2.2 p.1 p.2.1 W OK.out hs (by have := H40.out p hpm; omega)
                  have htk : (SS.take (i + 1)).all (fun p => isB l p.2.2) = ((SS.take i).all (fun p => isB l p.2.2) && isB l p.2.2) := by rw [List.take_add_one, hp]; simp [List.all_append]
                  obtain ⟨ib, hib⟩ : ∃ ib, isB l p.2.2 = ib := ⟨_, rfl⟩
                  have hib2 : decide ((fol l (rec0 l) p.2.2).2 = p.2.2.length) = ib := hib
                  rw [hib, hall.out] at htk
                  rw [Bool.true_and] at htk
                  rw [hib2] at IS1
                  obtain ⟨xa, xc, zs⟩ := p
                  simp only at hcell hballs IS1
                  unfold Lw.val at IS1
                  obtain ⟨m, hm⟩ : ∃ m, zs.length = m := ⟨_, rfl⟩
                  rw [hm] at hcell IS1
                  subst hga
                  have HTK := Lib.hid htk
                  have HBL := Lib.hid hballs
                  have HCE := Lib.hid hcell
                  have AR := WL.lo A6 hBW.out.b
                  have IS := Lib.hid (fun W (h : Hid (BL wr W)) => IS1 W (HBL.out.lo (AR.out.bl.trans (h.out.b.mono AR.out.bl.size))))
                  have SP : Hid (∀ W, Hid (BL wr W) → ((W.cell? ⟨w.heap.size, 0, none⟩ = some (.int .i64 l.fr) ∧ W.cell? ⟨w.heap.size, 1, none⟩ = some (.int .i64 l.pn) ∧ W.cell? ⟨w.heap.size, 2, none⟩ = some (.int .i64 l.bl) ∧ W.cell? ⟨w.heap.size, 3, none⟩ = some (.int .i64 l.tp)) ∧ W.cell? ⟨g, o + i, none⟩ = some (.slice xa m xc))) := Lib.hid (fun W h => ⟨BL.law h AR, below_cell h.out.b (below_cell AR.out.bl HCE.out)⟩)
                  clear hpm hcell hballs htk hib hib2 IS1 hm hp
                  go_upto_region 23 with fail
                  go_cut [92] (fun s92 wx => s92 = .bool (!ib) ∧ Hid (BL wr wx))
                  case first =>
                    clear AR HTK HBL HCE hBW hall HS HN HC H40 OK SPALL AHDV
                    go_region_held3 (fun W => (W.cell? ⟨w.heap.size, 0, none⟩ = some (.int .i64 l.fr) ∧ W.cell? ⟨w.heap.size, 1, none⟩ = some (.int .i64 l.pn) ∧ W.cell? ⟨w.heap.size, 2, none⟩ = some (.int .i64 l.bl) ∧ W.cell? ⟨w.heap.size, 3, none⟩ = some (.int .i64 l.tp)) ∧ W.cell? ⟨g, o + i, none⟩ = some (.slice xa m xc))
                      (with_reducible first | exact SP.out _ (BL.dr (BL.start wr)) | exact SP.out _ PA)
                      (first
                        | (go_at_call 32; (with_reducible refine (IS.out _ (BL.dr (BL.start wr))).mono ?_); rintro e wA ⟨rfl, hb⟩; have PA := BL.lo (BL.dr (BL.start wr)) hb; clear hb))
                    all_goals
                      go_wp2_with fail
                      go_meet
                      with_reducible exact ⟨rfl, PA⟩
                  case rest =>
                    obtain ⟨rfl, PA⟩ := hcut
                    have B9 := BL.lo hBW PA.out.b
                    clear SP IS hBW PA
                    cases ib
                    all_goals
                      go_wp2_with fail
                      go_roundg (n - (i + 1))
                      case measure => omega
                      case rel => exact ⟨i + 1, _, by omega, rfl, by simp, rfl, by first | exact .inl ⟨rfl, HTK⟩ | exact .inr ⟨rfl, HTK⟩, B9⟩
                · have hie : i = n := by omega
                  subst hie
                  have hz1 : ¬ (i : Int) < (i : Int) := by omega
                  have hall2 := hall.out
                  rw [← HN.out, List.take_length] at hall2
                  have hbx := hbadall.out
                  rw [hall2] at hbx
                  cases hbx
              · skip
                have AR := WL.lo A6 hBW.out.b
                by_cases hin : (i : Int) < (n : Int)
                all_goals
                  go_wp2_with fail
                  refine (WAK.out _ (HT.out.below AR.out.bl HT.out.pos)).mono ?_
                  rintro e wZ ⟨rfl, hb⟩
                  have BF := Lib.hid (AR.out.bl.trans (hb.mono AR.out.bl.size))
                  clear hb
                  go_wp2_with fail
                  go_ret
                  exact ⟨rfl, BF.out⟩
          · rw [hall0] at hE
            simp only [if_true] at hE
            have hEC : spE l CS = 0 := by rw [EC, hE]
            have AHD := Lib.hid (fun W (hs : SheetsAt W ca CS) hT => ahead_good l ok CS ca cc W hs hMC hEC hT)
            rw [hCL, RR] at AHD
            obtain ⟨R, hR⟩ : ∃ R, spR l SS = R := ⟨_, rfl⟩
            rw [hR] at AHD
            have HRR := Lib.hid hR
            obtain ⟨L1, hL1⟩ : ∃ L1, selL mayI R i = L1 := ⟨_, rfl⟩
            obtain ⟨L2, hL2⟩ : ∃ L2, selL sureI R i = L2 := ⟨_, rfl⟩
            rw [hL1, hL2] at AHD
            obtain ⟨N1, hN1⟩ : ∃ N1, L1.length = N1 := ⟨_, rfl⟩
            obtain ⟨N2, hN2⟩ : ∃ N2, L2.length = N2 := ⟨_, rfl⟩
            rw [hN1, hN2] at AHD
            have HLL1 := Lib.hid hL1
            have HLL2 := Lib.hid hL2
            have HNN1 := Lib.hid hN1
            have HNN2 := Lib.hid hN2
            clear hL1 hL2 hN1 hN2
            have hgoodall0 := Lib.hid hall0
            have SPALL := Lib.hid (fun (p : Option Addr × Nat × List Int) (hp : p ∈ SS) (W : World) (hs : BallsAt W p.1 p.2.2) => spanR_ref l p.2.2 p.1 p.2.1 W hs (HH.out p hp).2 (by
              rw [rdE_is ok (h40 p hp), List.all_eq_true.1 hall0 p hp, if_pos rfl]))
            have AHDV := Lib.hid trivial
            have HC := Lib.hid trivial
            unfold Lw.val at SPALL
            clear hCM hlb hSC hI hC hCS hM hMC RR EC hE hEC hall0 ok h40 h45 hCL HH hok hR
            obtain ⟨n, hni⟩ : ∃ n, n = i := ⟨_, rfl⟩
            subst hni
            obtain ⟨k0, k1, k2, k3⟩ := WL.at A3
            go_wp2_with fail
            refine (LAW.out wr).mono ?_
            rintro e w4 ⟨rfl, hb⟩
            have A4 := WL.lo A3 hb
            have S4 := Lib.hid (HSC.out.lo hb)
            clear hb k0 k1 k2 k3 HSC
            go_wp2_with fail
            refine (AHD.out w4 S4.out (HT.out.below A4.out.bl HT.out.pos)).mono ?_
            rintro e w5 ⟨v1, v2, rfl, ho1, ho2, hb⟩
            obtain ⟨ma, mc, rfl⟩ := own_len ho1
            obtain ⟨ua, uc, rfl⟩ := own_len ho2
            have A5 := WL.lo A4 hb
            have M5 := Lib.hid (own_ballsAt ho1)
            have U5 := Lib.hid (own_ballsAt ho2)
            clear hb S4 AHD ho1 ho2
            obtain ⟨k0, k1, k2, k3⟩ := WL.at A5
            go_wp2_with fail
            refine (ISL.out w5).mono ?_
            rintro e w6 ⟨rfl, hb⟩
            have A6 := WL.lo A5 hb
            have M6 := Lib.hid (M5.out.lo hb)
            have U6 := Lib.hid (U5.out.lo hb)
            clear M5 U5
            clear hb k0 k1 k2 k3 A5 A4 A3
            go_wp2_with fail
            go_loopg [11, 12] n (fun g s11 s12 wx => ∃ (i : Nat) (wt : Int), i ≤ n ∧ g = n - i ∧ s12 = .int .i64 (i : Int) ∧ s11 = .int .i64 wt ∧ ((wt = 0 ∧ Hid ((SS.take i).all (fun p => isB l p.2.2) = true)) ∨ (wt = 10 ∧ Hid ((SS.take i).all (fun p => isB l p.2.2) = false))) ∧ Hid (BL w6 wx))
            case atStart => exact ⟨0, 0, by omega, rfl, rfl, rfl, .inl ⟨rfl, Lib.hid (by simp)⟩, BL.start w6⟩
            case round =>
              obtain ⟨i, wt, hi, rfl, rfl, rfl, hall, hBW⟩ := hrel
              rcases hall with ⟨rfl, hall⟩ | ⟨rfl, hall⟩
              · by_cases hin : i < n
                · skip
                  have hz0 : (0 : Int) ≤ (i : Int) := by omega
                  have hz1 : (i : Int) < (n : Int) := by omega
                  have hw1 : IntKind.i64.wrap ((i : Int) + 1) = (i : Int) + 1 := IntWalk.i64_in _ (by omega)
                  obtain ⟨p, hp⟩ : ∃ p, SS[i]? = some p := ⟨SS[i]'(by rw [HN.out]; exact hin), List.getElem?_eq_getElem _⟩
                  have hpm := List.mem_of_getElem? hp
                  obtain ⟨g, o, hga, hcell, hballs⟩ := HS.out i p hp
                  have IS1 := fun (W : World) (hs : BallsAt W p.1 p.2.2) => is_ref l p.2.2 p.1 p.2.1 W OK.out hs (by have := H40.out p hpm; omega)
                  have htk : (SS.take (i + 1)).all (fun p => isB l p.2.2) = ((SS.take i).all (fun p => isB l p.2.2) && isB l p.2.2) := by rw [List.take_add_one, hp]; simp [List.all_append]
                  obtain ⟨ib, hib⟩ : ∃ ib, isB l p.2.2 = ib := ⟨_, rfl⟩
                  have hib2 : decide ((fol l (rec0 l) p.2.2).2 = p.2.2.length) = ib := hib
                  rw [hib, hall.out] at htk
                  rw [Bool.true_and] at htk
                  rw [hib2] at IS1
                  obtain ⟨xa, xc, zs⟩ := p
                  simp only at hcell hballs IS1
                  unfold Lw.val at IS1
                  obtain ⟨m, hm⟩ : ∃ m, zs.length = m := ⟨_, rfl⟩
                  rw [hm] at hcell IS1
                  subst hga
                  have HTK := Lib.hid htk
                  have HBL := Lib.hid hballs
                  have HCE := Lib.hid hcell
                  have AR := WL.lo A6 hBW.out.b
                  have IS := Lib.hid (fun W (h : Hid (BL wr W)) => IS1 W (HBL.out.lo (AR.out.bl.trans (h.out.b.mono AR.out.bl.size))))
                  have SP : Hid (∀ W, Hid (BL wr W) → ((W.cell? ⟨w.heap.size, 0, none⟩ = some (.int .i64 l.fr) ∧ W.cell? ⟨w.heap.size, 1, none⟩ = some (.int .i64 l.pn) ∧ W.cell? ⟨w.heap.size, 2, none⟩ = some (.int .i64 l.bl) ∧ W.cell? ⟨w.heap.size, 3, none⟩ = some (.int .i64 l.tp)) ∧ W.cell? ⟨g, o + i, none⟩ = some (.slice xa m xc))) := Lib.hid (fun W h => ⟨BL.law h AR, below_cell h.out.b (below_cell AR.out.bl HCE.out)⟩)
                  clear hpm hcell hballs htk hib hib2 IS1 hm hp
                  go_upto_region 23 with fail
                  go_cut [92] (fun s92 wx => s92 = .bool (!ib) ∧ Hid (BL wr wx))
                  case first =>
                    clear AR HTK HBL HCE hBW hall HS HN HC H40 OK SPALL AHDV
                    go_region_held3 (fun W => (W.cell? ⟨w.heap.size, 0, none⟩ = some (.int .i64 l.fr) ∧ W.cell? ⟨w.heap.size, 1, none⟩ = some (.int .i64 l.pn) ∧ W.cell? ⟨w.heap.size, 2, none⟩ = some (.int .i64 l.bl) ∧ W.cell? ⟨w.heap.size, 3, none⟩ = some (.int .i64 l.tp)) ∧ W.cell? ⟨g, o + i, none⟩ = some (.slice xa m xc))
                      (with_reducible first | exact SP.out _ (BL.dr (BL.start wr)) | exact SP.out _ PA)
                      (first
                        | (go_at_call 32; (with_reducible refine (IS.out _ (BL.dr (BL.start wr))).mono ?_); rintro e wA ⟨rfl, hb⟩; have PA := BL.lo (BL.dr (BL.start wr)) hb; clear hb))
                    all_goals
                      go_wp2_with fail
                      go_meet
                      with_reducible exact ⟨rfl, PA⟩
                  case rest =>
                    obtain ⟨rfl, PA⟩ := hcut
                    have B9 := BL.lo hBW PA.out.b
                    clear SP IS hBW PA
                    cases ib
                    all_goals
                      go_wp2_with fail
                      go_roundg (n - (i + 1))
                      case measure => omega
                      case rel => exact ⟨i + 1, _, by omega, rfl, by simp, rfl, by first | exact .inl ⟨rfl, HTK⟩ | exact .inr ⟨rfl, HTK⟩, B9⟩
                · have hie : i = n := by omega
                  subst hie
                  have hz1 : ¬ (i : Int) < (i : Int) := by omega
                  have hall2 := hall.out
                  rw [← HN.out, List.take_length] at hall2
                  have hR := HRR.out
                  have hgoodall := trivial

                  have hz1 : ¬ (i : Int) < (i : Int) := by omega
                  obtain ⟨i3, hi3, hy0, hy1, hy2⟩ := info_parts info3
                  have HR := Lib.hid hR
                  have HRL : Hid (R.length = i) := Lib.hid (by rw [← hR, spR, List.length_map]; exact HN.out)
                  have HI6 := Lib.hid hsn
                  clear hR hall hall2 hgoodall H40 HC hi ISL LAW
                  have A7 := WL.lo A6 hBW.out.b
                  have M7 := Lib.hid (M6.out.lo hBW.out.b)
                  have U7 := Lib.hid (U6.out.lo hBW.out.b)
                  clear hBW M6 U6 A6
                  generalize wr = w7 at A7 M7 U7 ⊢
                  go_wp2_with fail
                  go_loopg [13, 14, 15] i (fun g s13 s14 s15 wx => ∃ (j n1 n2 : Nat) (oa ob : Option Addr) (oc od : Nat), j ≤ i ∧ g = i - j ∧ s15 = .int .i64 (j : Int) ∧ s13 = .slice oa n1 oc ∧ s14 = .slice ob n2 od ∧ Hid ((selL mayI R j).length = n1 ∧ (selL sureI R j).length = n2) ∧ Hid (AhI w7 wx (.slice oa n1 oc) (.slice ob n2 od) n1 n2 (selL mayI R j) (selL sureI R j)))
                  case atStart => exact ⟨0, 0, 0, none, none, 0, 0, by omega, rfl, rfl, rfl, rfl, Lib.hid ⟨rfl, rfl⟩, Lib.hid ⟨Below.refl _ _, World.ownsRow_nil _ _ _ _, World.ownsRow_nil _ _ _ _, fun k h => by cases h⟩⟩
                  case round =>
                    obtain ⟨j, n1, n2, oa, ob, oc, od, hj, rfl, rfl, rfl, rfl, hL, hI⟩ := hrel
                    have hn1 : n1 ≤ 10 := by have h1 := hL.out.1; have h2 := selL_len mayI R j; have h3 := HI6.out; omega
                    have hn2 : n2 ≤ 10 := by have h1 := hL.out.2; have h2 := selL_len sureI R j; have h3 := HI6.out; omega
                    have AR := WL.lo A7 hI.out.bl
                    by_cases hji : j < i
                    · have hq0 : (0 : Int) ≤ (j : Int) := by omega
                      have hq1 : (j : Int) < (i : Int) := by omega
                      have hw1 : IntKind.i64.wrap ((j : Int) + 1) = (j : Int) + 1 := IntWalk.i64_in _ (by have := HI6.out; omega)
                      obtain ⟨p, hp⟩ : ∃ p, SS[j]? = some p := ⟨SS[j]'(by rw [HN.out]; exact hji), List.getElem?_eq_getElem _⟩
                      obtain ⟨g, o, hga, hcell, hballs⟩ := HS.out j p hp
                      have SP1 := fun (W : World) (hs : BallsAt W p.1 p.2.2) => SPALL.out p (List.mem_of_getElem? hp) W hs
                      have hrp : R[j]? = some (spLo l p.2.2, spHi l p.2.2) := by rw [← HR.out, spR, List.getElem?_map, hp]; rfl
                      obtain ⟨xa, xc, zs⟩ := p
                      simp only at hcell hballs SP1 hrp
                      obtain ⟨m, hm⟩ : ∃ m, zs.length = m := ⟨_, rfl⟩
                      rw [hm] at hcell SP1
                      obtain ⟨lo, hlo⟩ : ∃ lo, spLo l zs = lo := ⟨_, rfl⟩
                      obtain ⟨hi, hhi⟩ : ∃ hi, spHi l zs = hi := ⟨_, rfl⟩
                      rw [hlo, hhi] at SP1 hrp
                      have HRPJ := Lib.hid hrp
                      have HBL := Lib.hid hballs
                      have HCE := Lib.hid hcell
                      subst hga
                      clear hp hcell hballs hrp hm hlo hhi
                      have SP0 : Hid (∀ W, Hid (BL wr W) → ((W.cell? ⟨w.heap.size, 0, none⟩ = some (.int .i64 l.fr) ∧ W.cell? ⟨w.heap.size, 1, none⟩ = some (.int .i64 l.pn) ∧ W.cell? ⟨w.heap.size, 2, none⟩ = some (.int .i64 l.bl) ∧ W.cell? ⟨w.heap.size, 3, none⟩ = some (.int .i64 l.tp)) ∧ W.cell? ⟨g, o + j, none⟩ = some (.slice xa m xc))) := Lib.hid (fun W h => ⟨BL.law h AR, below_cell h.out.b (below_cell AR.out.bl HCE.out)⟩)
                      have SPN := Lib.hid (fun W (h : Hid (BL wr W)) => SP1 W (HBL.out.lo (AR.out.bl.trans (h.out.b.mono AR.out.bl.size))))
                      clear SP1
                      go_upto_region 31 with fail
                      go_cut [16] (fun st wx => ∃ gt, st = .pointer (some ⟨gt, 0, none⟩) ∧ Hid (BL wr wx) ∧ Hid (RG3 wx gt lo hi) ∧ Hid (wr.heap.size ≤ gt))
                      case first =>
                        have hd0 : wr.heap.size ≤ wr.heap.size := Nat.le_refl _
                        clear AR HBL HCE HRPJ hI hL A7 M7 U7 HS HN HR HRL HI6 SPALL WAK HT OK hi3 hy0 hy1 hy2 AHDV hn1 hn2
                        go_region_held3 (fun W => (W.cell? ⟨w.heap.size, 0, none⟩ = some (.int .i64 l.fr) ∧ W.cell? ⟨w.heap.size, 1, none⟩ = some (.int .i64 l.pn) ∧ W.cell? ⟨w.heap.size, 2, none⟩ = some (.int .i64 l.bl) ∧ W.cell? ⟨w.heap.size, 3, none⟩ = some (.int .i64 l.tp)) ∧ W.cell? ⟨g, o + j, none⟩ = some (.slice xa m xc))
                          (with_reducible first | exact SP0.out _ (BL.dr (BL.start wr)) | exact SP0.out _ (BL.dr (BL.al (BL.start wr) _)) | exact SP0.out _ PA | exact SP0.out _ (BL.al PA _) | exact SP0.out _ (BL.put2 PA hd0 _ _))
                          (first
                            | (go_at_call 27; (with_reducible refine (SPN.out _ (BL.dr (BL.start wr))).mono ?_); rintro e wA ⟨rfl, hb⟩; have PA := BL.lo (BL.dr (BL.start wr)) hb; have hA := PA.out.b.size; clear hb)
                            | (go_at_call 27; (with_reducible refine (SPN.out _ (BL.dr (BL.al (BL.start wr) _))).mono ?_); rintro e wA ⟨rfl, hb⟩; have PA := BL.lo (BL.dr (BL.al (BL.start wr) _)) hb; have ZA := RG3.lo' (RG3.dr (RG3.new wr 0 0)) hb; have hA := PA.out.b.size; have hf := RG3.fz ZA; obtain ⟨z0, z1⟩ := hf; have hf := RG3.at ZA; obtain ⟨d0, d1⟩ := hf; clear hb))
                        all_goals
                          go_wp2_with fail
                          go_meet
                          first
                            | (with_reducible exact ⟨_, rfl, BL.al PA _, RG3.new wA _ _, Lib.hid hA⟩)
                            | (with_reducible exact ⟨_, rfl, BL.put2 PA hd0 _ _, RG3.put ZA _ _, Lib.hid hd0⟩)
                      case rest =>
                        obtain ⟨g16, rfl, B8, T8, G8⟩ := hcut
                        have I8 := AhI.lo hI B8.out.b
                        clear SP0 SPN hI B8 AR HBL HCE
                        generalize wc = w8 at T8 I8 ⊢
                        have A8 := WL.lo A7 I8.out.bl
                        go_wp2_with fail
                        go_loopg [17, 18, 19] i (fun g s17 s18 s19 wx => ∃ (k : Nat) (b1 b2 : Bool), k ≤ i ∧ g = i - k ∧ s19 = .int .i64 (k : Int) ∧ s17 = .bool b1 ∧ s18 = .bool b2 ∧ Hid (b1 = isK R j hi k) ∧ Hid (b2 = frK R j lo k) ∧ Hid (BL w8 wx))
                        case atStart => exact ⟨0, true, true, by omega, rfl, rfl, rfl, rfl, Lib.hid rfl, Lib.hid rfl, BL.start w8⟩
                        case round =>
                          obtain ⟨k, b1, b2, hk, rfl, rfl, rfl, rfl, hb1, hb2, hB⟩ := hrel
                          have AR := WL.lo A8 hB.out.b
                          by_cases hki : k < i
                          · have hv0 : (0 : Int) ≤ (k : Int) := by omega
                            have hv1 : (k : Int) < (i : Int) := by omega
                            have hw2 : IntKind.i64.wrap ((k : Int) + 1) = (k : Int) + 1 := IntWalk.i64_in _ (by have := HI6.out; omega)
                            obtain ⟨p, hp⟩ : ∃ p, SS[k]? = some p := ⟨SS[k]'(by rw [HN.out]; exact hki), List.getElem?_eq_getElem _⟩
                            obtain ⟨g2, o2, hga, hcell, hballs⟩ := HS.out k p hp
                            have SP1 := fun (W : World) (hs : BallsAt W p.1 p.2.2) => SPALL.out p (List.mem_of_getElem? hp) W hs
                            have hrp : R[k]? = some (spLo l p.2.2, spHi l p.2.2) := by rw [← HR.out, spR, List.getElem?_map, hp]; rfl
                            obtain ⟨xa, xc, ys⟩ := p
                            simp only at hcell hballs SP1 hrp
                            obtain ⟨m, hm⟩ : ∃ m, ys.length = m := ⟨_, rfl⟩
                            rw [hm] at hcell SP1
                            obtain ⟨lo2, hlo⟩ : ∃ lo, spLo l ys = lo := ⟨_, rfl⟩
                            obtain ⟨hi2, hhi⟩ : ∃ hi, spHi l ys = hi := ⟨_, rfl⟩
                            rw [hlo, hhi] at SP1 hrp
                            have HRPK := Lib.hid hrp
                            have HBL := Lib.hid hballs
                            have HCE := Lib.hid hcell
                            cases hga
                            clear hp hcell hballs hrp hm hlo hhi
                            have SP0 : Hid (∀ W, Hid (BL wr W) → ((W.cell? ⟨w.heap.size, 0, none⟩ = some (.int .i64 l.fr) ∧ W.cell? ⟨w.heap.size, 1, none⟩ = some (.int .i64 l.pn) ∧ W.cell? ⟨w.heap.size, 2, none⟩ = some (.int .i64 l.bl) ∧ W.cell? ⟨w.heap.size, 3, none⟩ = some (.int .i64 l.tp)) ∧ W.cell? ⟨g, o + k, none⟩ = some (.slice xa m xc))) := Lib.hid (fun W h => ⟨BL.law h AR, below_cell h.out.b (below_cell AR.out.bl HCE.out)⟩)
                            have SPN := Lib.hid (fun W (h : Hid (BL wr W)) => SP1 W (HBL.out.lo (AR.out.bl.trans (h.out.b.mono AR.out.bl.size))))
                            clear SP1
                            go_upto_region 36 with fail
                            go_cut [20] (fun st wx => ∃ gt, st = .pointer (some ⟨gt, 0, none⟩) ∧ Hid (BL wr wx) ∧ Hid (RG3 wx gt lo2 hi2) ∧ Hid (wr.heap.size ≤ gt))
                            case first =>
                              have hd0 : wr.heap.size ≤ wr.heap.size := Nat.le_refl _
                              clear AR HBL HCE HRPJ HRPK I8 hL A7 M7 U7 HS HN HR HRL HI6 SPALL WAK HT OK hi3 hy0 hy1 hy2 AHDV hn1 hn2 T8 G8 A8 hb1 hb2 hB
                              go_region_held3 (fun W => (W.cell? ⟨w.heap.size, 0, none⟩ = some (.int .i64 l.fr) ∧ W.cell? ⟨w.heap.size, 1, none⟩ = some (.int .i64 l.pn) ∧ W.cell? ⟨w.heap.size, 2, none⟩ = some (.int .i64 l.bl) ∧ W.cell? ⟨w.heap.size, 3, none⟩ = some (.int .i64 l.tp)) ∧ W.cell? ⟨g, o + k, none⟩ = some (.slice xa m xc))
                                (with_reducible first | exact SP0.out _ (BL.dr (BL.start wr)) | exact SP0.out _ (BL.dr (BL.al (BL.start wr) _)) | exact SP0.out _ PA | exact SP0.out _ (BL.al PA _) | exact SP0.out _ (BL.put2 PA hd0 _ _))
                                (first
                                  | (go_at_call 27; (with_reducible refine (SPN.out _ (BL.dr (BL.start wr))).mono ?_); rintro e wA ⟨rfl, hb⟩; have PA := BL.lo (BL.dr (BL.start wr)) hb; have hA := PA.out.b.size; clear hb)
                                  | (go_at_call 27; (with_reducible refine (SPN.out _ (BL.dr (BL.al (BL.start wr) _))).mono ?_); rintro e wA ⟨rfl, hb⟩; have PA := BL.lo (BL.dr (BL.al (BL.start wr) _)) hb; have ZA := RG3.lo' (RG3.dr (RG3.new wr 0 0)) hb; have hA := PA.out.b.size; have hf := RG3.fz ZA; obtain ⟨z0, z1⟩ := hf; have hf := RG3.at ZA; obtain ⟨d0, d1⟩ := hf; clear hb))
                              all_goals
                                go_wp2_with fail
                                go_meet
                                first
                                  | (with_reducible exact ⟨_, rfl, BL.al PA _, RG3.new wA _ _, Lib.hid hA⟩)
                                  | (with_reducible exact ⟨_, rfl, BL.put2 PA hd0 _ _, RG3.put ZA _ _, Lib.hid hd0⟩)
                            case rest =>
                              obtain ⟨g20, rfl, B9, T9, G9⟩ := hcut
                              have TT8 := RG3.lo' (RG3.lo' T8 hB.out.b) B9.out.b
                              have BB9 := BL.lo hB B9.out.b
                              clear SP0 SPN hB B9 AR HBL HCE
                              generalize wc = w9 at T9 TT8 BB9 ⊢
                              obtain ⟨c0, c1⟩ := RG3.at TT8
                              obtain ⟨e0, e1⟩ := RG3.at T9
                              obtain ⟨ek, hek⟩ : ∃ ek : Bool, decide (k = j) = ek := ⟨_, rfl⟩
                              have hek2 : ((k : Int) == (j : Int)) = ek := by
                                rw [← hek]
                                by_cases h : k = j
                                · simp [h]
                                · have : ¬ (k : Int) = (j : Int) := by omega
                                  simp [h, this]
                              have HEK := Lib.hid hek
                              clear hek
                              go_upto_region 37 with fail
                              go_cut [17] (fun s17 wx => s17 = .bool (b1 && (ek || decide (lo2 ≤ hi))) ∧ w9 = wx)
                              case first =>
                                cases b1 <;> cases ek
                                all_goals
                                  go_wp2_with fail
                                  go_meet
                                  exact ⟨by simp, rfl⟩
                              case rest =>
                                obtain ⟨rfl, rfl⟩ := hcut
                                cases b2 <;> cases ek
                                all_goals
                                  go_wp2_with fail
                                  go_roundg (i - (k + 1))
                                  case measure => omega
                                  case rel => exact ⟨k + 1, _, _, by omega, rfl, by simp, rfl, rfl, Lib.hid (by rw [isK_step HRPK.out, ← hb1.out, HEK.out]), Lib.hid (by rw [frK_step HRPK.out, ← hb2.out, HEK.out]; simp), BB9⟩
                          · have hke : k = i := by omega
                            have hv1 : ¬ (k : Int) < (i : Int) := by omega
                            have hm1 : b1 = mayI R j (lo, hi) := by
                              rw [hb1.out, hke, ← isK_may (p := (lo, hi)) (by rw [HRL.out]; exact hji), HRL.out]
                            have hm2 : b2 = sureI R j (lo, hi) := by
                              rw [hb2.out, hke, ← frK_sure (p := (lo, hi)) (by rw [HRL.out]; exact hji), HRL.out]
                            have I9 := AhI.lo I8 hB.out.b
                            have HM1 := Lib.hid hm1
                            have HM2 := Lib.hid hm2
                            clear hke hm1 hm2 hb1 hb2 hB I8 A8 T8 AR
                            generalize wr = w9 at I9 ⊢
                            cases b1
                            · have y1 := Lib.hid (selL_no (f := mayI) HRPJ.out HM1.out.symm)
                              cases b2
                              · have y2 := Lib.hid (selL_no (f := sureI) HRPJ.out HM2.out.symm)
                                go_wp2_with fail
                                go_roundg (i - (j + 1))
                                case measure => omega
                                case rel => exact ⟨j + 1, n1, n2, oa, ob, oc, od, by omega, rfl, by simp, rfl, rfl, Lib.hid (by rw [y1.out, y2.out]; exact hL.out), by rw [y1.out, y2.out]; exact I9⟩
                              · have y2 := Lib.hid (selL_yes (f := sureI) HRPJ.out HM2.out.symm)
                                go_wp2_with (at_builtin; go_must (refine wpList_append_own_at _ rfl _ _ 24 rfl w7.heap.size 3 i3 (.int .i64 0) 1 8 Tryd.underlying24 hi3 hy0 hy1 hy2 rfl (by decide) _ n2 _ rfl (own_al I9.out.o2 _) ⟨w9.heap.size, 0, none⟩ 1 1 [.int .i64 (j : Int)] rfl rfl (World.news_of_block (heap_alloc_new w9 _)) (by simp [Value.oneCell']) (by unfold maxLen; omega) (by omega) (Nat.le_trans I9.out.bl.size (below_al w9 _).size) ?_); intro v' wx hown' hgrow hnil hloc; obtain ⟨za, zc, rfl⟩ := own_len hown'; have IA := AhI.app2 (L' := selL sureI R j ++ [(j : Int)]) I9 hgrow (by rw [List.map_append]; exact hown') hloc; clear hown' hgrow hnil hloc)
                                go_roundg (i - (j + 1))
                                case measure => omega
                                case rel => exact ⟨j + 1, n1, n2 + 1, oa, za, oc, zc, by omega, rfl, by simp, rfl, rfl, Lib.hid ⟨by rw [y1.out]; exact hL.out.1, by rw [y2.out, List.length_append, hL.out.2]; rfl⟩, by rw [y1.out, y2.out]; exact IA⟩
                            · have y1 := Lib.hid (selL_yes (f := mayI) HRPJ.out HM1.out.symm)
                              cases b2
                              · have y2 := Lib.hid (selL_no (f := sureI) HRPJ.out HM2.out.symm)
                                go_wp2_with (at_builtin; go_must (refine wpList_append_own_at _ rfl _ _ 24 rfl w7.heap.size 3 i3 (.int .i64 0) 1 8 Tryd.underlying24 hi3 hy0 hy1 hy2 rfl (by decide) _ n1 _ rfl (own_al I9.out.o1 _) ⟨w9.heap.size, 0, none⟩ 1 1 [.int .i64 (j : Int)] rfl rfl (World.news_of_block (heap_alloc_new w9 _)) (by simp [Value.oneCell']) (by unfold maxLen; omega) (by omega) (Nat.le_trans I9.out.bl.size (below_al w9 _).size) ?_); intro v' wx hown' hgrow hnil hloc; obtain ⟨za, zc, rfl⟩ := own_len hown'; have IA := AhI.app1 (L' := selL mayI R j ++ [(j : Int)]) I9 hgrow (by rw [List.map_append]; exact hown') hloc; clear hown' hgrow hnil hloc)
                                go_roundg (i - (j + 1))
                                case measure => omega
                                case rel => exact ⟨j + 1, n1 + 1, n2, za, ob, zc, od, by omega, rfl, by simp, rfl, rfl, Lib.hid ⟨by rw [y1.out, List.length_append, hL.out.1]; rfl, by rw [y2.out]; exact hL.out.2⟩, by rw [y1.out, y2.out]; exact IA⟩
                              · have y2 := Lib.hid (selL_yes (f := sureI) HRPJ.out HM2.out.symm)
                                go_upto_region 41 with (at_builtin; go_must (refine wpList_append_own_at _ rfl _ _ 24 rfl w7.heap.size 3 i3 (.int .i64 0) 1 8 Tryd.underlying24 hi3 hy0 hy1 hy2 rfl (by decide) _ n1 _ rfl (own_al I9.out.o1 _) ⟨w9.heap.size, 0, none⟩ 1 1 [.int .i64 (j : Int)] rfl rfl (World.news_of_block (heap_alloc_new w9 _)) (by simp [Value.oneCell']) (by unfold maxLen; omega) (by omega) (Nat.le_trans I9.out.bl.size (below_al w9 _).size) ?_); intro v' wx hown' hgrow hnil hloc; obtain ⟨za, zc, rfl⟩ := own_len hown'; have IA := AhI.app1 (L' := selL mayI R j ++ [(j : Int)]) I9 hgrow (by rw [List.map_append]; exact hown') hloc; clear hown' hgrow hnil hloc)
                                go_wp2_with (at_builtin; go_must (refine wpList_append_own_at _ rfl _ _ 24 rfl w7.heap.size 3 i3 (.int .i64 0) 1 8 Tryd.underlying24 hi3 hy0 hy1 hy2 rfl (by decide) _ n2 _ rfl (own_al IA.out.o2 _) ⟨wx.heap.size, 0, none⟩ 1 1 [.int .i64 (j : Int)] rfl rfl (World.news_of_block (heap_alloc_new wx _)) (by simp [Value.oneCell']) (by unfold maxLen; omega) (by omega) (Nat.le_trans IA.out.bl.size (below_al wx _).size) ?_); intro v' wy hown' hgrow hnil hloc; obtain ⟨ya, yc, rfl⟩ := own_len hown'; have IB := AhI.app2 (L' := selL sureI R j ++ [(j : Int)]) IA hgrow (by rw [List.map_append]; exact hown') hloc; clear hown' hgrow hnil hloc)
                                go_roundg (i - (j + 1))
                                case measure => omega
                                case rel => exact ⟨j + 1, n1 + 1, n2 + 1, za, ya, zc, yc, by omega, rfl, by simp, rfl, rfl, Lib.hid ⟨by rw [y1.out, List.length_append, hL.out.1]; rfl, by rw [y2.out, List.length_append, hL.out.2]; rfl⟩, by rw [y1.out, y2.out]; exact IB⟩
                    · have hje : j = i := by omega
                      have hq1 : ¬ (j : Int) < (i : Int) := by omega
                      have hl := hL.out
                      have o1 := hI.out.o1
                      have o2 := hI.out.o2
                      rw [hje, HLL1.out, HLL2.out] at hl
                      rw [hje, HLL1.out] at o1
                      rw [hje, HLL2.out] at o2
                      obtain rfl : n1 = N1 := hl.1.symm.trans HNN1.out
                      obtain rfl : n2 = N2 := hl.2.symm.trans HNN2.out
                      have S1 := Lib.hid (own_ballsAt o1)
                      have S2 := Lib.hid (own_ballsAt o2)
                      have MM7 := Lib.hid (M7.out.lo hI.out.bl)
                      have UU7 := Lib.hid (U7.out.lo hI.out.bl)
                      have n1t : n1 ≤ 1000 := by omega
                      have n2t : n2 ≤ 1000 := by omega
                      clear hje o1 o2 hl hL hI M7 U7
                      go_wp2_with fail
                      refine (ints_same L1 n1 _ _ _ _ wr HNN1.out n1t MM7.out S1.out).mono ?_
                      rintro e wX ⟨rfl, hg⟩
                      have hb := grown_belowN hg.out
                      have AX := WL.lo AR hb
                      have S2X := Lib.hid (S2.out.lo hb)
                      have UX := Lib.hid (UU7.out.lo hb)
                      clear hg hb
                      go_wp2_with fail
                      refine (ints_same L2 n2 _ _ _ _ wX HNN2.out n2t UX.out S2X.out).mono ?_
                      rintro e wY ⟨rfl, hg⟩
                      have AY := WL.lo AX (grown_belowN hg.out)
                      clear hg
                      go_wp2_with fail
                      refine (WAK.out _ (HT.out.below AY.out.bl HT.out.pos)).mono ?_
                      rintro e wZ ⟨rfl, hb⟩
                      have BF := Lib.hid (AY.out.bl.trans (hb.mono AY.out.bl.size))
                      clear hb
                      go_wp2_with fail
                      go_ret
                      exact ⟨rfl, BF.out⟩
              · skip
                exfalso
                have h1 := hall.out
                rw [List.all_eq_false] at h1
                obtain ⟨q, hq, hq2⟩ := h1
                exact hq2 (List.all_eq_true.1 hgoodall0.out q (List.mem_of_mem_take hq))
        · clear hz3x
          have AHD := Lib.hid (fun W (hs : SheetsAt W ca CS) => ahead_err1 l CS ca cc W M hs (by omega) hMC hM0)
          rw [hCL] at AHD
          have h3 : (okB l = false ∧ M = 1) ∨ (okB l = true ∧ lb = true ∧ M = 3) ∨ (okB l = true ∧ lb = false ∧ ((i : Int) == 0) = true ∧ M = 1) := by
            rw [matchE_long, HN.out, ← hlb] at hM
            cases hok : okB l
            · rw [hok] at hM; simp at hM; exact .inl ⟨rfl, hM.symm⟩
            · rw [hok] at hM
              cases hl2 : lb
              · rw [hl2] at hM
                simp at hM
                by_cases h0 : i = 0
                · rw [if_pos h0] at hM; exact .inr (.inr ⟨rfl, rfl, by simp [h0], hM.symm⟩)
                · rw [if_neg h0] at hM; exact absurd hM.symm hM0
              · rw [hl2] at hM; simp at hM; exact .inr (.inl ⟨rfl, rfl, hM.symm⟩)
          have HSC := Lib.hid hSC
          clear hM hMC hCM hCL hlb h45 hSC hI hC hCS HS HH
          have HZ3 := hz3
          rcases h3 with ⟨hok, rfl⟩ | ⟨hok, rfl, rfl⟩ | ⟨hok, rfl, hz, rfl⟩
          · skip
            rw [hok] at ISL
            clear hok
            obtain ⟨k0, k1, k2, k3⟩ := WL.at A3
            go_wp2_with fail
            refine (LAW.out wr).mono ?_
            rintro e w4 ⟨rfl, hb⟩
            have A4 := WL.lo A3 hb
            have S4 := Lib.hid (HSC.out.lo hb)
            clear hb k0 k1 k2 k3 HSC
            go_wp2_with fail
            refine (AHD.out w4 S4.out).mono ?_
            rintro e w5 ⟨rfl, hb⟩
            have A5 := WL.lo A4 hb
            clear hb S4 AHD
            obtain ⟨k0, k1, k2, k3⟩ := WL.at A5
            go_wp2_with fail
            refine (ISL.out w5).mono ?_
            rintro e w6 ⟨rfl, hb⟩
            have A6 := WL.lo A5 hb
            clear hb k0 k1 k2 k3 A5 A4 A3
            go_wp2_with fail
            go_loopg [11, 12] 0 (fun g s11 s12 wx => g = 0 ∧ s11 = .int .i64 1 ∧ s12 = .int .i64 0 ∧ w6 = wx)
            case atStart => exact ⟨rfl, rfl, rfl, rfl⟩
            case round =>
              obtain ⟨rfl, rfl, rfl, rfl⟩ := hrel
              by_cases hp : (0 : Int) < (i : Int)
              all_goals
                go_wp2_with fail
                refine (WAK.out _ (HT.out.below A6.out.bl HT.out.pos)).mono ?_
                rintro e wZ ⟨rfl, hb⟩
                have BF := Lib.hid (A6.out.bl.trans (hb.mono A6.out.bl.size))
                clear hb
                go_wp2_with fail
                go_ret
                exact ⟨rfl, BF.out⟩
          · skip
            rw [hok] at ISL
            clear hok
            obtain ⟨k0, k1, k2, k3⟩ := WL.at A3
            go_wp2_with fail
            refine (LAW.out wr).mono ?_
            rintro e w4 ⟨rfl, hb⟩
            have A4 := WL.lo A3 hb
            have S4 := Lib.hid (HSC.out.lo hb)
            clear hb k0 k1 k2 k3 HSC
            go_wp2_with fail
            refine (AHD.out w4 S4.out).mono ?_
            rintro e w5 ⟨rfl, hb⟩
            have A5 := WL.lo A4 hb
            clear hb S4 AHD
            obtain ⟨k0, k1, k2, k3⟩ := WL.at A5
            go_wp2_with fail
            refine (ISL.out w5).mono ?_
            rintro e w6 ⟨rfl, hb⟩
            have A6 := WL.lo A5 hb
            clear hb k0 k1 k2 k3 A5 A4 A3
            go_wp2_with fail
            go_loopg [11, 12] 0 (fun g s11 s12 wx => g = 0 ∧ s11 = .int .i64 3 ∧ s12 = .int .i64 0 ∧ w6 = wx)
            case atStart => exact ⟨rfl, rfl, rfl, rfl⟩
            case round =>
              obtain ⟨rfl, rfl, rfl, rfl⟩ := hrel
              by_cases hp : (0 : Int) < (i : Int)
              all_goals
                go_wp2_with fail
                refine (WAK.out _ (HT.out.below A6.out.bl HT.out.pos)).mono ?_
                rintro e wZ ⟨rfl, hb⟩
                have BF := Lib.hid (A6.out.bl.trans (hb.mono A6.out.bl.size))
                clear hb
                go_wp2_with fail
                go_ret
                exact ⟨rfl, BF.out⟩
          · skip
            rw [hok] at ISL
            clear hok
            obtain ⟨k0, k1, k2, k3⟩ := WL.at A3
            go_wp2_with fail
            refine (LAW.out wr).mono ?_
            rintro e w4 ⟨rfl, hb⟩
            have A4 := WL.lo A3 hb
            have S4 := Lib.hid (HSC.out.lo hb)
            clear hb k0 k1 k2 k3 HSC
            go_wp2_with fail
            refine (AHD.out w4 S4.out).mono ?_
            rintro e w5 ⟨rfl, hb⟩
            have A5 := WL.lo A4 hb
            clear hb S4 AHD
            obtain ⟨k0, k1, k2, k3⟩ := WL.at A5
            go_wp2_with fail
            refine (ISL.out w5).mono ?_
            rintro e w6 ⟨rfl, hb⟩
            have A6 := WL.lo A5 hb
            clear hb k0 k1 k2 k3 A5 A4 A3
            go_wp2_with fail
            go_loopg [11, 12] 0 (fun g s11 s12 wx => g = 0 ∧ s11 = .int .i64 1 ∧ s12 = .int .i64 0 ∧ w6 = wx)
            case atStart => exact ⟨rfl, rfl, rfl, rfl⟩
            case round =>
              obtain ⟨rfl, rfl, rfl, rfl⟩ := hrel
              by_cases hp : (0 : Int) < (i : Int)
              all_goals
                go_wp2_with fail
                refine (WAK.out _ (HT.out.below A6.out.bl HT.out.pos)).mono ?_
                rintro e wZ ⟨rfl, hb⟩
                have BF := Lib.hid (A6.out.bl.trans (hb.mono A6.out.bl.size))
                clear hb
                go_wp2_with fail
                go_ret
                exact ⟨rfl, BF.out⟩
  · have hgt : (8 : Int) < (n : Int) := by omega
    unfold Lw.val
    go_enter Tryd.func7, Tryd.ntmps7
    go_wp2_with fail
    have A1 := WL.start w l
    generalize World.alloc w _ = w1 at A1 ⊢
    go_wp2_with fail
    refine (WAK.out _ (HT.out.below A1.out.bl HT.out.pos)).mono ?_
    rintro e wZ ⟨rfl, hb⟩
    have BF := Lib.hid (A1.out.bl.trans (hb.mono A1.out.bl.size))
    clear hb
    go_wp2_with fail
    go_ret
    exact ⟨rfl, BF.out⟩

end Go.Proofs.YtmjbidnlknmcgaaDoor

namespace Go.Proofs.YtmjbidnlknmcgaaDoor
open Go.ChangeShapes Go.WideShapes Go.ChangeAt Go.WideMaps Go.WideElems Go.RowKit Go.Joins

theorem cells24 : Tryd.prog.cellsOf 24 = 1 := by kernel_rfl

set_option maxRecDepth 100000 in
theorem sheets_open {H : Type} {enc : TypeId × Value → H} {W : World} {base : Nat} {v : Value} {d : DataW H} {p : List MemPlace} (hv : Value.okWide Tryd.prog W .any base 41 v) (h : DataW.Trod enc Tryd.prog W 0 (fun _ => true) true 41 v d p) :
    ∃ a c SS, v = .slice a SS.length c ∧ SheetsAt W a SS ∧ HdOK SS := by
  obtain ⟨a0, len, cap, rfl⟩ := okWide_slice Tryd.underlying41 hv
  obtain ⟨fuel, hf⟩ := h
  rcases Go.Deep.open_int_rows Tryd.underlying41 Tryd.underlying24 Tryd.underlying3 cells24 cells3 hf with ⟨hcs, hx⟩ | ⟨a, len', cap', A, L, C, Z, hcs, _, hl, hm, hx, hr⟩
  · simp [Value.cells] at hcs
    obtain ⟨rfl, rfl, rfl⟩ := hcs
    exact ⟨none, 0, [], rfl, fun i v h => by simp at h, fun q hq => by cases hq⟩
  · simp [Value.cells] at hcs
    obtain ⟨rfl, rfl, rfl⟩ := hcs
    refine ⟨some a, cap, (List.range len).map fun r => (A r, C r, (Z r).take (L r)), by simp, ?_, ?_⟩
    · intro i q hq
      rw [List.getElem?_map] at hq
      by_cases hi : i < len
      · rw [List.getElem?_range hi] at hq
        simp only [Option.map_some, Option.some.injEq] at hq
        subst hq
        obtain ⟨b, off, spot⟩ := a
        obtain ⟨h1, h2, h3, h4, _, h5, h6⟩ := hr i (by omega)
        have hspot : spot = none := by
          have h0 := (hr 0 (by omega)).1
          simpa [Addr.add] using World.cell?_spot h0
        subst hspot
        rw [add_plain] at h1
        have hlen : ((Z i).take (L i)).length = L i := by rw [List.length_take, h4]; omega
        refine ⟨b, off, rfl, ?_, ?_⟩
        · simp only [hlen]; exact h1
        · intro j x hx
          simp only at hx ⊢
          rw [List.getElem?_take] at hx
          split at hx
          · rename_i hj
            cases hA : A i with
            | none => have := h5 hA; omega
            | some a' =>
              obtain ⟨b2, off2, spot2⟩ := a'
              have h7 := (h6 _ hA).2
              have hs2 : spot2 = none := by
                have h0 := h7 0 (by omega)
                simpa [Addr.add] using World.cell?_spot h0
              subst hs2
              refine ⟨b2, off2, rfl, ?_⟩
              have h8 := h7 j (by omega)
              rw [add_plain] at h8
              rw [h8]
              simp [List.getD, hx]
          · cases hx
      · rw [List.getElem?_eq_none (by simp; omega)] at hq
        cases hq
    · intro q hq
      obtain ⟨r, hr1, rfl⟩ := List.mem_map.1 hq
      have hr2 : r < len := List.mem_range.1 hr1
      obtain ⟨h1, h2, h3, h4, _, h5, h6⟩ := hr r (by omega)
      refine ⟨fun e => ?_, ?_⟩
      · have h8 := h5 e
        refine ⟨h8, List.eq_nil_of_length_eq_zero ?_⟩
        simp only [List.length_take, h4]
        omega
      · simp only [List.length_take, h4]
        omega

set_option maxRecDepth 100000 in
theorem frameAheads_lifted (os : Os) (started : os.Started) (H : Type) (enc : TypeId × Value → H) :
    ReturnsInHanded {} Tryd.checked os 7 .any (fun w args => (Rows.frameAheadsSpec.pre enc Tryd.prog Tryd.f7 [] false w args ∧ laidMetH Tryd.prog laidL w) ∧ sizedMet enc Tryd.prog Tryd.f7 (OpenSpec.ofChange Rows.frameAheadsSpec) false w args)
      (Rows.frameAheadsSpec.post enc Tryd.prog Tryd.f7 false true false false) := by
  refine returnsInHanded_of_change_and (C := Tryd.checked) (X := fun w _ => laidMetH Tryd.prog laidL w) (fun _ _ _ hh h => h.of_heap hh) own started (by kernel_rfl) Tryd.func7
    (ChangeSpec.witness_shaped (enc := enc) (C := Tryd.checked) (os := os) (X := fun w _ => laidMetH Tryd.prog laidL w) false (World.doorLaid Tryd.prog 400 os) #[.agg #[.int .i64 0, .int .i64 0, .int .i64 0, .int .i64 0], .slice none 0 0] 8 rfl (World.shaped_of_RefB (by kernel_rfl) (by kernel_rfl)) (by kernel_rfl) (by kernel_rfl) (by kernel_rfl) (door_met os _)) ?_
  intro W base args ds gs before hval0 hW _ _ hL _
  have hval : ∀ (j : Nat) t v, Tryd.f7.params[j]? = some t → args[j]? = some v → Value.okWide Tryd.prog W .any base t v := hval0
  have hW' := hW
  obtain ⟨p, q, hA0, hV, rfl, hfz, hnd⟩ := hW
  have hA : DataW.TrodAll enc Tryd.prog W 0 (fun _ => true) true Tryd.f7.params.toList args.toList ds p := hA0
  rw [Tryd.params7] at hA hval
  obtain ⟨v0, v1, d0, d1, p0, p1, rfl, rfl, rfl, h0, h1⟩ := trodAll_two hA
  obtain ⟨rfl, rfl⟩ := trodVars_none hV
  have hT := tab_of_laid hL
  obtain ⟨l, rfl⟩ := law_open (hval 0 23 v0 rfl rfl) h0
  obtain ⟨a, c, SS, rfl, hS, hH⟩ := sheets_open (hval 1 41 v1 rfl rfl) h1
  have hlt : ∀ x ∈ (p0 ++ p1) ++ [], x.block < W.heap.size := fun x hx => by simpa using hW'.lt x hx
  refine (aheads_any l SS a c W hS hH hT).mono fun e W' ⟨he, hB⟩ => ?_
  subst he
  have e1 : Rows.frameAheadsSpec.fn H ([d0, d1] ++ []) = { results := [.lit (.bool true)], args := [d0, d1] } := by simp [Rows.frameAheadsSpec]
  refine ⟨_, rfl, _, _, _, [], p0 ++ p1, [], hW', ?_, ?_, ?_, hB.frame _, fun h => by cases h⟩
  · rw [e1]; exact trodAll_mk1 (shut_bool Tryd.underlying4 true)
  · rw [e1]
    exact trodAll_mk2 (Below.trod laidOut (by kernel_rfl) (of_decide_eq_true (by kernel_rfl)) h0 hB (fun x hx => hlt x (by simp [hx]))) (Below.trod laidOut (by kernel_rfl) (of_decide_eq_true (by kernel_rfl)) h1 hB (fun x hx => hlt x (by simp [hx])))
  · rw [e1]; rfl

theorem frameAheads_holds : Rows.FrameAheadsSaid :=
  OpenClaim.holds_of_wide 7 Tryd.f7 rfl rfl rfl rfl rfl rfl rfl ⟨rfl, rfl, rfl, rfl, rfl⟩ rfl rfl rfl rfl rfl (by kernel_rfl) Tryd.func7 (by kernel_rfl)
    (of_decide_eq_true (by kernel_rfl)) (by unfold Func.isWrapper; first | (rw [if_pos (by decide +kernel)]; kernel_rfl) | (rw [if_neg (by decide +kernel)]; exact ⟨rfl, rfl⟩))
    (fun os started H enc _ => frameAheads_lifted os started H enc)

/-- The tied card. -/
theorem frameAheads_card : Rows.FrameAheadsCardSaid :=
  Claim7.holds_tied_plain_at .later [] [.data] true (true, "a66f936dd313ec0b3b774961a9c7f266eda39370b23c596a123bc58e6b1306a4") false
    frameAheads_holds (fun _ h => by cases h) (by kernel_rfl) (fun _ h => by cases h) frameAheads_row_tie rfl ⟨rfl, rfl⟩ (by kernel_rfl) rfl
    (fun f fn hf hfn => by
      obtain rfl : f = 7 := Option.some.inj ((show Tryd.prog.funcNamed "kingpin/kingpinlaw01.FrameAheads" = some 7 by kernel_rfl).symm.trans hf) |>.symm
      obtain rfl : fn = Tryd.f7 := (Option.some.inj (Tryd.func7.symm.trans hfn)).symm
      exact ⟨by kernel_rfl, fun j t ht => by
        rw [Tryd.params7] at ht
        have hm : t ∈ [23, 41] := by simpa using Array.mem_of_getElem? ht
        have hall : ([23, 41].all fun u => !Tryd.prog.wantsStandIn u) = true := by kernel_rfl
        exact (show Tryd.prog.wantsStandIn t = false by simpa using List.all_eq_true.1 hall t hm)⟩)
    (by kernel_rfl)
#print axioms frameAheads_card

end Go.Proofs.YtmjbidnlknmcgaaDoor
