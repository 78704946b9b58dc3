/- The contract of the reference's tail. -/
import Derived.Test.YtmjbidnlknmcgaaDoorTe
import Derived.Test.YtmjbidnlknmcgaaDoorCv
set_option linter.unusedVariables false
set_option linter.unusedSimpArgs false
namespace Go.Proofs.YtmjbidnlknmcgaaDoor
open Go.RowKit

theorem tal_bd (l : Lw) (r : Rc) (a : Int) : ∀ n : Nat, 0 ≤ tal l r a n ∧ tal l r a n ≤ n
  | 0 => by simp [tal]
  | n + 1 => by
    have := tal_bd l r a n
    rw [tal]
    split <;> constructor <;> omega

/-- But for one block, all is as it was. -/
theorem far_cell {W W' : World} {b : Nat} (hg : W.grownBy W' (some b)) {p : Addr} {v : Value} (hc : W.cell? p = some v) (hne : p.block ≠ b) : W'.cell? p = some v :=
  (hg.cell_far p (World.block_lt_of_cell? W p hc) (fun e => by cases e; exact hne rfl)).trans hc

set_option maxRecDepth 100000 in
set_option maxHeartbeats 16000000 in
theorem tail_ref (l : Lw) (bs : List Int) (a : Option Addr) (c : Nat) (w : World) (hs : BallsAt w a bs) (h : rdE l bs = 0) :
    Calls Tryd.prog 57 #[l.val, .slice a bs.length c] w fun e w' => e = .returned (tlv l (recS l bs).s) ∧ Below w.heap.size w w' := by
  have ok := (recS_ok h).1
  have HS := Lib.hid hs
  have OK := Lib.hid ok
  have hlen : bs.length ≤ 40 := (errS_zero (rdE_zero h).1).2
  have PLY := Lib.hid (fun w h => play_ref l bs a c w ok h (by omega))
  have hF := FO.of h
  have CXX := Lib.hid (cx_of hF ok)
  have RCS := recS_rcs h
  have TAX := Lib.hid (ta_of ok bs)
  have hpf := play_fol l bs (rec0 l)
  have hpt := play_tag ok bs (rec0 l) 0 (rec0_rcw ok) (rec0_ls ok)
  have e0 : (rec0 l).s = begS l := rfl
  have e1 : (fol l (rec0 l) bs).1 = recS l bs := rfl
  have e2 : tag (rec0 l).fs 0 = [] := rfl
  have e3 : (rec0 l).cs = [] := rfl
  rw [e0, e1, e2, List.nil_append] at hpt
  rw [e0, e1, e3, List.nil_append] at hpf
  rw [← hpf.2.1] at PLY
  obtain ⟨r, hr⟩ : ∃ r, recS l bs = r := ⟨_, rfl⟩
  obtain ⟨P, hP⟩ : ∃ P, playL l (begS l) bs = P := ⟨_, rfl⟩
  rw [hr, hP] at PLY
  rw [hr] at CXX RCS hpt hpf TAX ⊢
  rw [hP] at hpt hpf
  have hv := (hF.vd ok)
  rw [hr] at hv
  obtain ⟨t, ht⟩ : ∃ t, refS l r.s = t := ⟨_, rfl⟩
  rw [ht] at PLY
  obtain ⟨tb1, tb2, htf⟩ := t_bd ok hv ht
  unfold tlv
  rw [ht]
  obtain ⟨n, hn⟩ : ∃ n, P.length = n := ⟨_, rfl⟩
  rw [hn] at PLY
  have hcl : r.cs.length = n := by rw [hpf.2.2, List.length_map, hn]
  have HPT := Lib.hid hpt
  have HPC := Lib.hid hpf.2.2
  have HV := Lib.hid hv
  have HTF := Lib.hid htf
  have HCL := Lib.hid hcl
  have HNN := Lib.hid hn
  have RC := Lib.hid RCS
  have hn40 : n ≤ 40 := by have := RCS.cl; omega
  clear hs h ok hF hpf hpt e0 e1 e2 e3 hr hP hv ht tb1 tb2 htf hcl hn RCS hlen
  unfold Lw.val St.val at *
  go_enter Tryd.func57, Tryd.ntmps57
  go_upto_region 1 with fail
  have A1 := WL.al (WL.start w l) (.cells #[.int .i64 0, .int .i64 0, .int .i64 0, .bool false, .int .i64 0, .int .i64 0, .int .i64 0] 105)
  have Z1 := TL.new1 w (.cells #[.int .i64 l.fr, .int .i64 l.pn, .int .i64 l.bl, .int .i64 l.tp] 23) ⟨0, 0, 0, false, 0⟩ 0 0
  generalize World.alloc (World.alloc w _) _ = w1 at A1 Z1 ⊢
  obtain ⟨k0, k1, k2, k3⟩ := WL.at A1
  go_wp2_with fail
  refine (PLY.out w1 (HS.out.lo A1.out.bl)).mono ?_
  rintro e w2 ⟨v, rfl, ⟨pbase, ho, _⟩, hb⟩
  obtain ⟨gb, gc, rfl⟩ := own2_len ho
  have hal := below_al w2 (.cells #[.int .i64 t.f, .int .i64 t.b, .int .i64 t.s, .bool t.set, .int .i64 t.has] 36)
  have A3 := WL.lo (WL.lo A1 hb) hal
  have Z3 := TL.lo (TL.lo Z1 hb) hal
  have T3 : Hid ((w2.alloc (.cells #[.int .i64 t.f, .int .i64 t.b, .int .i64 t.s, .bool t.set, .int .i64 t.has] 36)).heap[w2.heap.size]? = some (.cells #[.int .i64 t.f, .int .i64 t.b, .int .i64 t.s, .bool t.set, .int .i64 t.has] 36 (0, 0))) := Lib.hid (heap_alloc_new w2 _)
  have B3 := Lib.hid (fun (i : Nat) (p : Int × Int) (hp : P[i]? = some p) => (show ∃ g, gb = some ⟨g, 0, none⟩ ∧ (w2.alloc (.cells #[.int .i64 t.f, .int .i64 t.b, .int .i64 t.s, .bool t.set, .int .i64 t.has] 36)).cell? ⟨g, i * 2, none⟩ = some (.int .i64 p.1) ∧ (w2.alloc (.cells #[.int .i64 t.f, .int .i64 t.b, .int .i64 t.s, .bool t.set, .int .i64 t.has] 36)).cell? ⟨g, i * 2 + 1, none⟩ = some (.int .i64 p.2) from by
    have hlt : 0 < n := by have := (List.getElem?_eq_some_iff.1 hp).1; have := HNN.out; omega
    obtain ⟨g, c', hv, _, _, _, hcell⟩ := own2_form ho hlt
    cases hv
    exact ⟨g, rfl, below_cell hal (hcell _ _ (ballC_at hp).1), below_cell hal (hcell _ _ (ballC_at hp).2)⟩))
  clear hb ho hal A1 Z1 k0 k1 k2 k3 PLY HS
  go_upto_region 2 with fail
  obtain ⟨b5, hb5⟩ : ∃ b5, w2.heap.size = b5 := ⟨_, rfl⟩
  rw [hb5] at T3 ⊢
  clear hb5
  generalize World.alloc w2 _ = w3 at A3 T3 B3 Z3 ⊢
  obtain ⟨q0, q1, q2, q3, q4⟩ : w3.cell? ⟨b5, 0, none⟩ = some (.int .i64 t.f) ∧ w3.cell? ⟨b5, 1, none⟩ = some (.int .i64 t.b) ∧ w3.cell? ⟨b5, 2, none⟩ = some (.int .i64 t.s) ∧ w3.cell? ⟨b5, 3, none⟩ = some (.bool t.set) ∧ w3.cell? ⟨b5, 4, none⟩ = some (.int .i64 t.has) := by
    have h := T3.out
    exact ⟨by simp [World.cell?, h], by simp [World.cell?, h], by simp [World.cell?, h], by simp [World.cell?, h], by simp [World.cell?, h]⟩
  go_upto_region 3 with fail
  have hal := below_al w3 (.cells #[.int .i64 t.f, .int .i64 t.b, .int .i64 t.s, .bool t.set, .int .i64 t.has, .int .i64 0, .int .i64 0] 105)
  have A4 := WL.lo A3 hal
  have Z4 := TL.lo Z3 hal
  have O4 := TL.new w3 t 0 0
  have B4 := Lib.hid (fun (i : Nat) (p : Int × Int) (hp : P[i]? = some p) => (show ∃ g, gb = some ⟨g, 0, none⟩ ∧ g ≠ w3.heap.size ∧ (w3.alloc (.cells #[.int .i64 t.f, .int .i64 t.b, .int .i64 t.s, .bool t.set, .int .i64 t.has, .int .i64 0, .int .i64 0] 105)).cell? ⟨g, i * 2, none⟩ = some (.int .i64 p.1) ∧ (w3.alloc (.cells #[.int .i64 t.f, .int .i64 t.b, .int .i64 t.s, .bool t.set, .int .i64 t.has, .int .i64 0, .int .i64 0] 105)).cell? ⟨g, i * 2 + 1, none⟩ = some (.int .i64 p.2) from by
    obtain ⟨g, h1, h2, h3⟩ := B3.out i p hp
    have h4 : g < w3.heap.size := World.block_lt_of_cell? w3 _ h2
    exact ⟨g, h1, by omega, below_cell hal h2, below_cell hal h3⟩))
  have hd1 : w.heap.size < w3.heap.size ∧ w.heap.size + 1 < w3.heap.size ∧ b5 < w3.heap.size := ⟨WL.sz A3, lt_of_block Z3.out.blk, lt_of_block T3.out⟩
  have T4 : Hid ((w3.alloc (.cells #[.int .i64 t.f, .int .i64 t.b, .int .i64 t.s, .bool t.set, .int .i64 t.has, .int .i64 0, .int .i64 0] 105)).cell? ⟨b5, 0, none⟩ = some (.int .i64 t.f)) := Lib.hid (below_cell hal q0)
  clear hal A3 Z3 T3 B3 q0 q1 q2 q3 q4
  obtain ⟨b7, hb7⟩ : ∃ b7, w3.heap.size = b7 := ⟨_, rfl⟩
  rw [hb7] at O4 B4 hd1 ⊢
  clear hb7
  generalize World.alloc w3 _ = w4 at A4 T4 Z4 O4 B4 ⊢
  have HD := Lib.hid hd1
  clear hd1
  obtain ⟨fm, hfm⟩ : ∃ fm : Nat, (fm : Int) = min t.f (l.fr - 1) := ⟨(min t.f (l.fr - 1)).toNat, by have := HV.out.f1; have := HTF.out; have := OK.out.f1; omega⟩
  have HFM := Lib.hid hfm
  have hfm10 : fm ≤ 10 := by have := OK.out.f2; omega
  have hf1 : IntKind.i64.wrap (l.fr - 1) = l.fr - 1 := IntWalk.i64_in _ (by have := OK.out.f1; have := OK.out.f2; omega)
  clear hfm
  go_wp2_with fail
  go_loopg [8] fm (fun g s8 wx => ∃ (f : Nat), f ≤ fm ∧ g = fm - f ∧ s8 = .int .i64 (f : Int) ∧ Hid (TL wx b7 t (tal l r 1 f) (tal l r 2 f)) ∧ Hid (w4.grownBy wx (some b7)))
  case atStart => exact ⟨0, by omega, rfl, rfl, O4, Lib.hid (World.grownBy.refl _ _)⟩
  case round =>
    obtain ⟨f, hf, rfl, rfl, hT, hG⟩ := hrel
    have hbd1 := tal_bd l r 1 f
    have hbd2 := tal_bd l r 2 f
    obtain ⟨X, hX⟩ : ∃ X, tal l r 1 f = X := ⟨_, rfl⟩
    obtain ⟨Y, hY⟩ : ∃ Y, tal l r 2 f = Y := ⟨_, rfl⟩
    rw [hX] at hT hbd1
    rw [hY] at hT hbd2
    have HXE := Lib.hid hX
    have HYE := Lib.hid hY
    have HBD := Lib.hid (And.intro hbd1 hbd2)
    clear hX hY hbd1 hbd2
    obtain ⟨kk0, kk1, kk2, kk3⟩ := WL.at A4
    have k0 := far_cell hG.out kk0 (by have := HD.out.1; show w.heap.size ≠ b7; omega)
    have k1 := far_cell hG.out kk1 (by have := HD.out.1; show w.heap.size ≠ b7; omega)
    have ct := far_cell hG.out T4.out (by have := HD.out.2.2; show b5 ≠ b7; omega)
    clear kk0 kk1 kk2 kk3
    by_cases hlt : f < fm
    · have hz0 : (0 : Int) ≤ (f : Int) := by omega
      have hz1 : (f : Int) < t.f := by have := HFM.out; omega
      have hz2 : (f : Int) < l.fr - 1 := by have := HFM.out; omega
      obtain ⟨F, m, hseg, hm0, hFm, hFl, hnd⟩ := CXX.out.seg f (by have := HTF.out; omega)
      have hCB := Lib.hid (fun q => part_bd r.cs F q RC.out.cb RC.out.cl)
      have HSG := Lib.hid hseg
      have hn2 : F + m ≤ n := by have := HCL.out; omega
      have HFL := Lib.hid hFl
      have B5 : Hid (∀ (i : Nat) (p : Int × Int), P[i]? = some p → ∃ g, gb = some ⟨g, 0, none⟩ ∧ wr.cell? ⟨g, i * 2, none⟩ = some (.int .i64 p.1) ∧ wr.cell? ⟨g, i * 2 + 1, none⟩ = some (.int .i64 p.2)) := Lib.hid (fun i p hp => by
        obtain ⟨g, hg, hgne, h1, h2⟩ := B4.out i p hp
        exact ⟨g, hg, far_cell hG.out h1 hgne, far_cell hG.out h2 hgne⟩)
      clear hseg hFm hFl hnd
      generalize wr = W at hT hG k0 k1 ct B5 ⊢
      go_wp2_with fail
      go_loopg [9, 10, 11, 12] n (fun g s10 s11 s12 s13 wx => ∃ (i : Nat) (ow bl ls : Int), i ≤ n ∧ g = n - i ∧ s13 = .int .i64 (i : Int) ∧ s10 = .int .i64 ow ∧ s11 = .int .i64 bl ∧ s12 = .int .i64 ls ∧ Hid ((partL r.cs F (qF F m i)).sum = ow ∧ (qF F m i : Int) = bl ∧ (if qF F m i = 0 then 0 else ((F + qF F m i - 1 : Nat) : Int)) = ls) ∧ W = wx)
      case atStart => exact ⟨0, 0, 0, 0, by omega, rfl, rfl, rfl, rfl, rfl, Lib.hid (by simp [qF, partL]), rfl⟩
      case round =>
        obtain ⟨i, ow, bl, ls, hi, rfl, rfl, rfl, rfl, rfl, hQ, rfl⟩ := hrel
        by_cases hil : i < n
        · have hi0 : (0 : Int) ≤ (i : Int) := by omega
          have hi1 : (i : Int) < (n : Int) := by omega
          obtain ⟨p, hp⟩ : ∃ p, P[i]? = some p := ⟨P[i]'(by rw [HNN.out]; exact hil), List.getElem?_eq_getElem _⟩
          obtain ⟨pf, pc⟩ := p
          obtain ⟨g, rfl, h1, h2⟩ := B5.out i _ hp
          simp only at h1 h2
          have hx : (tag r.fs 0)[i]? = some pf := by rw [HPT.out, List.getElem?_map, hp]; rfl
          have hc : r.cs[i]? = some pc := by rw [HPC.out, List.getElem?_map, hp]; rfl
          have hcb := RC.out.cb pc (List.mem_of_getElem? hc)
          have htag := HSG.out.tag hx
          have hqb := hCB.out (qF F m i)
          rw [hQ.out.1] at hqb
          have hq40 : qF F m i ≤ m := Nat.min_le_right _ _
          have hblb : 0 ≤ bl ∧ bl ≤ 40 := by have := hQ.out.2.1; omega
          have hw1 : IntKind.i64.wrap (ow + pc) = ow + pc := IntWalk.i64_in _ (by omega)
          have hw2 : IntKind.i64.wrap (bl + 1) = bl + 1 := IntWalk.i64_in _ (by omega)
          have HCC := Lib.hid hc
          have HTG := Lib.hid htag
          clear hx hc hcb htag hqb hblb hp
          by_cases hin : F ≤ i ∧ i < F + m
          · have hpe : pf = (f : Int) := HTG.out.2 hin
            subst hpe
            have hq1 : qF F m (i + 1) = qF F m i + 1 := by unfold qF; omega
            have hq2 : qF F m i = i - F := by unfold qF; omega
            have HQ1 := Lib.hid hq1
            have HQ2 := Lib.hid hq2
            have HIN := Lib.hid hin
            clear hq1 hq2 hin
            go_wp2_with fail
            go_roundg (n - (i + 1))
            case measure => omega
            case rel =>
              refine ⟨i + 1, ow + pc, bl + 1, i, by omega, rfl, by simp, rfl, rfl, rfl, Lib.hid ⟨?_, ?_, ?_⟩, rfl⟩
              · rw [HQ1.out, part_succ (c := pc) (by rw [HQ2.out]; have e : F + (i - F) = i := by have := HIN.out; omega
                                                     rw [e]; exact HCC.out), hQ.out.1]
              · have := HQ1.out; have := hQ.out.2.1; omega
              · rw [HQ1.out, if_neg (by omega), HQ2.out]
                have := HIN.out
                have e : F + (i - F + 1) - 1 = i := by omega
                rw [e]
          · have hpe : (pf == (f : Int)) = false := by simp; exact fun e => hin (HTG.out.1 e)
            have hq1 : qF F m (i + 1) = qF F m i := by unfold qF; omega
            have HQ1 := Lib.hid hq1
            clear hq1 hin
            go_wp2_with fail
            go_roundg (n - (i + 1))
            case measure => omega
            case rel => exact ⟨i + 1, ow, bl, ls, by omega, rfl, by simp, rfl, rfl, rfl, Lib.hid (by rw [HQ1.out]; exact hQ.out), rfl⟩
        · have hqm : qF F m i = m := by unfold qF; omega
          have hq3 := hQ.out
          rw [hqm, if_neg (by omega)] at hq3
          obtain ⟨ho1, ho2, ho3⟩ := hq3
          obtain ⟨L1, hL1⟩ : ∃ L1, F + m - 1 = L1 := ⟨_, rfl⟩
          rw [hL1] at ho3
          subst ho2 ho3
          have HO1 := Lib.hid ho1
          have HL1 := Lib.hid hL1
          have hi1 : ¬ (i : Int) < (n : Int) := by omega
          clear hqm hQ ho1 hL1 hil
          obtain ⟨B1, hB1⟩ : ∃ B1, Hid (decide (ow = l.pn ∧ m < 3) = B1) := ⟨_, Lib.hid rfl⟩
          go_upto_region 13 with fail
          go_cut [66] (fun s66 wx => s66 = .bool B1 ∧ W = wx)
          case first =>
            by_cases c2 : ow = l.pn
            · have c2b : (ow == l.pn) = true := by simpa using c2
              have C2 := Lib.hid c2
              clear c2
              by_cases c3 : m < 3
              · have c3b : (m : Int) < 3 := by omega
                have C3 := Lib.hid c3
                go_wp2_with fail
                go_meet
                exact ⟨by rw [← hB1.out]; simp [C2.out, C3.out], rfl⟩
              · have c3b : ¬ (m : Int) < 3 := by omega
                have C3 := Lib.hid c3
                go_wp2_with fail
                go_meet
                exact ⟨by rw [← hB1.out]; simp [C3.out], rfl⟩
            · have c2b : (ow == l.pn) = false := by simpa using c2
              have C2 := Lib.hid c2
              clear c2
              go_wp2_with fail
              go_meet
              exact ⟨by rw [← hB1.out]; simp [C2.out], rfl⟩
          case rest =>
            obtain ⟨rfl, rfl⟩ := hcut
            have hw8 : IntKind.i64.wrap (3 - (m : Int)) = 3 - (m : Int) := IntWalk.i64_in _ (by omega)
            go_upto_if 66 with fail
            go_cut [13] (fun s13 wx => s13 = .int .i64 (if B1 = true then 3 - (m : Int) else 0) ∧ W = wx)
            case first =>
              cases B1
              all_goals
                go_wp2_with fail
                go_meet
                exact ⟨rfl, rfl⟩
            case rest =>
              obtain ⟨rfl, rfl⟩ := hcut
              have hmr : (if B1 = true then 3 - (m : Int) else 0) = ((moreR l f ow m : Nat) : Int) := by
                rw [← hB1.out]
                unfold moreR
                by_cases c2 : ow = l.pn
                · by_cases m1 : m = 1
                  · simp [c2, m1, hz2]
                  · by_cases m2 : m = 2
                    · simp [c2, m2, hz2]
                    · have m3 : ¬ m < 3 := by omega
                      simp [m1, m2, m3]
                · simp [c2]
              rw [hmr]
              have hlf : leftR l r f = ((F + m + moreR l f ow m : Nat) : Int) - (n : Int) := by
                obtain ⟨y, hy, hym⟩ := HSG.out.at'
                unfold leftR
                rw [hy]
                simp only
                rw [← HFL.out, hym, HO1.out, HCL.out]
              obtain ⟨mr, hmr2⟩ : ∃ mr, moreR l f ow m = mr := ⟨_, rfl⟩
              rw [hmr2] at hlf ⊢
              have hmr3 : mr ≤ 2 := by
                rw [← hmr2]
                unfold moreR
                split
                · omega
                · split <;> omega
              have hL1 := HL1.out
              obtain ⟨lf, hlf2⟩ : ∃ lf, leftR l r f = lf := ⟨_, rfl⟩
              rw [hlf2] at hlf
              have hw5 : IntKind.i64.wrap ((L1 : Int) + 1) = (L1 : Int) + 1 := IntWalk.i64_in _ (by omega)
              have hw6 : IntKind.i64.wrap ((L1 : Int) + 1 + (mr : Int)) = (L1 : Int) + 1 + (mr : Int) := IntWalk.i64_in _ (by omega)
              have hw7 : IntKind.i64.wrap ((L1 : Int) + 1 + (mr : Int) - (n : Int)) = lf := by rw [IntWalk.i64_in _ (by omega)]; omega
              have hw9 : IntKind.i64.wrap (X + 1) = X + 1 := IntWalk.i64_in _ (by have := HBD.out; omega)
              have hw10 : IntKind.i64.wrap (Y + 1) = Y + 1 := IntWalk.i64_in _ (by have := HBD.out; omega)
              have hw11 : IntKind.i64.wrap ((f : Int) + 1) = (f : Int) + 1 := IntWalk.i64_in _ (by omega)
              have HLF := Lib.hid hlf2
              clear hlf hlf2 hmr hmr2 hB1 hL1 hmr3
              obtain ⟨o0, o1, o2, o3, o4, o5, o6⟩ := TL.at hT
              obtain ⟨p0, p1, p2, p3, p4, p5, p6⟩ := TL.fz hT
              by_cases l1 : 1 ≤ lf
              · by_cases l2 : 2 ≤ lf
                · have HL1 := Lib.hid l1
                  have HL2 := Lib.hid l2
                  go_wp2_with fail
                  go_roundg (fm - (f + 1))
                  case measure => omega
                  case rel => exact ⟨f + 1, by omega, rfl, by simp, by rw [tal, tal, HXE.out, HYE.out, HLF.out, if_pos HL1.out, if_pos HL2.out]; exact TL.set6 (TL.set5 hT _) _, Lib.hid (hG.out.trans (grown_set (grown_set (World.grownBy.refl W (some b7)) 5 _) 6 _))⟩
                · have HL1 := Lib.hid l1
                  have HL2 := Lib.hid l2
                  go_wp2_with fail
                  go_roundg (fm - (f + 1))
                  case measure => omega
                  case rel => exact ⟨f + 1, by omega, rfl, by simp, by rw [tal, tal, HXE.out, HYE.out, HLF.out, if_pos HL1.out, if_neg (by have := HL2.out; omega), Int.add_zero]; exact TL.set5 hT _, Lib.hid (hG.out.trans (grown_set (World.grownBy.refl W (some b7)) 5 _))⟩
              · have l2 : ¬ 2 ≤ lf := by omega
                have HL1 := Lib.hid l1
                have HL2 := Lib.hid l2
                go_wp2_with fail
                go_roundg (fm - (f + 1))
                case measure => omega
                case rel => exact ⟨f + 1, by omega, rfl, by simp, by rw [tal, tal, HXE.out, HYE.out, HLF.out, if_neg (by have := HL1.out; omega), if_neg (by have := HL2.out; omega), Int.add_zero, Int.add_zero]; exact hT, hG⟩
    · have hfe : f = fm := by omega
      have hxx : X = r.s.x := by rw [← HXE.out]; exact TAX.out.x f (by have := HFM.out; have := HTF.out; omega)
      have hyy : Y = r.s.y := by rw [← HYE.out]; exact TAX.out.y f (by have := HFM.out; have := HTF.out; omega)
      rw [hxx, hyy] at hT
      obtain ⟨o0, o1, o2, o3, o4, o5, o6⟩ := TL.at hT
      have Z5 : Hid (TL wr (w.heap.size + 1) ⟨0, 0, 0, false, 0⟩ 0 0) := Lib.hid ⟨(hG.out.block _ (lt_of_block Z4.out.blk) (fun e => by have := HD.out.2.1; cases e; omega)).trans Z4.out.blk⟩
      obtain ⟨d0, d1, d2, d3, d4, d5, d6⟩ := TL.at Z5
      obtain ⟨p0, p1, p2, p3, p4, p5, p6⟩ := TL.fz Z5
      have BW : Hid (BL w wr) := Lib.hid ⟨A4.out.bl.grown hG.out A4.out.bl.size (fun k e => by have := HD.out.1; cases e; omega)⟩
      clear hxx hyy HXE HYE
      by_cases hz1 : (f : Int) < t.f
      · have hz2 : ¬ (f : Int) < l.fr - 1 := by have := HFM.out; omega
        go_wp2_with fail
        have RP := TL.put (t' := t) (x' := r.s.x) (y' := r.s.y) Z5
        have BP := Lib.hid (BL.put7 BW (g := w.heap.size + 1) (by omega) (.int .i64 t.f) (.int .i64 t.b) (.int .i64 t.s) (.bool t.set) (.int .i64 t.has) (.int .i64 r.s.x) (.int .i64 r.s.y)).out.b
        clear o0 o1 o2 o3 o4 o5 o6 d0 d1 d2 d3 d4 d5 d6 p0 p1 p2 p3 p4 p5 p6 Z5 BW hT hG
        generalize World.setCell _ _ _ = W9 at RP BP ⊢
        obtain ⟨c0, c1, c2, c3, c4, c5, c6⟩ := TL.at RP
        refine bodyPost_ret (v := .agg #[.int .i64 t.f, .int .i64 t.b, .int .i64 t.s, .bool t.set, .int .i64 t.has, .int .i64 r.s.x, .int .i64 r.s.y]) (by simp [results, Tryd.results57, go_sem, c0, c1, c2, c3, c4, c5, c6]) rfl ?_
        exact ⟨rfl, BP.out⟩
      · go_wp2_with fail
        have RP := TL.put (t' := t) (x' := r.s.x) (y' := r.s.y) Z5
        have BP := Lib.hid (BL.put7 BW (g := w.heap.size + 1) (by omega) (.int .i64 t.f) (.int .i64 t.b) (.int .i64 t.s) (.bool t.set) (.int .i64 t.has) (.int .i64 r.s.x) (.int .i64 r.s.y)).out.b
        clear o0 o1 o2 o3 o4 o5 o6 d0 d1 d2 d3 d4 d5 d6 p0 p1 p2 p3 p4 p5 p6 Z5 BW hT hG
        generalize World.setCell _ _ _ = W9 at RP BP ⊢
        obtain ⟨c0, c1, c2, c3, c4, c5, c6⟩ := TL.at RP
        refine bodyPost_ret (v := .agg #[.int .i64 t.f, .int .i64 t.b, .int .i64 t.s, .bool t.set, .int .i64 t.has, .int .i64 r.s.x, .int .i64 r.s.y]) (by simp [results, Tryd.results57, go_sem, c0, c1, c2, c3, c4, c5, c6]) rfl ?_
        exact ⟨rfl, BP.out⟩

end Go.Proofs.YtmjbidnlknmcgaaDoor
