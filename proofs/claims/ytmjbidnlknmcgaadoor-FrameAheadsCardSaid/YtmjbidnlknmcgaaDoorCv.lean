/- The contract of the reference's Counts. -/
import Derived.Test.YtmjbidnlknmcgaaDoorCu
set_option linter.unusedVariables false
set_option linter.unusedSimpArgs false
namespace Go.Proofs.YtmjbidnlknmcgaaDoor
open Go.RowKit

/-- How many of a frame's balls lie among the first i. -/
def qF (F m i : Nat) : Nat := min (i - F) m

set_option maxRecDepth 100000 in
set_option maxHeartbeats 16000000 in
theorem counts_ref (l : Lw) (bs : List Int) (a : Option Addr) (c : Nat) (w : World) (hs : BallsAt w a bs) (h : rdE l bs = 0) :
    Calls Tryd.prog 49 #[l.val, .slice a bs.length c] w fun e w' => ∃ v, e = .returned v ∧ w'.ownsRow w.heap.size 3 1 v (rdM l bs).length ((rdM l bs).map (Value.int .i64)) ∧ Below w.heap.size w w' := by
  have ok := (recS_ok h).1
  have HS := Lib.hid hs
  have OK := Lib.hid ok
  have hlen : bs.length ≤ 40 := (errS_zero (rdE_zero h).1).2
  have PLY := Lib.hid (fun w h => play_ref l bs a c w ok h (by omega))
  have hF := FO.of h
  have CXX := Lib.hid (cx_of hF ok)
  have RCS := recS_rcs h
  have hpf := play_fol l bs (rec0 l)
  have hpt := play_tag ok bs (rec0 l) 0 (rec0_rcw ok) (rec0_ls ok)
  have e0 : (rec0 l).s = begS l := rfl
  have e1 : (fol l (rec0 l) bs).1 = recS l bs := rfl
  have e2 : tag (rec0 l).fs 0 = [] := rfl
  have e3 : (rec0 l).cs = [] := rfl
  rw [e0, e1, e2, List.nil_append] at hpt
  rw [e0, e1, e3, List.nil_append] at hpf
  have eM : rdM l bs = setL l (recS l bs) := by simp [rdM, h]
  rw [eM]
  rw [← hpf.2.1] at PLY
  obtain ⟨r, hr⟩ : ∃ r, recS l bs = r := ⟨_, rfl⟩
  obtain ⟨P, hP⟩ : ∃ P, playL l (begS l) bs = P := ⟨_, rfl⟩
  rw [hr, hP] at PLY
  rw [hr] at CXX RCS hpt hpf ⊢
  rw [hP] at hpt hpf
  have hv := (hF.vd ok)
  rw [hr] at hv
  obtain ⟨t, ht⟩ : ∃ t, refS l r.s = t := ⟨_, rfl⟩
  rw [ht] at PLY
  obtain ⟨tb1, tb2, htf⟩ := t_bd ok hv ht
  obtain ⟨sf, hsf⟩ : ∃ sf : Nat, t.f = (sf : Int) := ⟨t.f.toNat, by have := hv.f1; omega⟩
  obtain ⟨n, hn⟩ : ∃ n, P.length = n := ⟨_, rfl⟩
  rw [hn] at PLY
  have hcl : r.cs.length = n := by rw [hpf.2.2, List.length_map, hn]
  have HPT := Lib.hid hpt
  have HPC := Lib.hid hpf.2.2
  have HV := Lib.hid hv
  have HSF := Lib.hid hsf
  have HTF := Lib.hid htf
  have HCL := Lib.hid hcl
  have HNN := Lib.hid hn
  have RC := Lib.hid RCS
  have hn40 : n ≤ 40 := by have := RCS.cl; omega
  clear hs h ok hF hpf hpt e0 e1 e2 e3 eM hr hP hv ht tb1 tb2 htf hsf hcl hn RCS hlen
  unfold Lw.val St.val at *
  go_enter Tryd.func49, Tryd.ntmps49
  go_wp2_with fail
  have A1 := WL.start w l
  generalize World.alloc w _ = w1 at A1 ⊢
  obtain ⟨k0, k1, k2, k3⟩ := WL.at A1
  go_wp2_with fail
  refine (PLY.out w1 (HS.out.lo A1.out.bl)).mono ?_
  rintro e w2 ⟨v, rfl, ⟨base, ho, _⟩, hb⟩
  obtain ⟨gb, gc, rfl⟩ := own2_len ho
  have A2 := WL.lo A1 hb
  have hal := below_al w2 (.cells #[.int .i64 t.f, .int .i64 t.b, .int .i64 t.s, .bool t.set, .int .i64 t.has] 36)
  have A3 := WL.lo A2 hal
  have T3 : Hid ((w2.alloc (.cells #[.int .i64 t.f, .int .i64 t.b, .int .i64 t.s, .bool t.set, .int .i64 t.has] 36)).heap[w2.heap.size]? = some (.cells #[.int .i64 t.f, .int .i64 t.b, .int .i64 t.s, .bool t.set, .int .i64 t.has] 36 (0, 0))) := Lib.hid (heap_alloc_new w2 _)
  have B3 := Lib.hid (fun (i : Nat) (p : Int × Int) (hp : P[i]? = some p) => (show ∃ g, gb = some ⟨g, 0, none⟩ ∧ (w2.alloc (.cells #[.int .i64 t.f, .int .i64 t.b, .int .i64 t.s, .bool t.set, .int .i64 t.has] 36)).cell? ⟨g, i * 2, none⟩ = some (.int .i64 p.1) ∧ (w2.alloc (.cells #[.int .i64 t.f, .int .i64 t.b, .int .i64 t.s, .bool t.set, .int .i64 t.has] 36)).cell? ⟨g, i * 2 + 1, none⟩ = some (.int .i64 p.2) from by
    have hlt : 0 < n := by have := (List.getElem?_eq_some_iff.1 hp).1; have := HNN.out; omega
    obtain ⟨g, c', hv, _, _, _, hcell⟩ := own2_form ho hlt
    cases hv
    exact ⟨g, rfl, below_cell hal (hcell _ _ (ballC_at hp).1), below_cell hal (hcell _ _ (ballC_at hp).2)⟩))
  clear hb ho hal A1 A2 k0 k1 k2 k3 PLY HS
  go_wp2_with fail
  obtain ⟨b5, hb5⟩ : ∃ b5, w2.heap.size = b5 := ⟨_, rfl⟩
  rw [hb5] at T3 ⊢
  clear hb5
  generalize World.alloc w2 _ = w3 at A3 T3 B3 ⊢
  obtain ⟨i3, hi3, hy0, hy1, hy2⟩ := info_parts info3
  have hsfr : (sf : Int) ≤ l.fr := by have := HV.out.f2; have := HTF.out; have := HSF.out; omega
  have hfr10 := OK.out.f2
  have hRS : r.s.f.toNat = sf := by have := HTF.out; have := HSF.out; omega
  have HRS := Lib.hid hRS
  clear hRS
  go_loopg [7, 8, 9] sf (fun g s7 s8 s9 wx => ∃ (f : Nat) (acc : List Int) (na : Nat) (up : Int), f ≤ sf ∧ g = sf - f ∧ s9 = .int .i64 (f : Int) ∧ s8 = .int .i64 up ∧ Hid (lastC acc = up ∧ acc.length = na ∧ 0 ≤ up ∧ up ≤ 400 * f ∧ na ≤ f) ∧ Hid (wx.ownsRow w3.heap.size 3 1 s7 na (acc.map (Value.int .i64))) ∧
    Hid (setGo l.pn r.cs ((r.fs.take sf).drop f) (lens (r.fs.take f)) acc = setL l r) ∧ Hid (BL w3 wx))
  case atStart => exact ⟨0, [], 0, 0, by omega, rfl, rfl, rfl, Lib.hid ⟨rfl, rfl, by omega, by omega, by omega⟩, Lib.hid (World.ownsRow_nil _ _ _ _), Lib.hid (by rw [setL, HRS.out]; simp [lens]), BL.start w3⟩
  case round =>
    obtain ⟨f, acc, na, up, hf, rfl, rfl, rfl, hU, hO, hG, hB⟩ := hrel
    obtain ⟨oa, oc, rfl⟩ := own_len hO.out
    have A4 := WL.lo A3 hB.out.b
    have ct : wr.cell? ⟨b5, 0, none⟩ = some (.int .i64 (sf : Int)) := by
      have h1 := (hB.out.b.block _ (lt_of_block T3.out)).trans T3.out
      rw [← HSF.out]
      simp [World.cell?, h1]
    by_cases hlt : f < sf
    · have hz0 : (0 : Int) ≤ (f : Int) := by omega
      have hz1 : (f : Int) < (sf : Int) := by omega
      obtain ⟨F, m, hseg, hm0, hFm, hFl, hnd⟩ := CXX.out.seg f (by have := HTF.out; have := HSF.out; omega)
      have hCB := Lib.hid (fun q => part_bd r.cs F q RC.out.cb RC.out.cl)
      have HSG := Lib.hid hseg
      have hn2 : F + m ≤ n := by have := HCL.out; omega
      have HND := Lib.hid hnd
      have HFL := Lib.hid hFl
      obtain ⟨B4, _⟩ : Hid (∀ (i : Nat) (p : Int × Int), P[i]? = some p → ∃ g, gb = some ⟨g, 0, none⟩ ∧ wr.cell? ⟨g, i * 2, none⟩ = some (.int .i64 p.1) ∧ wr.cell? ⟨g, i * 2 + 1, none⟩ = some (.int .i64 p.2)) ∧ True := ⟨Lib.hid (fun i p hp => by
        obtain ⟨g, hg, h1, h2⟩ := B3.out i p hp
        exact ⟨g, hg, below_cell hB.out.b h1, below_cell hB.out.b h2⟩), trivial⟩
      clear hseg hFm hFl hnd
      generalize wr = W at hO hB A4 ct B4 ⊢
      go_wp2_with fail
      go_loopg [10, 11, 12, 13] n (fun g s10 s11 s12 s13 wx => ∃ (i : Nat) (ow bl ls : Int), i ≤ n ∧ g = n - i ∧ s13 = .int .i64 (i : Int) ∧ s10 = .int .i64 ow ∧ s11 = .int .i64 bl ∧ s12 = .int .i64 ls ∧ Hid ((partL r.cs F (qF F m i)).sum = ow ∧ (qF F m i : Int) = bl ∧ (if qF F m i = 0 then 0 else ((F + qF F m i - 1 : Nat) : Int)) = ls) ∧ W = wx)
      case atStart => exact ⟨0, 0, 0, 0, by omega, rfl, rfl, rfl, rfl, rfl, Lib.hid (by simp [qF, partL]), rfl⟩
      case round =>
        obtain ⟨i, ow, bl, ls, hi, rfl, rfl, rfl, rfl, rfl, hQ, rfl⟩ := hrel
        by_cases hil : i < n
        · have hi0 : (0 : Int) ≤ (i : Int) := by omega
          have hi1 : (i : Int) < (n : Int) := by omega
          obtain ⟨p, hp⟩ : ∃ p, P[i]? = some p := ⟨P[i]'(by rw [HNN.out]; exact hil), List.getElem?_eq_getElem _⟩
          obtain ⟨pf, pc⟩ := p
          obtain ⟨g, rfl, h1, h2⟩ := B4.out i _ hp
          simp only at h1 h2
          have hx : (tag r.fs 0)[i]? = some pf := by rw [HPT.out, List.getElem?_map, hp]; rfl
          have hc : r.cs[i]? = some pc := by rw [HPC.out, List.getElem?_map, hp]; rfl
          have hcb := RC.out.cb pc (List.mem_of_getElem? hc)
          have htag := HSG.out.tag hx
          have hqb := hCB.out (qF F m i)
          rw [hQ.out.1] at hqb
          have hq40 : qF F m i ≤ m := Nat.min_le_right _ _
          have hblb : 0 ≤ bl ∧ bl ≤ 40 := by have := hQ.out.2.1; omega
          have hw1 : IntKind.i64.wrap (ow + pc) = ow + pc := IntWalk.i64_in _ (by omega)
          have hw2 : IntKind.i64.wrap (bl + 1) = bl + 1 := IntWalk.i64_in _ (by omega)
          have HCC := Lib.hid hc
          have HTG := Lib.hid htag
          clear hx hc hcb htag hqb hblb hp
          by_cases hin : F ≤ i ∧ i < F + m
          · have hpe : pf = (f : Int) := HTG.out.2 hin
            subst hpe
            have hq1 : qF F m (i + 1) = qF F m i + 1 := by unfold qF; omega
            have hq2 : qF F m i = i - F := by unfold qF; omega
            have HQ1 := Lib.hid hq1
            have HQ2 := Lib.hid hq2
            have HIN := Lib.hid hin
            clear hq1 hq2 hin
            go_wp2_with fail
            go_roundg (n - (i + 1))
            case measure => omega
            case rel =>
              refine ⟨i + 1, ow + pc, bl + 1, i, by omega, rfl, by simp, rfl, rfl, rfl, Lib.hid ⟨?_, ?_, ?_⟩, rfl⟩
              · rw [HQ1.out, part_succ (c := pc) (by rw [HQ2.out]; have e : F + (i - F) = i := by have := HIN.out; omega
                                                     rw [e]; exact HCC.out), hQ.out.1]
              · have := HQ1.out; have := hQ.out.2.1; omega
              · rw [HQ1.out, if_neg (by omega), HQ2.out]
                have := HIN.out
                have e : F + (i - F + 1) - 1 = i := by omega
                rw [e]
          · have hpe : (pf == (f : Int)) = false := by simp; exact fun e => hin (HTG.out.1 e)
            have hq1 : qF F m (i + 1) = qF F m i := by unfold qF; omega
            have HQ1 := Lib.hid hq1
            clear hq1 hin
            go_wp2_with fail
            go_roundg (n - (i + 1))
            case measure => omega
            case rel => exact ⟨i + 1, ow, bl, ls, by omega, rfl, by simp, rfl, rfl, rfl, Lib.hid (by rw [HQ1.out]; exact hQ.out), rfl⟩
        · have hqm : qF F m i = m := by unfold qF; omega
          have hq3 := hQ.out
          rw [hqm, if_neg (by omega)] at hq3
          obtain ⟨ho1, ho2, ho3⟩ := hq3
          obtain ⟨L1, hL1⟩ : ∃ L1, F + m - 1 = L1 := ⟨_, rfl⟩
          rw [hL1] at ho3
          subst ho2 ho3
          have hob := hCB.out m
          rw [ho1] at hob
          have HO1 := Lib.hid ho1
          have HL1 := Lib.hid hL1
          have hi1 : ¬ (i : Int) < (n : Int) := by omega
          clear hqm hQ ho1 hL1 hil
          obtain ⟨B1, hB1⟩ : ∃ B1, Hid (decide ((f : Int) < l.fr - 1 ∧ ow = l.pn ∧ m = 1) = B1) := ⟨_, Lib.hid rfl⟩
          obtain ⟨B2, hB2⟩ : ∃ B2, Hid (decide ((f : Int) < l.fr - 1 ∧ ow = l.pn ∧ m = 2) = B2) := ⟨_, Lib.hid rfl⟩
          have hf1 : IntKind.i64.wrap (l.fr - 1) = l.fr - 1 := IntWalk.i64_in _ (by have := OK.out.f1; omega)
          go_upto_region 14 with fail
          go_cut [65] (fun s65 wx => s65 = .bool B1 ∧ W = wx)
          case first =>
            obtain ⟨k0, k1, k2, k3⟩ := WL.at A4
            by_cases c1 : (f : Int) < l.fr - 1
            · have C1 := Lib.hid c1
              by_cases c2 : ow = l.pn
              · have c2b : (ow == l.pn) = true := by simpa using c2
                have C2 := Lib.hid c2
                clear c2
                by_cases c3 : m = 1
                · have c3b : ((m : Int) == 1) = true := by simp; omega
                  have C3 := Lib.hid c3
                  clear c3
                  go_wp2_with fail
                  go_meet
                  exact ⟨by rw [← hB1.out]; simp [C1.out, C2.out, C3.out], rfl⟩
                · have c3b : ((m : Int) == 1) = false := by simp; omega
                  have C3 := Lib.hid c3
                  clear c3
                  go_wp2_with fail
                  go_meet
                  exact ⟨by rw [← hB1.out]; simp [C3.out], rfl⟩
              · have c2b : (ow == l.pn) = false := by simpa using c2
                have C2 := Lib.hid c2
                clear c2
                go_wp2_with fail
                go_meet
                exact ⟨by rw [← hB1.out]; simp [C2.out], rfl⟩
            · have C1 := Lib.hid c1
              go_wp2_with fail
              go_meet
              exact ⟨by rw [← hB1.out]; exact congrArg Value.bool (decide_eq_false (fun h => by have h1 := C1.out; have h2 := h.1; omega)).symm, rfl⟩
          case rest =>
            obtain ⟨rfl, rfl⟩ := hcut
            go_upto_if 65 with fail
            go_cut [14] (fun s14 wx => s14 = .int .i64 (if B1 = true then 2 else 0) ∧ W = wx)
            case first =>
              cases B1
              all_goals
                go_wp2_with fail
                go_meet
                exact ⟨rfl, rfl⟩
            case rest =>
              obtain ⟨rfl, rfl⟩ := hcut
              obtain ⟨v1, hv1⟩ : ∃ v1, Hid ((if B1 = true then (2 : Int) else 0) = v1) := ⟨_, Lib.hid rfl⟩
              rw [hv1.out]
              go_upto_region 16 with fail
              go_cut [80] (fun s80 wx => s80 = .bool B2 ∧ W = wx)
              case first =>
                obtain ⟨k0, k1, k2, k3⟩ := WL.at A4
                by_cases c1 : (f : Int) < l.fr - 1
                · have C1 := Lib.hid c1
                  by_cases c2 : ow = l.pn
                  · have c2b : (ow == l.pn) = true := by simpa using c2
                    have C2 := Lib.hid c2
                    clear c2
                    by_cases c3 : m = 2
                    · have c3b : ((m : Int) == 2) = true := by simp; omega
                      have C3 := Lib.hid c3
                      clear c3
                      go_wp2_with fail
                      go_meet
                      exact ⟨by rw [← hB2.out]; simp [C1.out, C2.out, C3.out], rfl⟩
                    · have c3b : ((m : Int) == 2) = false := by simp; omega
                      have C3 := Lib.hid c3
                      clear c3
                      go_wp2_with fail
                      go_meet
                      exact ⟨by rw [← hB2.out]; simp [C3.out], rfl⟩
                  · have c2b : (ow == l.pn) = false := by simpa using c2
                    have C2 := Lib.hid c2
                    clear c2
                    go_wp2_with fail
                    go_meet
                    exact ⟨by rw [← hB2.out]; simp [C2.out], rfl⟩
                · have C1 := Lib.hid c1
                  go_wp2_with fail
                  go_meet
                  exact ⟨by rw [← hB2.out]; exact congrArg Value.bool (decide_eq_false (fun h => by have h1 := C1.out; have h2 := h.1; omega)).symm, rfl⟩
              case rest =>
                obtain ⟨rfl, rfl⟩ := hcut
                go_upto_if 80 with fail
                go_cut [14] (fun s14 wx => s14 = .int .i64 (if B2 = true then 1 else v1) ∧ W = wx)
                case first =>
                  cases B2
                  all_goals
                    go_wp2_with fail
                    go_meet
                    exact ⟨rfl, rfl⟩
                case rest =>
                  obtain ⟨rfl, rfl⟩ := hcut
                  have hmr : (if B2 = true then (1 : Int) else v1) = ((moreR l f ow m : Nat) : Int) := by
                    rw [← hv1.out, ← hB1.out, ← hB2.out]
                    unfold moreR
                    by_cases c1 : (f : Int) < l.fr - 1
                    · by_cases c2 : ow = l.pn
                      · by_cases m1 : m = 1
                        · simp [c1, c2, m1]
                        · by_cases m2 : m = 2
                          · simp [c1, c2, m2]
                          · simp [m1, m2]
                      · simp [c2]
                    · simp [c1]
                  rw [hmr]
                  have hnd := HND.out
                  rw [HO1.out] at hnd
                  obtain ⟨mr, hmr2⟩ : ∃ mr, moreR l f ow m = mr := ⟨_, rfl⟩
                  rw [hmr2] at hnd ⊢
                  have hmr3 : mr ≤ 2 := by
                    rw [← hmr2]
                    unfold moreR
                    split
                    · omega
                    · split <;> omega
                  have hL1 := HL1.out
                  have hw3 : IntKind.i64.wrap ((L1 : Int) + (mr : Int)) = (L1 : Int) + (mr : Int) := IntWalk.i64_in _ (by omega)
                  have hG2 := hG.out
                  have hfl2 : ((r.fs.take sf)[f]?) = r.fs[f]? := by rw [List.getElem?_take, if_pos hlt]
                  obtain ⟨y, hy, hym⟩ := HSG.out.at'
                  rw [hy] at hfl2
                  rw [set_step hfl2, ← HFL.out, hym, ← hnd] at hG2
                  have hls : lens (r.fs.take (f + 1)) = F + m := by rw [← hym, HFL.out]; exact lens_take r.fs f y hy
                  have hcl := HCL.out
                  have HY := Lib.hid (And.intro hy hym)
                  clear hfl2 hy hym hmr hmr2 hv1 hnd hB1 hB2
                  by_cases hbr : n ≤ L1 + mr
                  · rw [if_pos (by omega)] at hG2
                    have hbi : (n : Int) ≤ (L1 : Int) + (mr : Int) := by omega
                    have HG2 := Lib.hid hG2
                    clear hG2 hbr hls hcl hL1 hG
                    go_wp2_with fail
                    go_returns
                    refine ⟨_, rfl, ?_, A4.out.bl⟩
                    have h1 := own_lower hO.out A3.out.bl.size
                    rw [← HG2.out]
                    have h2 := hU.out.2.1
                    rw [h2]
                    exact h1
                  · rw [if_neg (by omega)] at hG2
                    have hbi : ¬ (n : Int) ≤ (L1 : Int) + (mr : Int) := by omega
                    have HG2 := Lib.hid hG2
                    have HLS := Lib.hid hls
                    have hw4 : IntKind.i64.wrap ((L1 : Int) + 1) = (L1 : Int) + 1 := IntWalk.i64_in _ (by omega)
                    have hbr2 : L1 + mr < n := by omega
                    have HLL := Lib.hid hL1
                    clear hG2 hbr hls hcl hL1 hG
                    go_wp2_with fail
                    go_loopg [10, 15] mr (fun g s10 s15 wx => ∃ (d : Nat) (ow2 : Int), d ≤ mr ∧ g = mr - d ∧ s15 = .int .i64 (((L1 + 1 + d : Nat)) : Int) ∧ s10 = .int .i64 ow2 ∧ Hid ((partL r.cs F (m + d)).sum = ow2) ∧ W = wx)
                    case atStart => exact ⟨0, ow, by omega, rfl, by simp, rfl, Lib.hid HO1.out, rfl⟩
                    case round =>
                      obtain ⟨d, ow2, hd, rfl, rfl, rfl, hD, rfl⟩ := hrel
                      obtain ⟨j, hj⟩ : ∃ j, L1 + 1 + d = j := ⟨_, rfl⟩
                      rw [hj]
                      have HJ := Lib.hid hj
                      by_cases hdl : d < mr
                      · have hj0 : (0 : Int) ≤ (j : Int) := by omega
                        have hj1 : (j : Int) < (n : Int) := by omega
                        have hj2 : (j : Int) ≤ (L1 : Int) + (mr : Int) := by omega
                        obtain ⟨p, hp⟩ : ∃ p, P[j]? = some p := ⟨P[j]'(by rw [HNN.out]; omega), List.getElem?_eq_getElem _⟩
                        obtain ⟨pf, pc⟩ := p
                        obtain ⟨g, rfl, h1, h2⟩ := B4.out j _ hp
                        simp only at h1 h2
                        have hc : r.cs[j]? = some pc := by rw [HPC.out, List.getElem?_map, hp]; rfl
                        have hcb := RC.out.cb pc (List.mem_of_getElem? hc)
                        have hqb := hCB.out (m + d)
                        rw [hD.out] at hqb
                        have hw1 : IntKind.i64.wrap (ow2 + pc) = ow2 + pc := IntWalk.i64_in _ (by omega)
                        have HCC := Lib.hid hc
                        clear hc hcb hqb hp hj
                        go_wp2_with fail
                        go_roundg (mr - (d + 1))
                        case measure => omega
                        case rel =>
                          refine ⟨d + 1, ow2 + pc, by omega, rfl, by have := HJ.out; simp; omega, rfl, Lib.hid ?_, rfl⟩
                          have e : F + (m + d) = j := by have := HJ.out; have := HLL.out; omega
                          rw [← Nat.add_assoc, part_succ (c := pc) (by rw [e]; exact HCC.out), hD.out]
                      · have hj2 : ¬ (j : Int) ≤ (L1 : Int) + (mr : Int) := by omega
                        have hdm : d = mr := by omega
                        have hD2 := hD.out
                        rw [hdm] at hD2
                        have hU2 := hU.out
                        have hqb := hCB.out (m + mr)
                        rw [hD2] at hqb
                        have hw1 : IntKind.i64.wrap (up + ow2) = up + ow2 := IntWalk.i64_in _ (by omega)
                        have HD2 := Lib.hid hD2
                        have HQB := Lib.hid hqb
                        have hna : na ≤ 10 := by omega
                        clear hj hdl hdm hD2 hU2 hqb hD
                        go_wp2_with (at_builtin; go_must (refine wpList_append_own_at _ rfl _ _ 24 rfl w3.heap.size 3 i3 (.int .i64 0) 1 8 Tryd.underlying24 hi3 hy0 hy1 hy2 rfl (by decide) _ na _ rfl (own_al hO.out _) ⟨W.heap.size, 0, none⟩ 1 1 [.int .i64 (up + ow2)] rfl rfl (World.news_of_block (heap_alloc_new W _)) (by simp [Value.oneCell']) (by unfold maxLen; omega) (by omega) (Nat.le_trans hB.out.b.size (below_al W _).size) ?_); intro v' w9 hown' hgrow hnil hloc; have O9 := Lib.hid hown'; have B9 := BL.grow (BL.al hB _) hO.out (Nat.le_refl _) hgrow; clear hown' hgrow hnil hloc)
                        go_roundg (sf - (f + 1))
                        case measure => omega
                        case rel =>
                          have hU3 := hU.out
                          have hQ3 := HQB.out
                          have hla : lastC (acc ++ [up + ow2]) = up + ow2 := by simp [lastC]
                          refine ⟨f + 1, acc ++ [up + ow2], na + 1, up + ow2, by omega, rfl, by simp, rfl, Lib.hid ⟨hla, by rw [List.length_append, hU3.2.1]; rfl, by omega, by push_cast; omega, by omega⟩, Lib.hid (by rw [List.map_append]; exact O9.out), Lib.hid ?_, B9⟩
                          have h1 := HG2.out
                          rw [HD2.out, hU3.1] at h1
                          rw [HLS.out]
                          rw [Int.add_comm up ow2]
                          exact h1
    · have hfe : f = sf := by omega
      have hz1 : ¬ (f : Int) < (sf : Int) := by omega
      have hG2 := hG.out
      rw [hfe, List.drop_of_length_le (by rw [List.length_take]; omega), setGo] at hG2
      have HG2 := Lib.hid hG2
      clear hfe hG2 hlt
      go_wp2_with fail
      go_returns
      refine ⟨_, rfl, ?_, A3.out.bl.trans (hB.out.b.mono A3.out.bl.size)⟩
      have h1 := own_lower hO.out A3.out.bl.size
      rw [← HG2.out, hU.out.2.1]
      exact h1

end Go.Proofs.YtmjbidnlknmcgaaDoor
