/- The contract of the law FrameSettled. -/
import Derived.Test.YtmjbidnlknmcgaaDoorSw
import Derived.Test.YtmjbidnlknmcgaaDoorSe
set_option linter.unusedVariables false
set_option linter.unusedSimpArgs false
namespace Go.Proofs.YtmjbidnlknmcgaaDoor
open Go.RowKit

/-- Read of a sheet that is a game's: the counts' row is new. -/
theorem rd_own {l : Lw} {bs : List Int} (h : rdE l bs = 0) (a : Option Addr) (c : Nat) (W : World) (hs : BallsAt W a bs) :
    Calls Tryd.prog 23 #[l.val, .slice a bs.length c] W fun e w' => ∃ fa fn fc qa qc st dn, e = .returned (.tuple #[.agg #[.slice fa fn fc, .slice qa (rdM l bs).length qc, .int .i64 st, .bool dn], .int .i64 0]) ∧
      w'.ownsRow W.heap.size 3 1 (.slice qa (rdM l bs).length qc) (rdM l bs).length ((rdM l bs).map (Value.int .i64)) ∧ Below W.heap.size W w' := by
  refine (rd_good l bs a c W hs h).mono ?_
  rintro e w' ⟨fv, qv, rfl, ⟨base, cv, vs, how, hln, _⟩, ⟨base2, hq, hq2⟩, hb⟩
  have o24 := how.own (24, fv, vs) (by simp [items])
  simp only at o24
  obtain ⟨fa, fc, rfl⟩ := own_len o24
  have e2 : setL l (recS l bs) = rdM l bs := by simp [rdM, h]
  rw [e2] at hq
  obtain ⟨qa, qc, rfl⟩ := own_len hq
  exact ⟨fa, vs.length, fc, qa, qc, (recS l bs).s.s, _, rfl, own_mono hq hq2, hb⟩


theorem words_lo {w W : World} {a : Option Addr} {ws : List Int} (h : WordsAt w a ws) (hb : Below w.heap.size w W) : WordsAt W a ws := fun i v hv => by
  obtain ⟨⟨g, o, e, hc⟩, h1, h2⟩ := h i v hv
  exact ⟨⟨g, o, e, below_cell hb hc⟩, h1, h2⟩
theorem fo_pos {l : Lw} {ys : List Int} {s : Sd} (h : FO l ys s) (ok : l.Ok) (hf : s.f = l.fr) : 0 < ys.length := by
  cases ys with
  | nil =>
    have h1 := h.s
    simp only [fol] at h1
    have h2 : (rec0 l).s.f = 0 := rfl
    rw [h1, hf] at h2
    have := ok.f1
    omega
  | cons y ys => simp
/-- The counts of the round before. -/
def lastL (l : Lw) (ys : List Int) (j : Nat) : List Int := if j = 0 then [] else rdM l (ys.take (j - 1))
theorem last_step {l : Lw} {ys : List Int} (h : PX l ys) {j : Nat} (hj : j ≤ ys.length) : lastL l ys j <+: rdM l (ys.take j) ∧ (rdM l (ys.take j)).length ≤ (lastL l ys j).length + 3 := by
  unfold lastL
  split
  · rename_i h0
    subst h0
    rw [h.z]
    exact ⟨List.prefix_refl _, by simp⟩
  · have := h.p (j - 1) (by omega)
    have e : j - 1 + 1 = j := by omega
    rwa [e] at this
theorem pre_at {L M : List Int} {i : Nat} {x : Int} (h : L <+: M) (hx : L[i]? = some x) : M[i]? = some x := by
  obtain ⟨t, rfl⟩ := h
  rw [List.getElem?_append_left (by have := List.getElem?_eq_some_iff.1 hx; exact this.1)]
  exact hx

set_option maxRecDepth 100000 in
set_option maxHeartbeats 100000000 in
theorem settled_law (l : Lw) (bs : List Int) (a : Option Addr) (c : Nat) (wa : Option Addr) (ws : List Int) (wcp : Nat) (w : World) (hs : SheetAt w a c bs) (hw : WordsAt w wa ws) (hwl : (ws.length : Int) ≤ 9223372036854775807) (hT : TabOK w) :
    Calls Tryd.prog 11 #[l.val, .slice a bs.length c, .slice wa ws.length wcp] w fun e w' => e = .returned (.bool true) ∧ Below w.heap.size w w' := by
  have HT := Lib.hid hT
  have HS := Lib.hid hs
  have HW := Lib.hid hw
  have WAK := Lib.hid wakes_any
  have RDY := Lib.hid (ready_any l bs)
  clear hT hs hw
  by_cases he : rdE l bs = 0
  · have hd : decide (rdE l bs = 0) = true := by simp [he]
    rw [hd] at RDY
    have END := Lib.hid (fun w hs hw => endd_any l bs a c wa ws wcp w he hs hw hwl)
    have OK := Lib.hid (recS_ok he).1
    have LAW := Lib.hid (law_any l)
    have RDO := Lib.hid (fun bs h a c W hs => rd_own (l := l) (bs := bs) h a c W hs)
    have MLE := Lib.hid (rdM_le l)
    clear hd he hwl
    unfold Lw.val at *
    go_enter Tryd.func11, Tryd.ntmps11
    go_wp2_with fail
    have A1 := WL.start w l
    generalize World.alloc w _ = w1 at A1 ⊢
    obtain ⟨k0, k1, k2, k3⟩ := WL.at A1
    go_wp2_with fail
    refine (RDY.out a c w1 (HS.out.1.lo A1.out.bl)).mono ?_
    rintro e w2 ⟨rfl, hb⟩
    have A2 := WL.lo A1 hb
    clear hb A1 k0 k1 k2 k3
    obtain ⟨k0, k1, k2, k3⟩ := WL.at A2
    go_wp2_with fail
    refine (END.out w2 (HS.out.lo A2.out.bl) (words_lo HW.out A2.out.bl)).mono ?_
    rintro e w3 ⟨ys, v, rfl, ho, _, ⟨s, hFO, hsf⟩, hb⟩
    have A3 := WL.lo A2 hb
    have PX := Lib.hid (px_of hFO OK.out)
    have DN := Lib.hid (set_done hFO OK.out hsf)
    have h30 : ys.length ≤ 30 := by have := hFO.len OK.out; omega
    have h0 : 0 < ys.length := fo_pos hFO OK.out hsf
    obtain ⟨gy, vc, hv, hg0, hg1, hg2, hg3⟩ := own_form ho h0
    subst hv
    have Y3 := Lib.hid (own_sheet ho)
    have hcz : ¬ vc = 0 := by omega
    clear hb ho A2 k0 k1 k2 k3 hFO hsf hg0 hg1 hg3 HS HW END RDY
    go_wp2_with fail
    go_loopg [8, 9] (ys.length + 1) (fun g s8 s9 wx => ∃ (j : Nat) (L : List Int) (qa : Option Addr) (n qc : Nat), j ≤ ys.length + 1 ∧ g = ys.length + 1 - j ∧ s9 = .int .i64 (j : Int) ∧ s8 = .slice qa n qc ∧ Hid (L = lastL l ys j) ∧ Hid (wx.ownsRow 0 3 1 (.slice qa n qc) n (L.map (Value.int .i64))) ∧ Hid (BL w3 wx))
    case atStart => exact ⟨0, [], none, 0, 0, by omega, rfl, rfl, rfl, Lib.hid rfl, Lib.hid (World.ownsRow_nil _ _ _ _), BL.start w3⟩
    case round =>
      obtain ⟨j, L, qa0, n0, qc0, hj, rfl, rfl, rfl, hL, hO, hB⟩ := hrel
      have AR := WL.lo A3 hB.out.b
      obtain ⟨k0, k1, k2, k3⟩ := WL.at AR
      have hLn : L.length = n0 := by have := hO.out.1; simpa using this
      by_cases hlt : j < ys.length + 1
      · have hj1 : (j : Int) ≤ (ys.length : Int) := by omega
        have hj0 : (0 : Int) ≤ (j : Int) := by omega
        have hjc : (j : Int) ≤ (vc : Int) := by omega
        have hEj := PX.out.e j (by omega)
        have htl : (ys.take j).length = j := by rw [List.length_take]; omega
        have LN : Hid (∀ W, BL wr W → Calls Tryd.prog 19 #[.slice (some ⟨gy, 0, none⟩) j vc] W fun e w' => ∃ v, e = .returned v ∧ w'.ownsRow W.heap.size 3 1 v j ((ys.take j).map (Value.int .i64)) ∧ Below W.heap.size W w') := Lib.hid (fun W h => by
          have h1 := list_any (ys.take j) (some ⟨gy, 0, none⟩) vc W ⟨balls_take (Y3.out.1.lo (hB.out.b.trans (h.b.mono hB.out.b.size))) j, fun e => by cases e⟩ (by omega)
          rwa [htl] at h1)
        obtain ⟨M, hM⟩ : ∃ M, rdM l (ys.take j) = M := ⟨_, rfl⟩
        obtain ⟨m, hm⟩ : ∃ m, M.length = m := ⟨_, rfl⟩
        have RN : Hid (∀ a c W, BallsAt W a (ys.take j) → Calls Tryd.prog 23 #[.agg #[.int .i64 l.fr, .int .i64 l.pn, .int .i64 l.bl, .int .i64 l.tp], .slice a j c] W fun e w' => ∃ fa fn fc qa qc st dn, e = .returned (.tuple #[.agg #[.slice fa fn fc, .slice qa m qc, .int .i64 st, .bool dn], .int .i64 0]) ∧
            w'.ownsRow W.heap.size 3 1 (.slice qa m qc) m (M.map (Value.int .i64)) ∧ Below W.heap.size W w') := Lib.hid (fun a c W h => by
          have h1 := RDO.out (ys.take j) hEj a c W h
          rwa [htl, hM, hm] at h1)
        have hstep := last_step PX.out (by omega : j ≤ ys.length)
        rw [← hL.out, hM] at hstep
        obtain ⟨hp1, hp2⟩ := hstep
        have hp3 := hp1.length_le
        rw [hLn, hm] at hp2 hp3
        have hm1000 : m ≤ 1000 := by rw [← hm, ← hM]; exact MLE.out _
        have HP := Lib.hid hp1
        have HM := Lib.hid hM
        have hHm := Lib.hid hm
        have hHL := Lib.hid hLn
        clear hp1 hM hm hEj htl hLn k0 k1 k2 k3
        go_upto_region 8 with fail
        go_cut [10, 11] (fun s10 s11 wx => ∃ (g10 : Nat) (fa : Option Addr) (fn fc : Nat) (qa : Option Addr) (qc : Nat) (st : Int) (dn : Bool), s10 = .pointer (some ⟨g10, 0, none⟩) ∧ s11 = .int .i64 0 ∧ Hid (BL wr wx) ∧ Hid (GK wx g10 (.slice fa fn fc) (.slice qa m qc) st dn) ∧ Hid (wx.ownsRow 0 3 1 (.slice qa m qc) m (M.map (Value.int .i64))))
        case first =>
          have hd0 : wr.heap.size ≤ wr.heap.size := Nat.le_refl _
          clear hj hlt hj0 h30 h0 hg2 hp2 hp3 hm1000 HP HM hHm hHL hL hO HT WAK OK RDO MLE PX DN Y3
          go_region_held3 (fun W => W.cell? ⟨w.heap.size, 0, none⟩ = some (.int .i64 l.fr) ∧ W.cell? ⟨w.heap.size, 1, none⟩ = some (.int .i64 l.pn) ∧ W.cell? ⟨w.heap.size, 2, none⟩ = some (.int .i64 l.bl) ∧ W.cell? ⟨w.heap.size, 3, none⟩ = some (.int .i64 l.tp))
            (with_reducible first | exact BL.law (BL.dr (BL.start wr)) AR | exact BL.law (BL.dr (BL.al (BL.start wr) _)) AR | exact BL.law (PA) AR | exact BL.law (BL.al PA _) AR | exact BL.law (PB) AR | exact BL.law (BL.al PB _) AR | exact BL.law (PD) AR | exact BL.law (BL.al PD _) AR | exact BL.law (BL.put PD (by omega) _ _ _ _) AR)
            (first
              | (go_at_call 17; (with_reducible refine (LAW.out _).mono ?_); rintro e wA ⟨rfl, hb⟩; (with_reducible first | have PA := BL.lo (BL.dr (BL.start wr)) hb | have PA := BL.lo (BL.dr (BL.al (BL.start wr) _)) hb); (try with_reducible first | have ZA := GK.lo (GK.dr (GK.new wr _ _ _ _)) hb); have hA := PA.out.b.size; clear hb)
              | (go_at_call 19; (with_reducible first | refine (LN.out _ PA.out).mono ?_ | refine (LN.out _ (BL.al PA _).out).mono ?_); rintro e wB ⟨v, rfl, ho, hb⟩; obtain ⟨vb, vd, rfl⟩ := own_len ho; (with_reducible first | have PB := BL.lo (PA) hb | have PB := BL.lo (BL.al PA _) hb); (try with_reducible first | have ZB := GK.lo (ZA) hb | have ZB := GK.lo (GK.new wA _ _ _ _) hb); have SB := Lib.hid (own_ballsAt ho); have hB := PB.out.b.size; clear hb ho)
              | (go_at_call 23; (with_reducible first | refine (RN.out _ _ _ SB.out).mono ?_ | refine (RN.out _ _ _ (SB.out.lo (below_al _ _))).mono ?_); rintro e wD ⟨fa, fn, fc, qa, qc, st, dn, rfl, ho, hb⟩; (with_reducible first | have PD := BL.lo (PB) hb | have PD := BL.lo (BL.al PB _) hb); (try with_reducible first | (have hz := GK.lst (ZB) hb ho; have ZD := hz.1; have ED := hz.2; clear hz; have hf := GK.fz ZD; obtain ⟨⟨d0, d1, d2, d3⟩, z0, z1, z2, z3⟩ := hf) | (have hz := GK.lst (GK.new wB _ _ _ _) hb ho; have ZD := hz.1; have ED := hz.2; clear hz; have hf := GK.fz ZD; obtain ⟨⟨d0, d1, d2, d3⟩, z0, z1, z2, z3⟩ := hf)); have OD := Lib.hid ho; have hD := PD.out.b.size; clear hb ho))
          all_goals
            go_wp2_with fail
            go_meet
            first
              | exact ⟨_, fa, fn, fc, qa, qc, st, dn, rfl, rfl, BL.al PD _, GK.new wD _ _ _ _, Lib.hid (own_mono (own_al OD.out _) (Nat.zero_le _))⟩
              | exact ⟨_, fa, fn, fc, qa, qc, st, dn, rfl, rfl, BL.put PD (by omega) _ _ _ _, GK.put ZD, Lib.hid (own_mono (own_put OD.out ED.out _ _ _ _) (Nat.zero_le _))⟩
        case rest =>
          obtain ⟨g10, fa, fn, fc, qa, qc, st, dn, rfl, rfl, B9, G9, O9⟩ := hcut
          have hBx : Hid (BL w3 wc) := BL.lo hB B9.out.b
          have hO9 := Lib.hid (own_below hO.out B9.out.b)
          clear LN RN hB hO B9 AR
          obtain ⟨c0, c1, c2, c3⟩ := GK.at G9
          have q1 : ¬ (m : Int) < (n0 : Int) := by omega
          have q2 : ¬ (n0 : Int) + 3 < (m : Int) := by omega
          have q3 : IntKind.i64.wrap ((n0 : Int) + 3) = (n0 : Int) + 3 := IntWalk.i64_in _ (by omega)
          go_wp2_with fail
          generalize wc = we at hBx G9 O9 hO9 c0 c1 c2 c3 ⊢
          go_loopg [12] n0 (fun g s12 wx => ∃ (i : Nat), i ≤ n0 ∧ g = n0 - i ∧ s12 = .int .i64 (i : Int) ∧ Hid (BL we wx))
          case atStart => exact ⟨0, by omega, rfl, rfl, BL.start we⟩
          case round =>
            clear c0 c1 c2 c3 q1 q2 q3
            obtain ⟨i, hi, rfl, rfl, hW⟩ := hrel
            by_cases hil : i < n0
            · have hi0 : (0 : Int) ≤ (i : Int) := by omega
              have hi1 : (i : Int) < (n0 : Int) := by omega
              have hi2 : (i : Int) < (m : Int) := by omega
              obtain ⟨gl, cl, hv, _, _, _, _⟩ := own_form hO9.out (by omega)
              cases hv
              obtain ⟨gq, cq, hv, _, _, _, _⟩ := own_form O9.out (by omega : 0 < m)
              cases hv
              obtain ⟨x, hx⟩ : ∃ x, L[i]? = some x := ⟨L[i]'(by rw [hHL.out]; omega), List.getElem?_eq_getElem _⟩
              have cl1 : wr.cell? ⟨gl, i, none⟩ = some (.int .i64 x) := below_cell hW.out.b (own_cell hO9.out i _ (by rw [List.getElem?_map, hx]; rfl))
              have cq1 : wr.cell? ⟨gq, i, none⟩ = some (.int .i64 x) := below_cell hW.out.b (own_cell O9.out i _ (by rw [List.getElem?_map, pre_at HP.out hx]; rfl))
              clear hx
              obtain ⟨c0, c1, c2, c3⟩ := GK.at (GK.lo G9 hW.out.b)
              have W14 : Hid (BL we wr.drew) := BL.dr hW
              go_wp2
              go_still_tail 9, (by kernel_rfl)
              go_wp2_with fail
              go_roundg (n0 - (i + 1))
              case measure => omega
              case rel => exact ⟨i + 1, by omega, rfl, by simp, W14⟩
            · have hie : i = n0 := by omega
              have HIE := Lib.hid hie
              have hi1 : ¬ (i : Int) < (n0 : Int) := by omega
              clear hie
              obtain ⟨c0, c1, c2, c3⟩ := GK.at (GK.lo G9 hW.out.b)
              go_wp2_with fail
              go_roundg (ys.length + 1 - (j + 1))
              case measure => omega
              case rel => exact ⟨j + 1, M, qa, m, qc, by omega, rfl, by simp, rfl, Lib.hid (by simp [lastL]; exact HM.out.symm), Lib.hid (own_below O9.out hW.out.b), BL.lo hBx hW.out.b⟩
      · have hje : j = ys.length + 1 := by omega
        subst hje
        have hj1 : ¬ (((ys.length + 1 : Nat) : Int) ≤ (ys.length : Int)) := by omega
        have hfr : (n0 : Int) = l.fr := by
          have h1 := DN.out
          have h2 := hL.out
          rw [lastL, if_neg (by omega), Nat.add_sub_cancel, List.take_of_length_le (Nat.le_refl _)] at h2
          rw [← h2, hLn] at h1
          exact h1
        go_wp2_with fail
        refine (WAK.out wr (HT.out.below AR.out.bl HT.out.pos)).mono ?_
        rintro e wf ⟨rfl, hb⟩
        have BF := Lib.hid (AR.out.bl.trans (hb.mono AR.out.bl.size))
        clear hb
        go_wp2_with fail
        go_ret
        exact ⟨rfl, BF.out⟩
  · have hd : decide (rdE l bs = 0) = false := by simp [he]
    rw [hd] at RDY
    clear hd he
    unfold Lw.val at *
    go_enter Tryd.func11, Tryd.ntmps11
    go_wp2_with fail
    have A1 := WL.start w l
    generalize World.alloc w _ = w1 at A1 ⊢
    obtain ⟨k0, k1, k2, k3⟩ := WL.at A1
    go_wp2_with fail
    refine (RDY.out a c w1 (HS.out.1.lo A1.out.bl)).mono ?_
    rintro e w2 ⟨rfl, hb⟩
    have A2 := WL.lo A1 hb
    clear hb A1 k0 k1 k2 k3
    go_wp2_with fail
    refine (WAK.out _ (HT.out.below A2.out.bl HT.out.pos)).mono ?_
    rintro e w3 ⟨rfl, hb⟩
    have BF := Lib.hid (A2.out.bl.trans (hb.mono A2.out.bl.size))
    clear hb
    go_wp2_with fail
    go_ret
    exact ⟨rfl, BF.out⟩

end Go.Proofs.YtmjbidnlknmcgaaDoor
