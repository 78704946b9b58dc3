/- The contract of the law FrameBads. -/
import Derived.Test.YtmjbidnlknmcgaaDoorPl3
set_option linter.unusedVariables false
set_option linter.unusedSimpArgs false
namespace Go.Proofs.YtmjbidnlknmcgaaDoor
open Go.RowKit

/-- The law's own block, and nothing that was there has turned. -/
structure WL (w W : World) (l : Lw) : Prop where
  lb : W.heap[w.heap.size]? = some (.cells #[.int .i64 l.fr, .int .i64 l.pn, .int .i64 l.bl, .int .i64 l.tp] 23 (0, 0))
  bl : Below w.heap.size w W

theorem WL.lo {w W W' : World} {l : Lw} (h : Hid (WL w W l)) (hb : Below W.heap.size W W') : Hid (WL w W' l) := Lib.hid ⟨(hb.block _ (lt_of_block h.out.lb)).trans h.out.lb, h.out.bl.trans (hb.mono h.out.bl.size)⟩
theorem WL.al {w W : World} {l : Lw} (h : Hid (WL w W l)) (o : Obj) : Hid (WL w (W.alloc o) l) := WL.lo h (below_al W o)
theorem WL.start (w : World) (l : Lw) : Hid (WL w (w.alloc (.cells #[.int .i64 l.fr, .int .i64 l.pn, .int .i64 l.bl, .int .i64 l.tp] 23)) l) := Lib.hid ⟨heap_alloc_new w _, below_al w _⟩
theorem WL.at {w W : World} {l : Lw} (h : Hid (WL w W l)) : W.cell? ⟨w.heap.size, 0, none⟩ = some (.int .i64 l.fr) ∧ W.cell? ⟨w.heap.size, 1, none⟩ = some (.int .i64 l.pn) ∧ W.cell? ⟨w.heap.size, 2, none⟩ = some (.int .i64 l.bl) ∧ W.cell? ⟨w.heap.size, 3, none⟩ = some (.int .i64 l.tp) := l4_of h.out.lb

set_option maxRecDepth 100000 in
set_option maxHeartbeats 16000000 in
theorem bads_any (l : Lw) (bs : List Int) (a : Option Addr) (c : Nat) (w : World) (hs : SheetAt w a c bs) (hT : TabOK w) :
    Calls Tryd.prog 3 #[l.val, .slice a bs.length c] w fun e w' => e = .returned (.bool true) ∧ Below w.heap.size w w' := by
  have HT := Lib.hid hT
  have HS := Lib.hid hs
  have WAK := Lib.hid wakes_any
  clear hT hs
  by_cases hn : bs.length ≤ 45
  · have LAW := Lib.hid (law_any l)
    have CHK := Lib.hid (checkLaw_any l)
    have ISL := Lib.hid (isLaw_any l)
    have LST := Lib.hid (fun w h => list_any bs a c w h (by omega))
    have FLT := Lib.hid (fun w h => fault_any l bs a c w h hn)
    have hgt : ¬ (45 : Int) < (bs.length : Int) := by omega
    have hle := fol_le l bs (rec0 l)
    by_cases he : errS l bs.length ≠ 0
    · have hrd : rdE l bs = errS l bs.length := by rw [rdE, if_pos he]
      have BAD := Lib.hid (fun v c w => bad_err l bs.length v c w he)
      rw [hrd] at FLT
      cases hok : okB l
      · have hE : errS l bs.length = 1 := by simp [errS, hok]
        rw [hE] at FLT BAD
        rw [hok] at ISL CHK
        simp only [Bool.false_eq_true, if_false] at CHK
        clear hok hE he hrd hle
        unfold Lw.val at *
        go_enter Tryd.func3, Tryd.ntmps3
        go_wp2_with fail
        have A1 := WL.start w l
        generalize World.alloc w _ = w1 at A1 ⊢
        obtain ⟨k0, k1, k2, k3⟩ := WL.at A1
        go_wp2_with fail
        refine (LAW.out w1).mono ?_
        rintro e w2 ⟨rfl, hb⟩
        have A2 := WL.lo A1 hb
        clear hb A1 k0 k1 k2 k3
        go_wp2_with fail
        refine (CHK.out w2).mono ?_
        rintro e w3 ⟨rfl, hb⟩
        have A3 := WL.lo A2 hb
        clear hb A2
        obtain ⟨k0, k1, k2, k3⟩ := WL.at A3
        go_wp2_with fail
        refine (LAW.out w3).mono ?_
        rintro e w4 ⟨rfl, hb⟩
        have A4 := WL.lo A3 hb
        clear hb A3 k0 k1 k2 k3
        go_wp2_with fail
        refine (LST.out w4 (HS.out.lo A4.out.bl)).mono ?_
        rintro e w5 ⟨v, rfl, ho, hb⟩
        obtain ⟨va, vc, rfl⟩ := own_len ho
        have A5 := WL.lo A4 hb
        have S5 := Lib.hid (own_ballsAt ho)
        clear hb ho A4
        go_wp2_with fail
        refine (BAD.out va vc w5).mono ?_
        rintro e w6 ⟨rfl, hb⟩
        have A6 := WL.lo A5 hb
        clear hb A5 S5
        obtain ⟨k0, k1, k2, k3⟩ := WL.at A6
        go_wp2_with fail
        refine (ISL.out w6).mono ?_
        rintro e w7 ⟨rfl, hb⟩
        have A7 := WL.lo A6 hb
        clear hb A6 k0 k1 k2 k3
        obtain ⟨k0, k1, k2, k3⟩ := WL.at A7
        go_wp2_with fail
        refine (FLT.out w7 (HS.out.1.lo A7.out.bl)).mono ?_
        rintro e w8 ⟨rfl, hb⟩
        have A8 := WL.lo A7 hb
        clear hb A7 k0 k1 k2 k3
        go_wp2_with fail
        refine (WAK.out _ (HT.out.below A8.out.bl HT.out.pos)).mono ?_
        rintro e w9 ⟨rfl, hb⟩
        have BF := Lib.hid (A8.out.bl.trans (hb.mono A8.out.bl.size))
        clear hb
        go_wp2_with fail
        go_ret
        exact ⟨rfl, BF.out⟩
      · have hE : errS l bs.length = 3 := by
          unfold errS at he ⊢
          rw [hok] at he ⊢
          simp at he ⊢
          omega
        rw [hE] at FLT BAD
        rw [hok] at ISL CHK
        simp only [if_true] at CHK
        clear hok hE he hrd hle
        unfold Lw.val at *
        go_enter Tryd.func3, Tryd.ntmps3
        go_wp2_with fail
        have A1 := WL.start w l
        generalize World.alloc w _ = w1 at A1 ⊢
        obtain ⟨k0, k1, k2, k3⟩ := WL.at A1
        go_wp2_with fail
        refine (LAW.out w1).mono ?_
        rintro e w2 ⟨rfl, hb⟩
        have A2 := WL.lo A1 hb
        clear hb A1 k0 k1 k2 k3
        go_wp2_with fail
        refine (CHK.out w2).mono ?_
        rintro e w3 ⟨rfl, hb⟩
        have A3 := WL.lo A2 hb
        clear hb A2
        obtain ⟨k0, k1, k2, k3⟩ := WL.at A3
        go_wp2_with fail
        refine (LAW.out w3).mono ?_
        rintro e w4 ⟨rfl, hb⟩
        have A4 := WL.lo A3 hb
        clear hb A3 k0 k1 k2 k3
        go_wp2_with fail
        refine (LST.out w4 (HS.out.lo A4.out.bl)).mono ?_
        rintro e w5 ⟨v, rfl, ho, hb⟩
        obtain ⟨va, vc, rfl⟩ := own_len ho
        have A5 := WL.lo A4 hb
        have S5 := Lib.hid (own_ballsAt ho)
        clear hb ho A4
        go_wp2_with fail
        refine (BAD.out va vc w5).mono ?_
        rintro e w6 ⟨rfl, hb⟩
        have A6 := WL.lo A5 hb
        clear hb A5 S5
        obtain ⟨k0, k1, k2, k3⟩ := WL.at A6
        go_wp2_with fail
        refine (ISL.out w6).mono ?_
        rintro e w7 ⟨rfl, hb⟩
        have A7 := WL.lo A6 hb
        clear hb A6 k0 k1 k2 k3
        obtain ⟨k0, k1, k2, k3⟩ := WL.at A7
        go_wp2_with fail
        refine (FLT.out w7 (HS.out.1.lo A7.out.bl)).mono ?_
        rintro e w8 ⟨rfl, hb⟩
        have A8 := WL.lo A7 hb
        clear hb A7 k0 k1 k2 k3
        go_wp2_with fail
        refine (WAK.out _ (HT.out.below A8.out.bl HT.out.pos)).mono ?_
        rintro e w9 ⟨rfl, hb⟩
        have BF := Lib.hid (A8.out.bl.trans (hb.mono A8.out.bl.size))
        clear hb
        go_wp2_with fail
        go_ret
        exact ⟨rfl, BF.out⟩
    · have he0 : errS l bs.length = 0 := Classical.not_not.1 he
      have ok := (errS_zero he0).1
      have hok : okB l = true := by
        cases hb : okB l
        · simp [errS, hb] at he0
        · rfl
      have BAD := Lib.hid (fun v c w h => bad_fol l bs v c w he0 h _ (Lib.hid rfl))
      have PL := Lib.hid (fun W h => play_ref l bs a c W ok h hn)
      rw [hok] at ISL CHK
      simp only [if_true] at CHK
      by_cases hf : (fol l (rec0 l) bs).2 = bs.length
      · have hrd : rdE l bs = 0 := by simp [rdE, he0, hf]
        have hv : badV (fol l (rec0 l) bs) bs.length = 0 := by simp [badV, hf]
        have hE : badE (fol l (rec0 l) bs) bs.length = 7 := by simp [badE, hf]
        rw [hrd] at FLT
        rw [hv, hE] at BAD
        clear hok he he0 hf hrd hv hE hle PL
        unfold Lw.val at *
        go_enter Tryd.func3, Tryd.ntmps3
        go_wp2_with fail
        have A1 := WL.start w l
        generalize World.alloc w _ = w1 at A1 ⊢
        obtain ⟨k0, k1, k2, k3⟩ := WL.at A1
        go_wp2_with fail
        refine (LAW.out w1).mono ?_
        rintro e w2 ⟨rfl, hb⟩
        have A2 := WL.lo A1 hb
        clear hb A1 k0 k1 k2 k3
        go_wp2_with fail
        refine (CHK.out w2).mono ?_
        rintro e w3 ⟨rfl, hb⟩
        have A3 := WL.lo A2 hb
        clear hb A2
        obtain ⟨k0, k1, k2, k3⟩ := WL.at A3
        go_wp2_with fail
        refine (LAW.out w3).mono ?_
        rintro e w4 ⟨rfl, hb⟩
        have A4 := WL.lo A3 hb
        clear hb A3 k0 k1 k2 k3
        go_wp2_with fail
        refine (LST.out w4 (HS.out.lo A4.out.bl)).mono ?_
        rintro e w5 ⟨v, rfl, ho, hb⟩
        obtain ⟨va, vc, rfl⟩ := own_len ho
        have A5 := WL.lo A4 hb
        have S5 := Lib.hid (own_ballsAt ho)
        clear hb ho A4
        go_wp2_with fail
        refine (BAD.out va vc w5 S5.out).mono ?_
        rintro e w6 ⟨rfl, hb⟩
        have A6 := WL.lo A5 hb
        clear hb A5 S5
        obtain ⟨k0, k1, k2, k3⟩ := WL.at A6
        go_wp2_with fail
        refine (ISL.out w6).mono ?_
        rintro e w7 ⟨rfl, hb⟩
        have A7 := WL.lo A6 hb
        clear hb A6 k0 k1 k2 k3
        obtain ⟨k0, k1, k2, k3⟩ := WL.at A7
        go_wp2_with fail
        refine (FLT.out w7 (HS.out.1.lo A7.out.bl)).mono ?_
        rintro e w8 ⟨rfl, hb⟩
        have A8 := WL.lo A7 hb
        clear hb A7 k0 k1 k2 k3
        go_wp2_with fail
        refine (WAK.out _ (HT.out.below A8.out.bl HT.out.pos)).mono ?_
        rintro e w9 ⟨rfl, hb⟩
        have BF := Lib.hid (A8.out.bl.trans (hb.mono A8.out.bl.size))
        clear hb
        go_wp2_with fail
        go_ret
        exact ⟨rfl, BF.out⟩
      · have hrd : rdE l bs = 10 := by
          have : (fol l (rec0 l) bs).2 < bs.length := by omega
          simp [rdE, he0, this]
        have hv : badV (fol l (rec0 l) bs) bs.length = ((fol l (rec0 l) bs).2 : Int) := by simp [badV, hf]
        have hE : badE (fol l (rec0 l) bs) bs.length = 0 := by simp [badE, hf]
        rw [hrd] at FLT
        rw [hv, hE] at BAD
        have hpf := (play_fol l bs (rec0 l)).1
        obtain ⟨N, hN⟩ : ∃ N, (fol l (rec0 l) bs).2 = N := ⟨_, rfl⟩
        rw [hN] at BAD hpf
        have e0 : (rec0 l).s = begS l := rfl
        rw [e0] at hpf
        rw [← hpf] at PL
        obtain ⟨t, ht⟩ : ∃ t, refS l (playS l (begS l) bs) = t := ⟨_, rfl⟩
        rw [ht] at PL
        clear hok he he0 hf hrd hv hE hle hN hpf e0 ht
        unfold Lw.val St.val at *
        go_enter Tryd.func3, Tryd.ntmps3
        go_wp2_with fail
        have A1 := WL.start w l
        generalize World.alloc w _ = w1 at A1 ⊢
        obtain ⟨k0, k1, k2, k3⟩ := WL.at A1
        go_wp2_with fail
        refine (LAW.out w1).mono ?_
        rintro e w2 ⟨rfl, hb⟩
        have A2 := WL.lo A1 hb
        clear hb A1 k0 k1 k2 k3
        go_wp2_with fail
        refine (CHK.out w2).mono ?_
        rintro e w3 ⟨rfl, hb⟩
        have A3 := WL.lo A2 hb
        clear hb A2
        obtain ⟨k0, k1, k2, k3⟩ := WL.at A3
        go_wp2_with fail
        refine (LAW.out w3).mono ?_
        rintro e w4 ⟨rfl, hb⟩
        have A4 := WL.lo A3 hb
        clear hb A3 k0 k1 k2 k3
        go_wp2_with fail
        refine (LST.out w4 (HS.out.lo A4.out.bl)).mono ?_
        rintro e w5 ⟨v, rfl, ho, hb⟩
        obtain ⟨va, vc, rfl⟩ := own_len ho
        have A5 := WL.lo A4 hb
        have S5 := Lib.hid (own_ballsAt ho)
        clear hb ho A4
        go_wp2_with fail
        refine (BAD.out va vc w5 S5.out).mono ?_
        rintro e w6 ⟨rfl, hb⟩
        have A6 := WL.lo A5 hb
        clear hb A5 S5
        obtain ⟨k0, k1, k2, k3⟩ := WL.at A6
        go_wp2_with fail
        refine (ISL.out w6).mono ?_
        rintro e w7 ⟨rfl, hb⟩
        have A7 := WL.lo A6 hb
        clear hb A6 k0 k1 k2 k3
        obtain ⟨k0, k1, k2, k3⟩ := WL.at A7
        go_wp2_with fail
        refine (FLT.out w7 (HS.out.1.lo A7.out.bl)).mono ?_
        rintro e w8 ⟨rfl, hb⟩
        have A8 := WL.lo A7 hb
        clear hb A7 k0 k1 k2 k3
        obtain ⟨k0, k1, k2, k3⟩ := WL.at A8
        go_wp2_with fail
        refine (PL.out w8 (HS.out.1.lo A8.out.bl)).mono ?_
        rintro e w9 ⟨v, rfl, ⟨base, ho, hb0⟩, hb⟩
        obtain ⟨pa, pc, rfl⟩ : ∃ pa pc, v = .slice pa N pc := by
          rcases ho.2 with ⟨h1, h0⟩ | ⟨g, cap, cur, hv, _⟩
          · exact ⟨none, 0, by rw [h1, h0]⟩
          · exact ⟨_, _, hv⟩
        have A9 := WL.al (WL.lo A8 hb) (.cells #[.int .i64 t.f, .int .i64 t.b, .int .i64 t.s, .bool t.set, .int .i64 t.has] 36)
        clear hb ho hb0 A8 k0 k1 k2 k3
        go_wp2_with fail
        refine (WAK.out _ (HT.out.below A9.out.bl HT.out.pos)).mono ?_
        rintro e w10 ⟨rfl, hb⟩
        have BF := Lib.hid (A9.out.bl.trans (hb.mono A9.out.bl.size))
        clear hb
        go_wp2_with fail
        go_ret
        exact ⟨rfl, BF.out⟩
  · have hgt : (45 : Int) < (bs.length : Int) := by omega
    unfold Lw.val
    go_enter Tryd.func3, Tryd.ntmps3
    go_wp2_with fail
    have A1 := WL.start w l
    generalize World.alloc w _ = w1 at A1 ⊢
    go_wp2_with fail
    refine (WAK.out _ (HT.out.below A1.out.bl HT.out.pos)).mono ?_
    rintro e w2 ⟨rfl, hb⟩
    have BF := Lib.hid (A1.out.bl.trans (hb.mono A1.out.bl.size))
    clear hb
    go_wp2_with fail
    go_ret
    exact ⟨rfl, BF.out⟩

end Go.Proofs.YtmjbidnlknmcgaaDoor
