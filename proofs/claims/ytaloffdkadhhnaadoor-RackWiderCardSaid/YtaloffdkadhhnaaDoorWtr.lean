/- The walk of RackTruth. -/
import Derived.Test.YtaloffdkadhhnaaDoorRt
set_option linter.unusedVariables false
set_option linter.unusedSimpArgs false
namespace Go.Proofs.YtaloffdkadhhnaaDoor
open Go.RowKit

attribute [local go_sem] Oper.semAt_some

def TwoP (S M : List Int) (w : World) (e : Ending) (w' : World) : Prop :=
  ∃ a1 c1 a2 c2, e = .returned (.tuple #[.slice a1 S.length c1, .slice a2 M.length c2, .int .i64 0]) ∧ IntsAt w' a1 S ∧ IntsAt w' a2 M ∧ Below w.heap.size w w'
def HitQ (HL : List Int) (w : World) (e : Ending) (w' : World) : Prop := ∃ a c, e = .returned (.tuple #[.slice a HL.length c, .int .i64 0]) ∧ IntsAt w' a HL ∧ Below w.heap.size w w' ∧ (a = none → HL = [] ∧ c = 0)
theorem FsPost.two {r : Rk} {xs : List Int} {ball : List Rg} {w w' : World} {e : Ending} {v1 v2 : Value} (h : FsPost r xs ball w e w' v1 v2) (h0 : balE r xs ball = 0) : TwoP (els (sureN r ball (setN xs))) (els (dif (setN xs) (stayN r ball (setN xs)))) w e w' := by
  obtain ⟨h1, h2, h3, h4⟩ := h
  rw [if_pos h0] at h2 h3
  rw [h0] at h1
  obtain ⟨a, c, rfl, h2⟩ := h2
  obtain ⟨a', c', rfl, h3⟩ := h3
  exact ⟨a, c, a', c', h1, h2, h3, h4⟩

set_option maxRecDepth 100000 in
set_option maxHeartbeats 8000000 in
theorem rackTruth_any (r : Rk) (xs : List Int) (a : Option Addr) (c : Nat) (ball : List Rg) (a2 : Option Addr) (c2 : Nat) (ws : List Int) (a3 : Option Addr) (c3 : Nat) (w : World)
    (hL : LinksAt w r.la r.ls) (hX : IntsAt w a xs) (hN : a = none → xs = [] ∧ c = 0) (hG : RgsAt w a2 ball) (hW : WordsAt w a3 ws ∧ (ws.length : Int) ≤ 9223372036854775807) (hT : TabOK w) :
    Calls Tryd.prog 8 #[r.val, .slice a xs.length c, .slice a2 ball.length c2, .slice a3 ws.length c3] w fun e w' => e = .returned (.bool true) ∧ Below w.heap.size w w' := by
  have RD := Lib.hid (fun W (hb : Below w.heap.size w W) => ready_any r xs a c ball a2 c2 W (hL.lo hb) (hX.lo hb) (hG.lower hb))
  have AW := Lib.hid (fun W (hb : Below w.heap.size w W) => awake_any W (hT.lo hb))
  have S0 := Lib.hid (St.start r w)
  unfold rCells at S0
  by_cases hrd : readyB r xs ball = true
  · have hth : thinB r xs.length ball.length = true := by unfold readyB at hrd; simp at hrd; exact hrd.1
    have hbal : balE r xs ball = 0 := by unfold readyB at hrd; simp at hrd; exact hrd.2
    obtain ⟨b1, b2, b3⟩ := thin_bd hth
    obtain ⟨hck, hb4, hbw⟩ := bal_ok hbal
    have HX := Lib.hid hX
    rw [hrd] at RD
    have htr := picked_truth ws hbal
    obtain ⟨q1, q2, q3, q4, q5, q6⟩ := truth_all hbal htr
    obtain ⟨e1, l1⟩ := hitL_ok hbal htr
    rw [← l1] at q1 q2 q3 q4 q5 q6
    have hle1 : (els (hitB r (pickBs ball ws ball.length) (pickCs r.ls ws r.ls.length) (setN xs))).length ≤ 16 := els_len
    rw [← l1] at hle1
    have hbl := pickBs_len ball ws ball.length
    have hcl := pickCs_len r.ls ws r.ls.length
    have PK := Lib.hid (fun W (hb : Below w.heap.size w W) => picked_any r ball a2 c2 ws a3 c3 W (hL.lo hb) (by omega) (hG.lower hb) (by omega) hbw (hW.1.lo hb) hW.2)
    have RA := Lib.hid (fun W (hb : Below w.heap.size w W) => lawRack_any r W (hL.lo hb) (by omega))
    have LX := Lib.hid (fun W (hb : Below w.heap.size w W) => lawints_any xs a c W (hX.lo hb) hN (by omega))
    have BA := Lib.hid (fun W (hb : Below w.heap.size w W) => lawBall_any ball a2 c2 W (hG.lower hb) (by omega))
    have L32 := Lib.hid (fun (ys zs : List Int) => fun b d e f W h1 h2 h3 h4 => left2_any ys zs b d e f W h1 h2 h3 h4)
    generalize pickBs ball ws ball.length = BS at *
    generalize pickCs r.ls ws r.ls.length = CS at *
    have H1 := Lib.hid (fun W a' c' aX cX aG cG aB cB aC cC (hb : Below w.heap.size w W) (g1 : LinksAt W a' r.ls) (g2 : ∀ g o, a' = some ⟨g, o, none⟩ → g < W.heap.size) (g3 : IntsAt W aX xs) (g4 : RgsAt W aG ball) (g5 : IntsAt W aB BS) (g6 : BoolsAt W aC CS) =>
      show Calls Tryd.prog 27 #[.agg #[.int .i64 r.rows, .int .i64 r.mid, .int .i64 r.gap, .int .i64 r.reach, .slice a' r.ls.length c'], .slice aX xs.length cX, .slice aG ball.length cG, .slice aB BS.length cB, .slice aC CS.length cC] W (HitQ (hitL r xs ball BS CS) W) from (Hit_any (r.at a' c') xs aX cX ball aG cG BS aB cB CS aC cC W g1 (show r.ls.length ≤ 1000 by omega) g2 g3 (by omega) g4 (by omega) g5 (by omega) g6 (by omega) (hT.lo hb)).mono fun e w' h => by
        obtain ⟨a, c, h1, h2⟩ := h
        have e0 : hitE (r.at a' c') xs ball BS CS = 0 := e1
        rw [e0] at h1
        exact ⟨a, c, h1, h2⟩)
    have FA := Lib.hid (fun W a' c' aX cX aG cG (hb : Below w.heap.size w W) (g1 : LinksAt W a' r.ls) (g2 : ∀ g o, a' = some ⟨g, o, none⟩ → g < W.heap.size) (g3 : IntsAt W aX xs) (g4 : RgsAt W aG ball) (g5 : ∀ g o, aG = some ⟨g, o, none⟩ → g < W.heap.size) =>
      show Calls Tryd.prog 35 #[.agg #[.int .i64 r.rows, .int .i64 r.mid, .int .i64 r.gap, .int .i64 r.reach, .slice a' r.ls.length c'], .slice aX xs.length cX, .slice aG ball.length cG] W (TwoP (els (sureN r ball (setN xs))) (els (dif (setN xs) (stayN r ball (setN xs)))) W) from
        (Falls_any (r.at a' c') xs aX cX ball aG cG W g1 (show r.ls.length ≤ 1000 by omega) g2 g3 (by omega) g4 (by omega) g5 (hT.lo hb)).mono fun e w' ⟨v1, v2, h⟩ => h.two hbal)
    have LF := Lib.hid (fun W a' c' aX cX aG cG (hb : Below w.heap.size w W) (g1 : LinksAt W a' r.ls) (g2 : ∀ g o, a' = some ⟨g, o, none⟩ → g < W.heap.size) (g3 : IntsAt W aX xs) (g4 : RgsAt W aG ball) (g5 : ∀ g o, aG = some ⟨g, o, none⟩ → g < W.heap.size) =>
      show Calls Tryd.prog 36 #[.agg #[.int .i64 r.rows, .int .i64 r.mid, .int .i64 r.gap, .int .i64 r.reach, .slice a' r.ls.length c'], .slice aX xs.length cX, .slice aG ball.length cG] W (fun e w' => e = .returned (.tuple #[.agg #[.int .i64 (lowN r ball (setN xs) xs.length), .int .i64 (topN r ball (setN xs))], .int .i64 0]) ∧ Below W.heap.size W w') from
        (Left_any (r.at a' c') xs aX cX ball aG cG W g1 (show r.ls.length ≤ 1000 by omega) g2 g3 (by omega) g4 (by omega) g5 (hT.lo hb)).mono fun e w' h => by
          obtain ⟨h1, h2⟩ := h
          have e0 : balE (r.at a' c') xs ball = 0 := hbal
          have e1 : lefV (r.at a' c') xs ball = ⟨lowN r ball (setN xs) xs.length, topN r ball (setN xs)⟩ := if_pos hbal
          rw [e0, e1] at h1
          exact ⟨h1, h2⟩)
    generalize hitL r xs ball BS CS = HL at *
    have CL := Lib.hid (fun W a' c' aX cX aG cG aV cV (hb : Below w.heap.size w W) (g1 : LinksAt W a' r.ls) (g2 : ∀ g o, a' = some ⟨g, o, none⟩ → g < W.heap.size) (g3 : IntsAt W aX xs) (g4 : RgsAt W aG ball) (g5 : ∀ g o, aG = some ⟨g, o, none⟩ → g < W.heap.size) (g6 : IntsAt W aV HL) =>
      show Calls Tryd.prog 37 #[.agg #[.int .i64 r.rows, .int .i64 r.mid, .int .i64 r.gap, .int .i64 r.reach, .slice a' r.ls.length c'], .slice aX xs.length cX, .slice aG ball.length cG, .slice aV HL.length cV] W (fun e w' => e = .returned (.bool true) ∧ Below W.heap.size W w') from
        (CanLeave_any (r.at a' c') xs aX cX ball aG cG HL aV cV W g1 (show r.ls.length ≤ 1000 by omega) g2 g3 (by omega) g4 (by omega) g5 g6 (by omega) (hT.lo hb)).mono fun e w' h => by
          have e0 : canB (r.at a' c') xs ball HL = true := q4
          rw [e0] at h; exact h)
    have hSl : (els (sureN r ball (setN xs))).length ≤ 16 := els_len
    have hMl : (els (dif (setN xs) (stayN r ball (setN xs)))).length ≤ 16 := els_len
    generalize els (sureN r ball (setN xs)) = SU at *
    generalize els (dif (setN xs) (stayN r ball (setN xs))) = MA at *
    generalize lowN r ball (setN xs) xs.length = LO at *
    generalize topN r ball (setN xs) = HI at *
    have WI1 := Lib.hid q1
    have WI5 := Lib.hid q5
    have WI6 := Lib.hid q6
    have HL1 := Lib.hid hle1
    have HX15 := Lib.hid b2
    have HLN := Lib.hid (show SU.length ≤ 1000 ∧ MA.length ≤ 1000 by omega)
    have hz1 : ¬ (HL.length : Int) < LO := by omega
    have hz2 : ¬ HI < (HL.length : Int) := by omega
    clear htr hle1 hbl hcl l1 hL hX hN hG hW hT hbal hck hb4 hbw hth hrd b1 b2 b3 q1 q2 q3 q4 q5 q6 hSl hMl
    clear e1
    unfold Rk.val at *
    go_enter Tryd.func8, Tryd.ntmps8
    go_wp2_with fail
    refine (RD.out _ S0.out.bl).mono ?_
    rintro e w1 ⟨rfl, hb⟩
    have S_1 := Lib.hid (S0.out.go hb)
    clear hb S0
    obtain ⟨r0, r1, r2, r3, r4⟩ := S_1.out.c
    go_wp2_with fail
    refine (PK.out _ S_1.out.bl).mono ?_
    rintro e w2 ⟨aB, cB, aC, cC, rfl, hiB, hnB, hiC, hnC, hb⟩
    have S_2 := Lib.hid (S_1.out.go hb)
    clear hb S_1 hnB hnC r0 r1 r2 r3 r4
    have IB_2 := Lib.hid hiB
    have IC_2 := Lib.hid hiC
    clear hiB hiC
    obtain ⟨r0, r1, r2, r3, r4⟩ := S_2.out.c
    go_wp2_with fail
    refine (RA.out _ S_2.out.bl).mono ?_
    rintro e w3 ⟨aR3, cR3, rfl, hl, hg, hb⟩
    have S_3 := Lib.hid (S_2.out.go hb)
    have IB_3 := Lib.hid (IB_2.out.lo hb)
    have IC_3 := Lib.hid (IC_2.out.lo hb)
    clear hb S_2 IB_2 IC_2 r0 r1 r2 r3 r4
    have L_3 := Lib.hid hl
    have G_3 := Lib.hid hg
    clear hl hg
    unfold Rk.val
    go_wp2_with fail
    refine (LX.out _ S_3.out.bl).mono ?_
    rintro e w4 ⟨aX4, cX4, rfl, hi, hb⟩
    have S_4 := Lib.hid (S_3.out.go hb)
    have IB_4 := Lib.hid (IB_3.out.lo hb)
    have IC_4 := Lib.hid (IC_3.out.lo hb)
    have L_4 := Lib.hid (L_3.out.lo hb)
    have G_4 := Lib.hid (fun g o e => Nat.lt_of_lt_of_le (G_3.out g o e) hb.size)
    clear hb S_3 IB_3 IC_3 L_3 G_3
    have X_4 := Lib.hid hi
    clear hi
    go_wp2_with fail
    refine (BA.out _ S_4.out.bl).mono ?_
    rintro e w5 ⟨aG5, cG5, rfl, hr, hga, hb⟩
    have S_5 := Lib.hid (S_4.out.go hb)
    have IB_5 := Lib.hid (IB_4.out.lo hb)
    have IC_5 := Lib.hid (IC_4.out.lo hb)
    have L_5 := Lib.hid (L_4.out.lo hb)
    have G_5 := Lib.hid (fun g o e => Nat.lt_of_lt_of_le (G_4.out g o e) hb.size)
    have X_5 := Lib.hid (X_4.out.lo hb)
    clear hb S_4 IB_4 IC_4 L_4 G_4 X_4
    have R_5 := Lib.hid hr
    have GG_5 := Lib.hid hga
    clear hr hga
    go_wp2_with fail
    refine (H1.out w5 aR3 cR3 aX4 cX4 aG5 cG5 aB cB aC cC S_5.out.bl L_5.out G_5.out X_5.out R_5.out IB_5.out IC_5.out).mono ?_
    rintro e w6 ⟨aV, cV, rfl, hi, hb, hnV⟩
    have S_6 := Lib.hid (S_5.out.go hb)
    clear hb S_5 IB_5 IC_5 L_5 G_5 X_5 R_5 GG_5 H1
    have V_6 := Lib.hid hi
    have NV := Lib.hid hnV
    clear hi hnV
    obtain ⟨r0, r1, r2, r3, r4⟩ := S_6.out.c
    go_wp2_with fail
    refine (RA.out _ S_6.out.bl).mono ?_
    rintro e w7 ⟨aR7, cR7, rfl, hl, hg, hb⟩
    have S_7 := Lib.hid (S_6.out.go hb)
    have V_7 := Lib.hid (V_6.out.lo hb)
    clear hb S_6 V_6 r0 r1 r2 r3 r4
    have L_7 := Lib.hid hl
    have G_7 := Lib.hid hg
    clear hl hg
    unfold Rk.val
    go_wp2_with fail
    refine (LX.out _ S_7.out.bl).mono ?_
    rintro e w8 ⟨aX8, cX8, rfl, hi, hb⟩
    have S_8 := Lib.hid (S_7.out.go hb)
    have V_8 := Lib.hid (V_7.out.lo hb)
    have L_8 := Lib.hid (L_7.out.lo hb)
    have G_8 := Lib.hid (fun g o e => Nat.lt_of_lt_of_le (G_7.out g o e) hb.size)
    clear hb S_7 V_7 L_7 G_7
    have X_8 := Lib.hid hi
    clear hi
    go_wp2_with fail
    refine (BA.out _ S_8.out.bl).mono ?_
    rintro e w9 ⟨aG9, cG9, rfl, hr, hga, hb⟩
    have S_9 := Lib.hid (S_8.out.go hb)
    have V_9 := Lib.hid (V_8.out.lo hb)
    have L_9 := Lib.hid (L_8.out.lo hb)
    have G_9 := Lib.hid (fun g o e => Nat.lt_of_lt_of_le (G_8.out g o e) hb.size)
    have X_9 := Lib.hid (X_8.out.lo hb)
    clear hb S_8 V_8 L_8 G_8 X_8
    have R_9 := Lib.hid hr
    have GG_9 := Lib.hid hga
    clear hr hga
    go_wp2_with fail
    refine (FA.out w9 aR7 cR7 aX8 cX8 aG9 cG9 S_9.out.bl L_9.out G_9.out X_9.out R_9.out GG_9.out).mono ?_
    rintro e w10 ⟨aS, cS, aM, cM, rfl, hi, hi2, hb⟩
    have S_10 := Lib.hid (S_9.out.go hb)
    have V_10 := Lib.hid (V_9.out.lo hb)
    clear hb S_9 V_9 L_9 G_9 X_9 R_9 GG_9 FA
    have SU_10 := Lib.hid hi
    have MA_10 := Lib.hid hi2
    clear hi hi2
    obtain ⟨r0, r1, r2, r3, r4⟩ := S_10.out.c
    go_wp2_with fail
    refine (RA.out _ S_10.out.bl).mono ?_
    rintro e w11 ⟨aR11, cR11, rfl, hl, hg, hb⟩
    have S_11 := Lib.hid (S_10.out.go hb)
    have V_11 := Lib.hid (V_10.out.lo hb)
    have SU_11 := Lib.hid (SU_10.out.lo hb)
    have MA_11 := Lib.hid (MA_10.out.lo hb)
    clear hb S_10 V_10 SU_10 MA_10 r0 r1 r2 r3 r4
    have L_11 := Lib.hid hl
    have G_11 := Lib.hid hg
    clear hl hg
    unfold Rk.val
    go_wp2_with fail
    refine (LX.out _ S_11.out.bl).mono ?_
    rintro e w12 ⟨aX12, cX12, rfl, hi, hb⟩
    have S_12 := Lib.hid (S_11.out.go hb)
    have V_12 := Lib.hid (V_11.out.lo hb)
    have SU_12 := Lib.hid (SU_11.out.lo hb)
    have MA_12 := Lib.hid (MA_11.out.lo hb)
    have L_12 := Lib.hid (L_11.out.lo hb)
    have G_12 := Lib.hid (fun g o e => Nat.lt_of_lt_of_le (G_11.out g o e) hb.size)
    clear hb S_11 V_11 SU_11 MA_11 L_11 G_11
    have X_12 := Lib.hid hi
    clear hi
    go_wp2_with fail
    refine (BA.out _ S_12.out.bl).mono ?_
    rintro e w13 ⟨aG13, cG13, rfl, hr, hga, hb⟩
    have S_13 := Lib.hid (S_12.out.go hb)
    have V_13 := Lib.hid (V_12.out.lo hb)
    have SU_13 := Lib.hid (SU_12.out.lo hb)
    have MA_13 := Lib.hid (MA_12.out.lo hb)
    have L_13 := Lib.hid (L_12.out.lo hb)
    have G_13 := Lib.hid (fun g o e => Nat.lt_of_lt_of_le (G_12.out g o e) hb.size)
    have X_13 := Lib.hid (X_12.out.lo hb)
    clear hb S_12 V_12 SU_12 MA_12 L_12 G_12 X_12
    have R_13 := Lib.hid hr
    have GG_13 := Lib.hid hga
    clear hr hga
    go_wp2_with fail
    refine (LF.out w13 aR11 cR11 aX12 cX12 aG13 cG13 S_13.out.bl L_13.out G_13.out X_13.out R_13.out GG_13.out).mono ?_
    rintro e w14 ⟨rfl, hb⟩
    have S_14 := Lib.hid (S_13.out.go hb)
    have V_14 := Lib.hid (V_13.out.lo hb)
    have SU_14 := Lib.hid (SU_13.out.lo hb)
    have MA_14 := Lib.hid (MA_13.out.lo hb)
    clear hb S_13 V_13 SU_13 MA_13 L_13 G_13 X_13 R_13 GG_13 LF
    go_wp2_with fail
    generalize hw15 : w14.alloc (.cells #[.int .i64 LO, .int .i64 HI] 63) = w15
    have hb : Below w14.heap.size w14 w15 := by rw [← hw15]; exact below_al _ _
    have m0 : w15.cell? ⟨w14.heap.size, 0, none⟩ = some (.int .i64 LO) := by rw [← hw15]; exact (Blk.new _ _ _).cell 0 rfl
    have m1 : w15.cell? ⟨w14.heap.size, 1, none⟩ = some (.int .i64 HI) := by rw [← hw15]; exact (Blk.new _ _ _).cell 1 rfl
    have S_15 := Lib.hid (S_14.out.go hb)
    have V_15 := Lib.hid (V_14.out.lo hb)
    have SU_15 := Lib.hid (SU_14.out.lo hb)
    have MA_15 := Lib.hid (MA_14.out.lo hb)
    clear hb S_14 V_14 SU_14 MA_14 hw15
    have HXX := Lib.hid (HX.out.lo S_15.out.bl)
    have hwi := within2_any HL xs aV a cV c w15 V_15.out HXX.out (by have := HL1.out; omega) (by have := HX15.out; omega)
    rw [WI1.out] at hwi
    refine hwi.mono ?_
    rintro e xa ⟨rfl, rfl⟩
    clear hwi
    obtain ⟨r0, r1, r2, r3, r4⟩ := S_15.out.c
    go_wp2_with fail
    clear m0 m1
    refine (RA.out _ S_15.out.bl).mono ?_
    rintro e w16 ⟨aR16, cR16, rfl, hl, hg, hb⟩
    have S_16 := Lib.hid (S_15.out.go hb)
    have V_16 := Lib.hid (V_15.out.lo hb)
    have SU_16 := Lib.hid (SU_15.out.lo hb)
    have MA_16 := Lib.hid (MA_15.out.lo hb)
    clear hb S_15 V_15 SU_15 MA_15 r0 r1 r2 r3 r4
    have L_16 := Lib.hid hl
    have G_16 := Lib.hid hg
    clear hl hg
    unfold Rk.val
    go_wp2_with fail
    refine (LX.out _ S_16.out.bl).mono ?_
    rintro e w17 ⟨aX17, cX17, rfl, hi, hb⟩
    have S_17 := Lib.hid (S_16.out.go hb)
    have V_17 := Lib.hid (V_16.out.lo hb)
    have SU_17 := Lib.hid (SU_16.out.lo hb)
    have MA_17 := Lib.hid (MA_16.out.lo hb)
    have L_17 := Lib.hid (L_16.out.lo hb)
    have G_17 := Lib.hid (fun g o e => Nat.lt_of_lt_of_le (G_16.out g o e) hb.size)
    clear hb S_16 V_16 SU_16 MA_16 L_16 G_16
    have X_17 := Lib.hid hi
    clear hi
    go_wp2_with fail
    refine (BA.out _ S_17.out.bl).mono ?_
    rintro e w18 ⟨aG18, cG18, rfl, hr, hga, hb⟩
    have S_18 := Lib.hid (S_17.out.go hb)
    have V_18 := Lib.hid (V_17.out.lo hb)
    have SU_18 := Lib.hid (SU_17.out.lo hb)
    have MA_18 := Lib.hid (MA_17.out.lo hb)
    have L_18 := Lib.hid (L_17.out.lo hb)
    have G_18 := Lib.hid (fun g o e => Nat.lt_of_lt_of_le (G_17.out g o e) hb.size)
    have X_18 := Lib.hid (X_17.out.lo hb)
    clear hb S_17 V_17 SU_17 MA_17 L_17 G_17 X_17
    have R_18 := Lib.hid hr
    have GG_18 := Lib.hid hga
    clear hr hga
    go_wp2_with fail
    refine (lawints_any HL aV cV w18 V_18.out NV.out (by have := HL1.out; omega)).mono ?_
    rintro e w19 ⟨aY, cY, rfl, hi, hb⟩
    have S_19 := Lib.hid (S_18.out.go hb)
    have V_19 := Lib.hid (V_18.out.lo hb)
    have SU_19 := Lib.hid (SU_18.out.lo hb)
    have MA_19 := Lib.hid (MA_18.out.lo hb)
    have L_19 := Lib.hid (L_18.out.lo hb)
    have G_19 := Lib.hid (fun g o e => Nat.lt_of_lt_of_le (G_18.out g o e) hb.size)
    have X_19 := Lib.hid (X_18.out.lo hb)
    have R_19 := Lib.hid (R_18.out.lower hb)
    have GG_19 := Lib.hid (fun g o e => Nat.lt_of_lt_of_le (GG_18.out g o e) hb.size)
    clear hb S_18 V_18 SU_18 MA_18 L_18 G_18 X_18 R_18 GG_18
    have Y_19 := Lib.hid hi
    clear hi
    go_wp2_with fail
    refine (CL.out w19 aR16 cR16 aX17 cX17 aG18 cG18 aY cY S_19.out.bl L_19.out G_19.out X_19.out R_19.out GG_19.out Y_19.out).mono ?_
    rintro e w20 ⟨rfl, hb⟩
    have S_20 := Lib.hid (S_19.out.go hb)
    have V_20 := Lib.hid (V_19.out.lo hb)
    have SU_20 := Lib.hid (SU_19.out.lo hb)
    have MA_20 := Lib.hid (MA_19.out.lo hb)
    clear hb S_19 V_19 SU_19 MA_19 L_19 G_19 X_19 R_19 GG_19 Y_19 CL
    go_wp2_with fail
    have HXY := Lib.hid (HX.out.lo S_20.out.bl)
    refine (L32.out xs HL a aV c cV w20 HXY.out V_20.out (by have := HX15.out; omega) (by have := HL1.out; omega)).mono ?_
    rintro e w21 ⟨aF, cF, rfl, hi, hn, hb⟩
    have S_21 := Lib.hid (S_20.out.go hb)
    have SU_21 := Lib.hid (SU_20.out.lo hb)
    have MA_21 := Lib.hid (MA_20.out.lo hb)
    clear hb S_20 V_20 SU_20 MA_20 hn HXX HXY
    have F_21 := Lib.hid hi
    clear hi
    have N1 := Lib.hid (show (leftL xs HL).length ≤ 1000 by have := leftL_len xs HL; have := HX15.out; omega)
    generalize leftL xs HL = FE at *
    go_wp2_with fail
    have hwi := within2_any SU FE aS aF cS cF w21 SU_21.out F_21.out HLN.out.1 N1.out
    rw [WI5.out] at hwi
    refine hwi.mono ?_
    rintro e xa ⟨rfl, rfl⟩
    clear hwi
    go_wp2_with fail
    have hwi := within2_any FE MA aF aM cF cM w21 F_21.out MA_21.out N1.out HLN.out.2
    rw [WI6.out] at hwi
    refine hwi.mono ?_
    rintro e xa ⟨rfl, rfl⟩
    clear hwi
    go_wp2_with fail
    refine (AW.out _ S_21.out.bl).mono ?_
    rintro e w22 ⟨rfl, hb⟩
    have S_22 := Lib.hid (S_21.out.go hb)
    have SU_22 := Lib.hid (SU_21.out.lo hb)
    have MA_22 := Lib.hid (MA_21.out.lo hb)
    have F_22 := Lib.hid (F_21.out.lo hb)
    clear hb S_21 SU_21 MA_21 F_21
    go_wp2_with fail
    go_returns
    exact ⟨rfl, S_22.out.bl⟩
  · have hrd' : readyB r xs ball = false := by simpa using hrd
    rw [hrd'] at RD
    clear hrd hrd' hL hX hN hG hW hT
    unfold Rk.val at *
    go_enter Tryd.func8, Tryd.ntmps8
    go_wp2_with fail
    refine (RD.out _ S0.out.bl).mono ?_
    rintro e w1 ⟨rfl, hb⟩
    have S1 := Lib.hid (S0.out.go hb)
    clear hb S0
    go_wp2_with fail
    refine (AW.out _ S1.out.bl).mono ?_
    rintro e w3 ⟨rfl, hb⟩
    have S3 := Lib.hid (S1.out.go hb)
    clear hb S1
    go_wp2_with fail
    go_returns
    exact ⟨rfl, S3.out.bl⟩

end Go.Proofs.YtaloffdkadhhnaaDoor
