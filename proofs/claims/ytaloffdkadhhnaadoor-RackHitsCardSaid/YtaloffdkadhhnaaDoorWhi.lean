/- The walk of RackHits. -/
import Derived.Test.YtaloffdkadhhnaaDoorGn
import Derived.Test.YtaloffdkadhhnaaDoorItr
import Derived.Test.YtaloffdkadhhnaaDoorWmo
import Derived.Test.YtaloffdkadhhnaaDoorGo
import Derived.Test.YtaloffdkadhhnaaDoorWcv
set_option linter.unusedVariables false
set_option linter.unusedSimpArgs false
namespace Go.Proofs.YtaloffdkadhhnaaDoor
open Go.RowKit

attribute [local go_sem] Oper.semAt_some

theorem left_eq {r : Rk} {xs : List Int} {ball : List Rg} {bs : List Int} {cs : List Bool} (hb : balE r xs ball = 0) (ht : truthB r ball bs cs = true) : leftL xs (els (falN r xs bs cs)) = els (hitB r bs cs (setN xs)) := by
  obtain ⟨hck, _, _⟩ := bal_ok hb
  obtain ⟨h1, h2, h3⟩ := chk_set hck
  have hx := hasL_out (chk_ok hck).2
  obtain ⟨e1, e2⟩ := fal_left (bs := bs) (cs := cs) (ls' := pickL (r.ls.zip cs)) (cb := fun _ => true) hck (fun l => by rw [pickL_mem]; simp) (car_ok (chk_ok hck).1 cs)
  have e3 : hitB r bs cs (setN xs) = dif (setN xs) (falN r xs bs cs) := e1.symm
  rw [e3]
  refine rise_ext (hx.1.filter _) (els_rise _) fun x => ?_
  unfold leftL
  rw [List.mem_filter, mem_els, dif_bit]
  constructor
  · rintro ⟨m1, m2⟩
    rw [← h3, mem_els] at m1
    refine ⟨m1.1, m1.2.1, ?_⟩
    rw [m1.2.2]
    cases hd : (falN r xs bs cs).testBit x.toNat
    · rfl
    · have : hasI (els (falN r xs bs cs)) x = true := hasI_iff.2 ((mem_els _ _).2 ⟨m1.1, m1.2.1, hd⟩)
      rw [this] at m2; cases m2
  · rintro ⟨m0, m1, m2⟩
    rw [Bool.and_eq_true] at m2
    refine ⟨by rw [← h3, mem_els]; exact ⟨m0, m1, m2.1⟩, ?_⟩
    cases hh : hasI (els (falN r xs bs cs)) x
    · rfl
    · have := ((mem_els _ _).1 (hasI_iff.1 hh)).2.2
      rw [this] at m2; simp at m2
theorem hit_off {r : Rk} {xs : List Int} {ball : List Rg} {bs : List Int} {cs : List Bool} (h : balE r xs ball ≠ 0) : hitE r xs ball bs cs = balE r xs ball ∧ hitL r xs ball bs cs = [] := by
  have e : hitE r xs ball bs cs = balE r xs ball := by unfold hitE; rw [if_neg h]
  exact ⟨e, by unfold hitL; rw [e, if_neg h]⟩
theorem hit_no {r : Rk} {xs : List Int} {ball : List Rg} {bs : List Int} {cs : List Bool} (h : balE r xs ball = 0) (ht : truthB r ball bs cs = false) : hitE r xs ball bs cs = 2 ∧ hitL r xs ball bs cs = [] := by
  have e : hitE r xs ball bs cs = 2 := by unfold hitE; rw [if_pos h, ht]; rfl
  exact ⟨e, by unfold hitL; rw [e]; rfl⟩
def HitQ2 (HL : List Int) (E : Int) (w : World) (e : Ending) (w' : World) : Prop := ∃ a c, e = .returned (.tuple #[.slice a HL.length c, .int .i64 E]) ∧ IntsAt w' a HL ∧ Below w.heap.size w w'

set_option maxRecDepth 100000 in
set_option maxHeartbeats 8000000 in
theorem rackHits_any (r : Rk) (xs : List Int) (a : Option Addr) (c : Nat) (ball : List Rg) (a2 : Option Addr) (c2 : Nat) (bs : List Int) (a3 : Option Addr) (c3 : Nat) (cs : List Bool) (a4 : Option Addr) (c4 : Nat) (w : World)
    (hL : LinksAt w r.la r.ls) (hX : IntsAt w a xs) (hN : a = none → xs = [] ∧ c = 0) (hG : RgsAt w a2 ball) (hB : IntsAt w a3 bs) (hBN : a3 = none → bs = [] ∧ c3 = 0) (hC : BoolsAt w a4 cs) (hCN : a4 = none → cs = [] ∧ c4 = 0) (hT : TabOK w) :
    Calls Tryd.prog 4 #[r.val, .slice a xs.length c, .slice a2 ball.length c2, .slice a3 bs.length c3, .slice a4 cs.length c4] w fun e w' => e = .returned (.bool true) ∧ Below w.heap.size w w' := by
  have TH := Lib.hid (fun W => thin_any r a a2 xs.length c ball.length c2 W)
  have AW := Lib.hid (fun W (hb : Below w.heap.size w W) => awake_any W (hT.lo hb))
  have S0 := Lib.hid (St.start r w)
  unfold rCells at S0
  by_cases hthin : thinB r xs.length ball.length = true
  · obtain ⟨b1, b2, b3⟩ := thin_bd hthin
    rw [hthin] at TH
    by_cases hb12 : bs.length ≤ 12
    · have hz12 : ¬ (12 : Int) < (bs.length : Int) := by omega
      by_cases hc20 : cs.length ≤ 20
      · have hz20 : ¬ (20 : Int) < (cs.length : Int) := by omega
        have HX := Lib.hid hX
        have TA := Lib.hid (fun W (hb : Below w.heap.size w W) => thrown2_any r xs a c ball a2 c2 W (hL.lo hb) (by omega) (hX.lo hb) (by omega) (hG.lower hb) (by omega))
        have RA := Lib.hid (fun W (hb : Below w.heap.size w W) => show Calls Tryd.prog 18 #[.agg #[.int .i64 r.rows, .int .i64 r.mid, .int .i64 r.gap, .int .i64 r.reach, .slice r.la r.ls.length r.lc]] W (NewRk2 r W) from (lawRack_any r W (hL.lo hb) (by omega)).mono fun e w' ⟨a, c, h⟩ => ⟨a, c, h⟩)
        have LX := Lib.hid (fun W (hb : Below w.heap.size w W) => lawints_any xs a c W (hX.lo hb) hN (by omega))
        have LB := Lib.hid (fun W (hb : Below w.heap.size w W) => lawints_any bs a3 c3 W (hB.lo hb) hBN (by omega))
        have RB := Lib.hid (fun W (hb : Below w.heap.size w W) => run_copy_bools cs a4 c4 W (hC.lo hb) hCN (by omega))
        have BA := Lib.hid (fun W (hb : Below w.heap.size w W) => lawBall_any ball a2 c2 W (hG.lower hb) (by omega))
        have H1 := Lib.hid (fun W a' c' aX cX aG cG aB cB aC cC (hb : Below w.heap.size w W) (g1 : LinksAt W a' r.ls) (g2 : ∀ g o, a' = some ⟨g, o, none⟩ → g < W.heap.size) (g3 : IntsAt W aX xs) (g4 : RgsAt W aG ball) (g5 : IntsAt W aB bs) (g6 : BoolsAt W aC cs) =>
          show Calls Tryd.prog 27 #[.agg #[.int .i64 r.rows, .int .i64 r.mid, .int .i64 r.gap, .int .i64 r.reach, .slice a' r.ls.length c'], .slice aX xs.length cX, .slice aG ball.length cG, .slice aB bs.length cB, .slice aC cs.length cC] W (HitQ2 (hitL r xs ball bs cs) (hitE r xs ball bs cs) W) from (Hit_any (r.at a' c') xs aX cX ball aG cG bs aB cB cs aC cC W g1 (show r.ls.length ≤ 1000 by omega) g2 g3 (by omega) g4 (by omega) g5 (by omega) g6 (by omega) (hT.lo hb)).mono fun e w' ⟨a, c, h1, h2, h3, _⟩ => ⟨a, c, h1, h2, h3⟩)
        have HH16 := Lib.hid (show (hitL r xs ball bs cs).length ≤ 16 by
          unfold hitL; split
          · exact els_len
          · simp)
        have HX15 := Lib.hid b2
        by_cases hE : balE r xs ball = 0
        · cases htr : truthB r ball bs cs
          · have HV := Lib.hid (hit_no (bs := bs) (cs := cs) hE htr)
            have IT := Lib.hid (fun W (hb : Below w.heap.size w W) => refTruth_any r ball a2 c2 bs a3 c3 cs a4 c4 W (ball_len hE) (hL.lo hb) (by omega) (hG.lower hb) (hB.lo hb) (hC.lo hb) (by omega) (by omega))
            rw [htr] at IT
            rw [HV.out.1, HV.out.2] at H1
            rw [hE] at TA
            have H1 := Lib.hid (show ∀ W a' c' aX cX aG cG aB cB aC cC, _ → _ → _ → _ → _ → _ → _ → Calls Tryd.prog 27 #[.agg #[.int .i64 r.rows, .int .i64 r.mid, .int .i64 r.gap, .int .i64 r.reach, .slice a' r.ls.length c'], .slice aX xs.length cX, .slice aG ball.length cG, .slice aB bs.length cB, .slice aC cs.length cC] W (HitQ2 [] 2 W) from H1.out)
            clear hL hX hN hG hB hBN hC hCN hT hE htr b1 b2 b3 hthin HV HH16 hb12 hc20
            unfold Rk.val at *
            go_enter Tryd.func4, Tryd.ntmps4
            go_wp2_with fail
            refine (TH.out _).mono ?_
            rintro e w1 ⟨rfl, hb⟩
            have S1 := Lib.hid (S0.out.go hb)
            obtain ⟨r0, r1, r2, r3, r4⟩ := S1.out.c
            clear hb S0
            go_wp2_with fail
            refine (RA.out _ S1.out.bl).mono ?_
            rintro e w2 ⟨aR, cR, rfl, hl, hg, hb⟩
            have S2 := Lib.hid (S1.out.go hb); have L2 := Lib.hid hl; have G2 := Lib.hid hg
            clear hb S1 hl hg r0 r1 r2 r3 r4
            go_wp2_with fail
            refine (LX.out _ S2.out.bl).mono ?_
            rintro e w3 ⟨aX, cX, rfl, hi, hb⟩
            have S3 := Lib.hid (S2.out.go hb)
            have L3 := Lib.hid (L2.out.lo hb); have G3 := Lib.hid (fun g o e => Nat.lt_of_lt_of_le (G2.out g o e) hb.size); have X3 := Lib.hid hi
            clear hb S2 hi L2 G2
            go_wp2_with fail
            refine (BA.out _ S3.out.bl).mono ?_
            rintro e w4 ⟨aG, cG, rfl, hr, hga, hb⟩
            have S4 := Lib.hid (S3.out.go hb)
            have L4 := Lib.hid (L3.out.lo hb); have G4 := Lib.hid (fun g o e => Nat.lt_of_lt_of_le (G3.out g o e) hb.size); have X4 := Lib.hid (X3.out.lo hb); have R4 := Lib.hid hr
            clear hb S3 hr hga L3 G3 X3
            go_wp2_with fail
            refine (LB.out _ S4.out.bl).mono ?_
            rintro e w5 ⟨aB, cB, rfl, hi, hb⟩
            have S5 := Lib.hid (S4.out.go hb)
            have L5 := Lib.hid (L4.out.lo hb); have G5 := Lib.hid (fun g o e => Nat.lt_of_lt_of_le (G4.out g o e) hb.size); have X5 := Lib.hid (X4.out.lo hb); have R5 := Lib.hid (R4.out.lower hb); have Y5 := Lib.hid hi
            clear hb S4 hi L4 G4 X4 R4
            obtain ⟨aC, cC, w6, hrun, hi, hb⟩ := RB.out w5 S5.out.bl
            have HR6 := Lib.hid hrun
            have S6 := Lib.hid (S5.out.go hb)
            have L6 := Lib.hid (L5.out.lo hb); have G6 := Lib.hid (fun g o e => Nat.lt_of_lt_of_le (G5.out g o e) hb.size); have X6 := Lib.hid (X5.out.lo hb); have R6 := Lib.hid (R5.out.lower hb); have Y6 := Lib.hid (Y5.out.lo hb); have Z6 := Lib.hid hi
            clear hb S5 hi hrun L5 G5 X5 R5 Y5
            go_wp2_with (at_builtin; go_must (refine wpList_append_run rfl _ _ 48 48 rfl _ _ rfl rfl HR6.out ?_))
            refine (H1.out w6 aR cR aX cX aG cG aB cB aC cC S6.out.bl L6.out G6.out X6.out R6.out Y6.out Z6.out).mono ?_
            rintro e w7 ⟨aV, cV, rfl, hi, hb⟩
            have S7 := Lib.hid (S6.out.go hb); have V7 := Lib.hid hi
            clear hb hi S6 L6 G6 X6 R6 Y6 Z6 HR6 H1
            obtain ⟨r0, r1, r2, r3, r4⟩ := S7.out.c
            go_wp2_with fail
            refine (TA.out _ S7.out.bl).mono ?_
            rintro e w8 ⟨rfl, hb⟩
            have S8 := Lib.hid (S7.out.go hb); have V8 := Lib.hid (V7.out.lo hb)
            clear hb S7 V7 r0 r1 r2 r3 r4
            obtain ⟨r0, r1, r2, r3, r4⟩ := S8.out.c
            go_wp2_with fail
            refine (IT.out _ S8.out.bl).mono ?_
            rintro e wT ⟨rfl, hb⟩
            have ST := Lib.hid (S8.out.go hb)
            clear hb S8 r0 r1 r2 r3 r4
            go_wp2_with fail
            refine (AW.out _ ST.out.bl).mono ?_
            rintro e w9 ⟨rfl, hb⟩
            have S9 := Lib.hid (ST.out.go hb)
            clear hb
            go_wp2_with fail
            go_returns
            exact ⟨rfl, S9.out.bl⟩
          · have HE := Lib.hid (hitL_ok hE htr).1
            have HLQ := Lib.hid (show leftL xs (els (falN r xs bs cs)) = hitL r xs ball bs cs by rw [(hitL_ok hE htr).2]; exact left_eq hE htr)
            have IT := Lib.hid (fun W (hb : Below w.heap.size w W) => refTruth_any r ball a2 c2 bs a3 c3 cs a4 c4 W (ball_len hE) (hL.lo hb) (by omega) (hG.lower hb) (hB.lo hb) (hC.lo hb) (by omega) (by omega))
            rw [htr] at IT
            rw [HE.out] at H1
            rw [hE] at TA
            obtain ⟨hck, hb4, hbw⟩ := bal_ok hE
            obtain ⟨t1, t2, t3, t4⟩ := truth_len htr
            have hbb : ∀ b ∈ bs, -1000 ≤ b ∧ b ≤ 1000 := fun b hb => by
              obtain ⟨i, hi, e⟩ := List.mem_iff_getElem.1 hb
              have := rows_in hbw t3 i
              rw [getD_of (show bs[i]? = some b by rw [List.getElem?_eq_getElem hi, e])] at this
              omega
            have FN := Lib.hid (fun W (hb : Below w.heap.size w W) => fallen_any r xs a c bs a3 c3 cs a4 c4 W (hL.lo hb) hck (hX.lo hb) (hB.lo hb) t1 hbb (hC.lo hb) t2)
            have HF16 := Lib.hid (show (els (falN r xs bs cs)).length ≤ 16 from els_len)
            generalize els (falN r xs bs cs) = FL at *
            generalize hitL r xs ball bs cs = HL at *
            clear hL hX hN hG hB hBN hC hCN hT hE htr b1 b2 b3 hthin HE hb12 hc20 hck hb4 hbw t1 t2 t3 t4 hbb
            unfold Rk.val at *
            go_enter Tryd.func4, Tryd.ntmps4
            go_wp2_with fail
            refine (TH.out _).mono ?_
            rintro e w1 ⟨rfl, hb⟩
            have S1 := Lib.hid (S0.out.go hb)
            obtain ⟨r0, r1, r2, r3, r4⟩ := S1.out.c
            clear hb S0
            go_wp2_with fail
            refine (RA.out _ S1.out.bl).mono ?_
            rintro e w2 ⟨aR, cR, rfl, hl, hg, hb⟩
            have S2 := Lib.hid (S1.out.go hb); have L2 := Lib.hid hl; have G2 := Lib.hid hg
            clear hb S1 hl hg r0 r1 r2 r3 r4
            go_wp2_with fail
            refine (LX.out _ S2.out.bl).mono ?_
            rintro e w3 ⟨aX, cX, rfl, hi, hb⟩
            have S3 := Lib.hid (S2.out.go hb)
            have L3 := Lib.hid (L2.out.lo hb); have G3 := Lib.hid (fun g o e => Nat.lt_of_lt_of_le (G2.out g o e) hb.size); have X3 := Lib.hid hi
            clear hb S2 hi L2 G2
            go_wp2_with fail
            refine (BA.out _ S3.out.bl).mono ?_
            rintro e w4 ⟨aG, cG, rfl, hr, hga, hb⟩
            have S4 := Lib.hid (S3.out.go hb)
            have L4 := Lib.hid (L3.out.lo hb); have G4 := Lib.hid (fun g o e => Nat.lt_of_lt_of_le (G3.out g o e) hb.size); have X4 := Lib.hid (X3.out.lo hb); have R4 := Lib.hid hr
            clear hb S3 hr hga L3 G3 X3
            go_wp2_with fail
            refine (LB.out _ S4.out.bl).mono ?_
            rintro e w5 ⟨aB, cB, rfl, hi, hb⟩
            have S5 := Lib.hid (S4.out.go hb)
            have L5 := Lib.hid (L4.out.lo hb); have G5 := Lib.hid (fun g o e => Nat.lt_of_lt_of_le (G4.out g o e) hb.size); have X5 := Lib.hid (X4.out.lo hb); have R5 := Lib.hid (R4.out.lower hb); have Y5 := Lib.hid hi
            clear hb S4 hi L4 G4 X4 R4
            obtain ⟨aC, cC, w6, hrun, hi, hb⟩ := RB.out w5 S5.out.bl
            have HR6 := Lib.hid hrun
            have S6 := Lib.hid (S5.out.go hb)
            have L6 := Lib.hid (L5.out.lo hb); have G6 := Lib.hid (fun g o e => Nat.lt_of_lt_of_le (G5.out g o e) hb.size); have X6 := Lib.hid (X5.out.lo hb); have R6 := Lib.hid (R5.out.lower hb); have Y6 := Lib.hid (Y5.out.lo hb); have Z6 := Lib.hid hi
            clear hb S5 hi hrun L5 G5 X5 R5 Y5
            go_wp2_with (at_builtin; go_must (refine wpList_append_run rfl _ _ 48 48 rfl _ _ rfl rfl HR6.out ?_))
            refine (H1.out w6 aR cR aX cX aG cG aB cB aC cC S6.out.bl L6.out G6.out X6.out R6.out Y6.out Z6.out).mono ?_
            rintro e w7 ⟨aV, cV, rfl, hi, hb⟩
            have S7 := Lib.hid (S6.out.go hb); have V7 := Lib.hid hi
            clear hb hi S6 L6 G6 X6 R6 Y6 Z6 HR6 H1
            obtain ⟨r0, r1, r2, r3, r4⟩ := S7.out.c
            go_wp2_with fail
            refine (TA.out _ S7.out.bl).mono ?_
            rintro e w8 ⟨rfl, hb⟩
            have S8 := Lib.hid (S7.out.go hb); have V8 := Lib.hid (V7.out.lo hb)
            clear hb S7 V7 r0 r1 r2 r3 r4
            obtain ⟨r0, r1, r2, r3, r4⟩ := S8.out.c
            go_wp2_with fail
            refine (IT.out _ S8.out.bl).mono ?_
            rintro e wT ⟨rfl, hb⟩
            have ST := Lib.hid (S8.out.go hb); have VT := Lib.hid (V8.out.lo hb)
            clear hb S8 V8 r0 r1 r2 r3 r4
            obtain ⟨r0, r1, r2, r3, r4⟩ := ST.out.c
            go_wp2_with fail
            refine (FN.out _ ST.out.bl).mono ?_
            rintro e wF ⟨aF, cF, rfl, hi, hn, hb⟩
            have SF := Lib.hid (ST.out.go hb); have VF := Lib.hid (VT.out.lo hb); have IF := Lib.hid hi
            clear hb hi hn ST VT r0 r1 r2 r3 r4
            go_wp2_with fail
            have HXF := Lib.hid (HX.out.lo SF.out.bl)
            refine (left2_any xs FL a aF c cF wF HXF.out IF.out (by have := HX15.out; omega) (by have := HF16.out; omega)).mono ?_
            rintro e wQ ⟨aQ, cQ, rfl, hi, hn, hb⟩
            have SQ := Lib.hid (SF.out.go hb); have VQ := Lib.hid (VF.out.lo hb)
            rw [HLQ.out] at hi
            rw [HLQ.out]
            have IQ := Lib.hid hi
            clear hb hi hn SF VF IF HXF
            go_wp2_with fail
            refine (ints_eq HL aV aQ cV cQ _ _ wQ VQ.out IQ.out (by have := HH16.out; omega) rfl rfl).mono ?_
            rintro e wI ⟨rfl, hb⟩
            have SI := Lib.hid (SQ.out.go hb)
            clear hb SQ VQ IQ
            go_wp2_with fail
            refine (AW.out _ SI.out.bl).mono ?_
            rintro e w9 ⟨rfl, hb⟩
            have S9 := Lib.hid (SI.out.go hb)
            clear hb
            go_wp2_with fail
            go_returns
            exact ⟨rfl, S9.out.bl⟩
        · have HV := Lib.hid (hit_off (bs := bs) (cs := cs) hE)
          have hE' : (balE r xs ball == 0) = false := by simpa using hE
          have hE2 : (balE r xs ball != 0) = true := by simpa using hE
          rw [HV.out.1, HV.out.2] at H1
          have H1 := Lib.hid (show ∀ W a' c' aX cX aG cG aB cB aC cC, _ → _ → _ → _ → _ → _ → _ → Calls Tryd.prog 27 #[.agg #[.int .i64 r.rows, .int .i64 r.mid, .int .i64 r.gap, .int .i64 r.reach, .slice a' r.ls.length c'], .slice aX xs.length cX, .slice aG ball.length cG, .slice aB bs.length cB, .slice aC cs.length cC] W (HitQ2 [] (balE r xs ball) W) from H1.out)
          generalize balE r xs ball = E at *
          clear hL hX hN hG hB hBN hC hCN hT hE b1 b2 b3 hthin HV HH16 hb12 hc20
          unfold Rk.val at *
          go_enter Tryd.func4, Tryd.ntmps4
          go_wp2_with fail
          refine (TH.out _).mono ?_
          rintro e w1 ⟨rfl, hb⟩
          have S1 := Lib.hid (S0.out.go hb)
          obtain ⟨r0, r1, r2, r3, r4⟩ := S1.out.c
          clear hb S0
          go_wp2_with fail
          refine (RA.out _ S1.out.bl).mono ?_
          rintro e w2 ⟨aR, cR, rfl, hl, hg, hb⟩
          have S2 := Lib.hid (S1.out.go hb); have L2 := Lib.hid hl; have G2 := Lib.hid hg
          clear hb S1 hl hg r0 r1 r2 r3 r4
          go_wp2_with fail
          refine (LX.out _ S2.out.bl).mono ?_
          rintro e w3 ⟨aX, cX, rfl, hi, hb⟩
          have S3 := Lib.hid (S2.out.go hb)
          have L3 := Lib.hid (L2.out.lo hb); have G3 := Lib.hid (fun g o e => Nat.lt_of_lt_of_le (G2.out g o e) hb.size); have X3 := Lib.hid hi
          clear hb S2 hi L2 G2
          go_wp2_with fail
          refine (BA.out _ S3.out.bl).mono ?_
          rintro e w4 ⟨aG, cG, rfl, hr, hga, hb⟩
          have S4 := Lib.hid (S3.out.go hb)
          have L4 := Lib.hid (L3.out.lo hb); have G4 := Lib.hid (fun g o e => Nat.lt_of_lt_of_le (G3.out g o e) hb.size); have X4 := Lib.hid (X3.out.lo hb); have R4 := Lib.hid hr
          clear hb S3 hr hga L3 G3 X3
          go_wp2_with fail
          refine (LB.out _ S4.out.bl).mono ?_
          rintro e w5 ⟨aB, cB, rfl, hi, hb⟩
          have S5 := Lib.hid (S4.out.go hb)
          have L5 := Lib.hid (L4.out.lo hb); have G5 := Lib.hid (fun g o e => Nat.lt_of_lt_of_le (G4.out g o e) hb.size); have X5 := Lib.hid (X4.out.lo hb); have R5 := Lib.hid (R4.out.lower hb); have Y5 := Lib.hid hi
          clear hb S4 hi L4 G4 X4 R4
          obtain ⟨aC, cC, w6, hrun, hi, hb⟩ := RB.out w5 S5.out.bl
          have HR6 := Lib.hid hrun
          have S6 := Lib.hid (S5.out.go hb)
          have L6 := Lib.hid (L5.out.lo hb); have G6 := Lib.hid (fun g o e => Nat.lt_of_lt_of_le (G5.out g o e) hb.size); have X6 := Lib.hid (X5.out.lo hb); have R6 := Lib.hid (R5.out.lower hb); have Y6 := Lib.hid (Y5.out.lo hb); have Z6 := Lib.hid hi
          clear hb S5 hi hrun L5 G5 X5 R5 Y5
          go_wp2_with (at_builtin; go_must (refine wpList_append_run rfl _ _ 48 48 rfl _ _ rfl rfl HR6.out ?_))
          refine (H1.out w6 aR cR aX cX aG cG aB cB aC cC S6.out.bl L6.out G6.out X6.out R6.out Y6.out Z6.out).mono ?_
          rintro e w7 ⟨aV, cV, rfl, hi, hb⟩
          have S7 := Lib.hid (S6.out.go hb); have V7 := Lib.hid hi
          clear hb hi S6 L6 G6 X6 R6 Y6 Z6 HR6 H1
          obtain ⟨r0, r1, r2, r3, r4⟩ := S7.out.c
          go_wp2_with fail
          refine (TA.out _ S7.out.bl).mono ?_
          rintro e w8 ⟨rfl, hb⟩
          have S8 := Lib.hid (S7.out.go hb); have V8 := Lib.hid (V7.out.lo hb)
          clear hb S7 V7 r0 r1 r2 r3 r4
          obtain ⟨r0, r1, r2, r3, r4⟩ := S8.out.c
          go_wp2_with fail
          refine (AW.out _ S8.out.bl).mono ?_
          rintro e w9 ⟨rfl, hb⟩
          have S9 := Lib.hid (S8.out.go hb)
          clear hb
          go_wp2_with fail
          go_returns
          exact ⟨rfl, S9.out.bl⟩
      · have hz20 : (20 : Int) < (cs.length : Int) := by omega
        clear hthin hL hX hN hG hB hBN hC hCN hT b1 b2 b3
        unfold Rk.val at *
        go_enter Tryd.func4, Tryd.ntmps4
        go_wp2_with fail
        refine (TH.out _).mono ?_
        rintro e w1 ⟨rfl, hb⟩
        have S1 := Lib.hid (S0.out.go hb)
        clear hb S0
        go_wp2_with fail
        refine (AW.out _ S1.out.bl).mono ?_
        rintro e w3 ⟨rfl, hb⟩
        have S3 := Lib.hid (S1.out.go hb)
        clear hb S1
        go_wp2_with fail
        go_returns
        exact ⟨rfl, S3.out.bl⟩
    · have hz12 : (12 : Int) < (bs.length : Int) := by omega
      clear hthin hL hX hN hG hB hBN hC hCN hT b1 b2 b3
      unfold Rk.val at *
      go_enter Tryd.func4, Tryd.ntmps4
      go_wp2_with fail
      refine (TH.out _).mono ?_
      rintro e w1 ⟨rfl, hb⟩
      have S1 := Lib.hid (S0.out.go hb)
      clear hb S0
      go_wp2_with fail
      refine (AW.out _ S1.out.bl).mono ?_
      rintro e w3 ⟨rfl, hb⟩
      have S3 := Lib.hid (S1.out.go hb)
      clear hb S1
      go_wp2_with fail
      go_returns
      exact ⟨rfl, S3.out.bl⟩
  · have hthin' : thinB r xs.length ball.length = false := by simpa using hthin
    rw [hthin'] at TH
    clear hthin hthin' hL hX hN hG hB hBN hC hCN hT
    unfold Rk.val at *
    go_enter Tryd.func4, Tryd.ntmps4
    go_wp2_with fail
    refine (TH.out _).mono ?_
    rintro e w1 ⟨rfl, hb⟩
    have S1 := Lib.hid (S0.out.go hb)
    clear hb S0
    go_wp2_with fail
    refine (AW.out _ S1.out.bl).mono ?_
    rintro e w3 ⟨rfl, hb⟩
    have S3 := Lib.hid (S1.out.go hb)
    clear hb S1
    go_wp2_with fail
    go_returns
    exact ⟨rfl, S3.out.bl⟩

end Go.Proofs.YtaloffdkadhhnaaDoor
