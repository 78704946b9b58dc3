/- The contracts of the law's mirrored and turned. -/
import Derived.Test.YtaloffdkadhhnaaDoorTv
import Derived.Test.YtaloffdkadhhnaaDoorNb
set_option linter.unusedVariables false
set_option linter.unusedSimpArgs false
namespace Go.Proofs.YtaloffdkadhhnaaDoor
open Go.RowKit

attribute [local go_sem] Oper.semAt_some

set_option maxRecDepth 100000 in
set_option maxHeartbeats 2000000 in
theorem mirrored_any (p : Int) (w : World) (p1 : 0 ≤ p) (p2 : p ≤ 9) :
    Calls Tryd.prog 51 #[.int .i64 p] w fun e w' => e = .returned (.int .i64 (mir p)) ∧ w = w' := by
  have PL := Lib.hid (fun W => place2_any p W p1 p2)
  have hr := rowN_bd p1 p2
  have HM := Lib.hid (show mir p = (rowN p * (rowN p + 1)).tdiv 2 + rowN p - kN p by
    unfold mir
    rw [Int.tdiv_eq_ediv_of_nonneg (Int.mul_nonneg hr.1 (by omega))])
  generalize mir p = M at *
  generalize rowN p = ro at *
  generalize kN p = k at *
  have hr4 : ro = 0 ∨ ro = 1 ∨ ro = 2 ∨ ro = 3 := by omega
  go_enter Tryd.func51, Tryd.ntmps51
  go_wp2_with fail
  refine (PL.out _).mono ?_
  rintro e w1 ⟨rfl, rfl⟩
  rcases hr4 with rfl | rfl | rfl | rfl
  all_goals
    have ew1 : IntKind.i64.wrap (0 - k) = 0 - k := IntWalk.i64_in _ (by omega)
    have ew2 : IntKind.i64.wrap (2 - k) = 2 - k := IntWalk.i64_in _ (by omega)
    have ew3 : IntKind.i64.wrap (5 - k) = 5 - k := IntWalk.i64_in _ (by omega)
    have ew4 : IntKind.i64.wrap (9 - k) = 9 - k := IntWalk.i64_in _ (by omega)
    go_wp2_with fail
    go_returns
    exact ⟨by rw [HM.out]; first | done | rfl | simp [Int.tdiv], by first | rfl | trivial⟩

theorem turL_snoc (r : Rk) (L : List Int) {i : Nat} (h : i < (pinsN r.rows).toNat) : ((pinL r).take (i + 1)).filter (fun p => hasI L (mir p)) = ((pinL r).take i).filter (fun p => hasI L (mir p)) ++ if hasI L (mir (i : Int)) = true then [(i : Int)] else [] := by
  rw [(pinL_take r h).1, List.filter_append]
  cases hh : hasI L (mir (i : Int)) <;> simp [List.filter, hh]
theorem pinL_len (r : Rk) : (pinL r).length = (pinsN r.rows).toNat := by unfold pinL; simp

set_option maxRecDepth 100000 in
set_option maxHeartbeats 4000000 in
theorem turned_any (r : Rk) (L : List Int) (a : Option Addr) (c : Nat) (w : World) (hr : 1 ≤ r.rows ∧ r.rows ≤ 4) (hX : IntsAt w a L) (hn : L.length ≤ 1000) :
    Calls Tryd.prog 52 #[r.val, .slice a L.length c] w (RetI (turL r L) w) := by
  obtain ⟨P, hP⟩ : ∃ P : Nat, (P : Int) = pinsN r.rows := ⟨(pinsN r.rows).toNat, by have := (@pinsN_bd r).1; omega⟩
  have hP10 : P ≤ 10 := by have := (@pinsN_bd r).2; omega
  have PN := Lib.hid (fun W => refPins_any r W hr.1 hr.2)
  rw [← hP] at PN
  have HT0 := Lib.hid (show ((pinL r).take P).filter (fun p => hasI L (mir p)) = turL r L by rw [List.take_of_length_le (by rw [pinL_len, ← hP]; simp)]; rfl)
  have HTS := Lib.hid (fun i (h : i < P) => turL_snoc r L (i := i) (by rw [← hP]; simpa using h))
  have HLN := Lib.hid (fun i => show (((pinL r).take i).filter (fun p => hasI L (mir p))).length ≤ 10 from Nat.le_trans (List.length_filter_le _ _) (by rw [List.length_take, pinL_len, ← hP, Int.toNat_natCast]; omega))
  rw [← HT0.out]
  have S0 := Lib.hid (St.start r w)
  have MI := Lib.hid (fun (i : Nat) W (h : i < P) => mirrored_any (i : Int) W (by omega) (by omega))
  have HH := Lib.hid (fun x W (hb : Below w.heap.size w W) => has_any L x a c W (hX.lo hb) hn)
  obtain ⟨i3, hi3, hy0, hy1, hy2⟩ := info_parts info3
  clear hP hX HT0 hr
  unfold rCells at S0
  unfold Rk.val at *
  generalize (fun p => hasI L (mir p)) = PF at *
  go_enter Tryd.func52, Tryd.ntmps52
  go_upto_region 1 with fail
  obtain ⟨w0, hw0⟩ : ∃ W, W = w.alloc (.cells #[.int .i64 r.rows, .int .i64 r.mid, .int .i64 r.gap, .int .i64 r.reach, .slice r.la r.ls.length r.lc] 24) := ⟨_, rfl⟩
  rw [← hw0] at S0 ⊢
  clear hw0
  have O0 := Lib.hid (OwnI.nil w0)
  go_wp2_with fail
  go_loopg [5, 6] P (fun g s5 s6 wx => ∃ (p : Nat), p ≤ P ∧ g = P - p ∧ s6 = .int .i64 (p : Int) ∧ Hid (OwnI w0 wx s5 (((pinL r).take p).filter PF)))
  case atStart => exact ⟨0, by omega, by omega, rfl, O0⟩
  case round =>
    obtain ⟨p, hp, rfl, rfl, hO⟩ := hrel
    clear O0
    have SA := Lib.hid (S0.out.go hO.out.bl)
    obtain ⟨r0, r1, r2, r3, r4⟩ := SA.out.c
    by_cases hlt : p < P
    · have hz0 : (0 : Int) ≤ (p : Int) := by omega
      have hz1 : (p : Int) < (P : Int) := by omega
      have HT := Lib.hid (HTS.out p hlt)
      have HLn := Lib.hid (HLN.out p)
      have MIp := Lib.hid (fun W => MI.out p W hlt)
      have HHp := Lib.hid (fun W hb => HH.out (mir (p : Int)) W hb)
      generalize hys : ((pinL r).take p).filter PF = ys at *
      generalize hY2 : ((pinL r).take (p + 1)).filter PF = Y2 at *
      have HL2 := Lib.hid (show ys.length + 1 ≤ maxLen by have := HLn.out; unfold maxLen; omega)
      have HL3 := Lib.hid (show (ys.length + 1) * 8 ≤ 140737488355328 by have := HLn.out; omega)
      clear hys HTS HLN hlt MI HH
      generalize mir (p : Int) = mp at *
      go_wp2_with fail
      refine (PN.out _).mono ?_
      rintro e w1 ⟨rfl, hb⟩
      have O1 := Lib.hid (hO.out.lo hb)
      have S1 := Lib.hid (SA.out.go hb)
      have HSZ := Lib.hid O1.out.bl.size
      clear r0 r1 r2 r3 r4 hO SA hb
      go_wp2_with fail
      refine (MIp.out _).mono ?_
      rintro e w2 ⟨rfl, rfl⟩
      go_wp2_with fail
      refine (HHp.out _ S1.out.bl).mono ?_
      rintro e w2 ⟨rfl, rfl⟩
      generalize hasI L mp = hh at *
      cases hh
      · have HN := Lib.hid (show Y2 = ys by rw [HT.out]; simp)
        clear HT
        go_wp2_with fail
        go_roundg (P - (p + 1))
        case measure => omega
        case rel => exact ⟨p + 1, by omega, rfl, by simp, by rw [hY2, HN.out]; exact O1⟩
      · have HN := Lib.hid (show Y2 = ys ++ [(p : Int)] by rw [HT.out]; simp)
        clear HT
        go_wp2_with (at_builtin; go_must (refine wpList_append_lies _ rfl _ _ 25 rfl w0.heap.size 3 i3 (.int .i64 0) 1 8 Tryd.underlying25 hi3 hy0 hy1 hy2 rfl (by decide) _ ys.length (ys.map (Value.int .i64)) rfl (O1.out.ow.alloc _) ⟨w1.heap.size, 0, none⟩ 1 1 [.int .i64 (p : Int)] rfl rfl (World.news_of_block (cs := #[.int .i64 (p : Int)]) (t := 3) (fr := (0, 0)) (heap_alloc_new w1 _)) (by simp [Value.oneCell']) (by omega) (by have := HL2.out; exact this) (by have := HL3.out; exact this) (by have := HSZ.out; simp; omega) (w1.heap.size + 1) (by simp) ?_); intro gA capA w2 hown hgrow hat hlt1; have OP := Lib.hid (O1.out.push hgrow hown); clear hown hgrow hat hlt1)
        go_roundg (P - (p + 1))
        case measure => omega
        case rel => exact ⟨p + 1, by omega, rfl, by simp, by rw [hY2, HN.out]; exact OP⟩
    · have hz1 : ¬ (p : Int) < (P : Int) := by omega
      obtain rfl : p = P := by omega
      obtain ⟨aL, cL, rfl, hI, hN0⟩ := hO.out.out
      have HI := Lib.hid hI
      have HN0 := Lib.hid hN0
      clear hI hN0 hlt hO HTS HLN MI HH
      go_wp2_with fail
      refine (PN.out _).mono ?_
      rintro e w1 ⟨rfl, hb⟩
      have SB := Lib.hid (SA.out.go hb)
      have HI2 := Lib.hid (HI.out.lo hb)
      clear hb SA HI r0 r1 r2 r3 r4
      go_wp2_with fail
      go_returns
      exact ⟨aL, cL, rfl, HI2.out, HN0.out, SB.out.bl⟩

end Go.Proofs.YtaloffdkadhhnaaDoor
