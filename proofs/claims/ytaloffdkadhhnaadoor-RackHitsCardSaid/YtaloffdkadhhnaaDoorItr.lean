/- The contract of the reference's IsTruth. -/
import Derived.Test.YtaloffdkadhhnaaDoorGj
import Derived.Test.YtaloffdkadhhnaaDoorGk
set_option linter.unusedVariables false
set_option linter.unusedSimpArgs false
namespace Go.Proofs.YtaloffdkadhhnaaDoor
open Go.RowKit

attribute [local go_sem] Oper.semAt_some

set_option maxRecDepth 100000 in
set_option maxHeartbeats 8000000 in
theorem refTruth_any (r : Rk) (ball : List Rg) (a1 : Option Addr) (c1 : Nat) (bs : List Int) (a2 : Option Addr) (c2 : Nat) (cs : List Bool) (a3 : Option Addr) (c3 : Nat) (w : World) (hbl : (ball.length : Int) = r.rows)
    (hL : LinksAt w r.la r.ls) (hn : r.ls.length ≤ 1000) (hG : RgsAt w a1 ball) (hI : IntsAt w a2 bs) (hB : BoolsAt w a3 cs) (hm : bs.length ≤ 1000) (hk : cs.length ≤ 1000) :
    Calls Tryd.prog 30 #[r.val, .slice a1 ball.length c1, .slice a2 bs.length c2, .slice a3 cs.length c3] w fun e w' => e = .returned (.bool (truthB r ball bs cs)) ∧ Below w.heap.size w w' := by
  have HL := Lib.hid hL; have HG := Lib.hid hG; have HI := Lib.hid hI; have HB := Lib.hid hB
  have HR := Lib.hid (show truthB r ball bs cs = (((bs.length : Int) == r.rows) && ((cs.length == r.ls.length) && (rowsB ball bs bs.length && carsB r.ls cs r.ls.length))) from rfl)
  have S0 := Lib.hid (St.start r w)
  have HW := Lib.hid (fun x lo hi W => refIn_any x lo hi W)
  generalize truthB r ball bs cs = RES at *
  have HBL := Lib.hid hbl
  obtain ⟨rows, mid, gap, reach, la, lc, ls⟩ := r
  simp only at *
  unfold rCells at S0
  unfold Rk.val
  clear hL hG hI hB hbl
  by_cases h1 : bs.length = ball.length
  · have e1 : ((bs.length : Int) == rows) = true := by have := HBL.out; simp; omega
    by_cases h2 : cs.length = ls.length
    · have HV := Lib.hid (show RES = (rowsB ball bs bs.length && carsB ls cs ls.length) by rw [HR.out, e1, h2]; simp)
      have HH1 := Lib.hid h1
      have HH2 := Lib.hid h2
      have e1' : ((bs.length : Int) != (ball.length : Int)) = false := by simp [h1]
      have e2' : ((cs.length : Int) != (ls.length : Int)) = false := by simp [h2]
      clear h1 h2 e1 HR
      obtain ⟨r0, r1, r2, r3, r4⟩ := S0.out.c
      go_enter Tryd.func30, Tryd.ntmps30
      go_wp2_with fail
      clear r0 r1 r2 r3 r4
      go_loopg [9] ball.length (fun g s9 wx => ∃ (i : Nat), i ≤ ball.length ∧ g = ball.length - i ∧ s9 = .int .i64 (i : Int) ∧ Hid (rowsB ball bs i = true) ∧ Hid (St ⟨rows, mid, gap, reach, la, lc, ls⟩ w wx))
      case atStart => exact ⟨0, by omega, by omega, rfl, Lib.hid rfl, S0⟩
      case round =>
        obtain ⟨i, hi, rfl, rfl, hA, hS⟩ := hrel
        clear S0
        have hle := HH1.out
        by_cases hlt : i < ball.length
        · have hz0 : (0 : Int) ≤ (i : Int) := by omega
          have hz2 : (i : Int) < (bs.length : Int) := by omega
          have hz3 : (i : Int) < (ball.length : Int) := by omega
          obtain ⟨x, hx⟩ : ∃ x, bs[i]? = some x := ⟨bs[i]'(by omega), List.getElem?_eq_getElem _⟩
          obtain ⟨b, hb⟩ : ∃ b, ball[i]? = some b := ⟨ball[i]'(by omega), List.getElem?_eq_getElem _⟩
          obtain ⟨g, o, rfl, k1⟩ := HI.out _ _ hx
          obtain ⟨gb, ob, rfl, k2, k3⟩ := HG.out _ _ hb
          have q1 : wr.cell? ⟨g, o + i, none⟩ = some (.int .i64 x) := cell_lo hS.out.bl k1
          have q2 : wr.cell? ⟨gb, ob + i * 2, none⟩ = some (.int .i64 b.lo) := cell_lo hS.out.bl k2
          have q3 : wr.cell? ⟨gb, ob + i * 2 + 1, none⟩ = some (.int .i64 b.hi) := cell_lo hS.out.bl k3
          have HT := Lib.hid (show rowsB ball bs (i + 1) = (rowsB ball bs i && inB x b.lo b.hi) by rw [rowsB_succ, getD_of hx, getD_of hb])
          have HF : Hid (inB x b.lo b.hi = false → RES = false) := Lib.hid (fun h => by
            rw [HV.out, rowsB_le (i := i) (by omega) (by rw [getD_of hx, getD_of hb]; exact h)]; rfl)
          have HWx := Lib.hid (fun W => HW.out x b.lo b.hi W)
          obtain ⟨lo, hi2⟩ := b
          simp only at *
          clear hx hb k1 k2 k3 hle
          cases hq : inB x lo hi2
          · have HV2 := Lib.hid (HF.out hq)
            rw [hq] at HWx
            clear hq HT HF hA
            go_wp2_with fail
            go_quiet ((go_at_call 42; exact Calls.quiet_of_same ((HWx.out _).mono fun _ _ h => ⟨h.1, h.2.symm⟩)))
            go_wp2_with fail
            go_returns
            exact ⟨by rw [HV2.out]; first | done | rfl, (hS.out.go (dN_below _ _)).bl⟩
          · have HN := Lib.hid (show rowsB ball bs (i + 1) = true by rw [HT.out, hA.out, hq]; rfl)
            rw [hq] at HWx
            clear hq HT HF hA
            go_wp2_with fail
            go_quiet ((go_at_call 42; exact Calls.quiet_of_same ((HWx.out _).mono fun _ _ h => ⟨h.1, h.2.symm⟩)))
            go_wp2_with fail
            go_roundg (ball.length - (i + 1))
            case measure => omega
            case rel => exact ⟨i + 1, by omega, rfl, by simp, HN, Lib.hid (hS.out.go (dN_below _ _))⟩
        · have hz3 : ¬ (i : Int) < (ball.length : Int) := by omega
          obtain rfl : i = ball.length := by omega
          have HV2 := Lib.hid (show RES = carsB ls cs ls.length by rw [HV.out, hle, hA.out]; rfl)
          have S1 := hS
          clear hA hlt hle HV HW HI HG hS
          go_wp2_with fail
          go_loopg [10] cs.length (fun g s10 wx => ∃ (j : Nat), j ≤ cs.length ∧ g = cs.length - j ∧ s10 = .int .i64 (j : Int) ∧ Hid (carsB ls cs j = true) ∧ Hid (St ⟨rows, mid, gap, reach, la, lc, ls⟩ w wx))
          case atStart => exact ⟨0, by omega, by omega, rfl, Lib.hid rfl, S1⟩
          case round =>
            obtain ⟨j, hj, rfl, rfl, hC, hS⟩ := hrel
            clear S1
            have hle := HH2.out
            by_cases hlt : j < cs.length
            · have hz0 : (0 : Int) ≤ (j : Int) := by omega
              have hz1 : (j : Int) < (ls.length : Int) := by omega
              have hz2 : (j : Int) < (cs.length : Int) := by omega
              obtain ⟨r0, r1, r2, r3, r4⟩ := hS.out.c
              obtain ⟨l, hl⟩ : ∃ l, ls[j]? = some l := ⟨ls[j]'(by omega), List.getElem?_eq_getElem _⟩
              obtain ⟨b, hb⟩ : ∃ b, cs[j]? = some b := ⟨cs[j]'(by omega), List.getElem?_eq_getElem _⟩
              obtain ⟨g, o, rfl, k1, k2, k3⟩ := HL.out _ _ hl
              obtain ⟨gb, ob, rfl, k4⟩ := HB.out _ _ hb
              have q3 : wr.cell? ⟨g, o + j * 3 + 2, none⟩ = some (.bool l.sr) := cell_lo hS.out.bl k3
              have q4 : wr.cell? ⟨gb, ob + j, none⟩ = some (.bool b) := cell_lo hS.out.bl k4
              have HT := Lib.hid (show carsB ls cs (j + 1) = (carsB ls cs j && !(l.sr && !b)) by rw [carsB_succ, getD_of hl, getD_of hb])
              have HF : Hid ((!(l.sr && !b)) = false → RES = false) := Lib.hid (fun h => by
                rw [HV2.out, carsB_le (i := j) (by omega) (by rw [getD_of hl, getD_of hb]; exact h)])
              obtain ⟨fr, to, sr⟩ := l
              simp only at *
              clear hl hb k1 k2 k3 k4 hle
              cases sr
              · have HN := Lib.hid (show carsB ls cs (j + 1) = true by rw [HT.out, hC.out]; rfl)
                clear HT HF hC
                go_wp2_with fail
                go_roundg (cs.length - (j + 1))
                case measure => omega
                case rel => exact ⟨j + 1, by omega, rfl, by simp, HN, hS⟩
              · cases b
                · have HV3 := Lib.hid (HF.out rfl)
                  clear HT HF hC
                  go_wp2_with fail
                  go_returns
                  exact ⟨by rw [HV3.out]; first | done | rfl, hS.out.bl⟩
                · have HN := Lib.hid (show carsB ls cs (j + 1) = true by rw [HT.out, hC.out]; rfl)
                  clear HT HF hC
                  go_wp2_with fail
                  go_roundg (cs.length - (j + 1))
                  case measure => omega
                  case rel => exact ⟨j + 1, by omega, rfl, by simp, HN, hS⟩
            · have hz2 : ¬ (j : Int) < (cs.length : Int) := by omega
              have HV3 := Lib.hid (show RES = true by rw [HV2.out, ← hle]; rw [show j = cs.length by omega] at hC; exact hC.out)
              clear hC hlt hle
              go_wp2_with fail
              go_returns
              exact ⟨by rw [HV3.out]; first | done | rfl, hS.out.bl⟩
    · have e2 : (cs.length == ls.length) = false := by simpa using h2
      have HV := Lib.hid (show RES = false by rw [HR.out, e2]; simp)
      have e1' : ((bs.length : Int) != (ball.length : Int)) = false := by simp [h1]
      have e2' : ((cs.length : Int) != (ls.length : Int)) = true := by simp; omega
      clear h1 h2 e1 e2 HR
      obtain ⟨r0, r1, r2, r3, r4⟩ := S0.out.c
      go_enter Tryd.func30, Tryd.ntmps30
      go_wp2_with fail
      go_returns
      exact ⟨by rw [HV.out]; first | done | rfl, S0.out.bl⟩
  · have e1 : ((bs.length : Int) == rows) = false := by have := HBL.out; rw [beq_eq_false_iff_ne]; omega
    have HV := Lib.hid (show RES = false by rw [HR.out, e1]; rfl)
    have e1' : ((bs.length : Int) != (ball.length : Int)) = true := by simp; omega
    clear h1 e1 HR
    obtain ⟨r0, r1, r2, r3, r4⟩ := S0.out.c
    go_enter Tryd.func30, Tryd.ntmps30
    go_wp2_with fail
    go_returns
    exact ⟨by rw [HV.out]; first | done | rfl, S0.out.bl⟩

end Go.Proofs.YtaloffdkadhhnaaDoor
