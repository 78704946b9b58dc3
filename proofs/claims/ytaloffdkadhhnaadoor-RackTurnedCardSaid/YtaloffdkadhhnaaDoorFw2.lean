/- The contract of the law's Few: it returns a truth value, whatever comes. -/
import Derived.Test.YtaloffdkadhhnaaDoorFq
import Derived.Test.YtaloffdkadhhnaaDoorGk
import Derived.Test.YtaloffdkadhhnaaDoorGi
set_option linter.unusedVariables false
set_option linter.unusedSimpArgs false
namespace Go.Proofs.YtaloffdkadhhnaaDoor
open Go.RowKit

attribute [local go_sem] Oper.semAt_some

def FewP (w : World) (e : Ending) (w' : World) : Prop := ∃ b : Bool, e = .returned (.bool b) ∧ Below w.heap.size w w'

set_option maxRecDepth 100000 in
set_option maxHeartbeats 4000000 in
theorem few2_any (r : Rk) (ball : List Rg) (a : Option Addr) (c : Nat) (w : World) (hL : LinksAt w r.la r.ls) (hn : r.ls.length ≤ 1000) (hG : RgsAt w a ball) (hk : ball.length ≤ 1000) :
    Calls Tryd.prog 34 #[r.val, .slice a ball.length c] w (FewP w) := by
  have FA := Lib.hid (fun W (hb : Below w.heap.size w W) => refFault_any r W (hL.lo hb) hn)
  have IB := Lib.hid (fun W (hb : Below w.heap.size w W) => refBall_any r ball a c W (hG.lower hb) hk)
  have HG := Lib.hid hG
  have HL := Lib.hid hL
  have S0 := Lib.hid (St.start r w)
  clear hL hG
  unfold rCells at S0
  unfold Rk.val at *
  by_cases hF : faultN r = 0
  · rw [hF] at FA
    by_cases hI : isBallB r ball = true
    · rw [hI] at IB
      go_enter Tryd.func34, Tryd.ntmps34
      obtain ⟨r0, r1, r2, r3, r4⟩ := S0.out.c
      go_wp2_with fail
      refine (FA.out _ S0.out.bl).mono ?_
      rintro e w1 ⟨rfl, hb⟩
      have S1 := Lib.hid (S0.out.go hb)
      clear hb S0 r0 r1 r2 r3 r4
      obtain ⟨r0, r1, r2, r3, r4⟩ := S1.out.c
      go_wp2_with fail
      refine (IB.out _ S1.out.bl).mono ?_
      rintro e w2 ⟨rfl, hb⟩
      have S2 := Lib.hid (S1.out.go hb)
      clear hb S1 r0 r1 r2 r3 r4 FA IB
      go_wp2_with fail
      go_loopg [5, 6] ball.length (fun g s5 s6 wx => ∃ (i : Nat) (n : Int), i ≤ ball.length ∧ g = ball.length - i ∧ s6 = .int .i64 (i : Int) ∧ s5 = .int .i64 n ∧ Hid (St r w wx))
      case atStart => exact ⟨0, 1, by omega, by omega, rfl, rfl, S2⟩
      case round =>
        obtain ⟨i, n, hi, rfl, rfl, rfl, hS⟩ := hrel
        clear S2
        by_cases hlt : i < ball.length
        · obtain ⟨b, hb⟩ : ∃ b, ball[i]? = some b := ⟨ball[i]'hlt, List.getElem?_eq_getElem _⟩
          obtain ⟨g, o, rfl, k1, k2⟩ := HG.out _ _ hb
          have hz0 : (0 : Int) ≤ (i : Int) := by omega
          have hz1 : (i : Int) < (ball.length : Int) := by omega
          have c1 : wr.drew.cell? ⟨g, o + i * 2, none⟩ = some (.int .i64 b.lo) := cell_lo (hS.out.go (Below.drew (Below.refl wr.heap.size wr))).bl k1
          have c2 : wr.drew.cell? ⟨g, o + i * 2 + 1, none⟩ = some (.int .i64 b.hi) := cell_lo (hS.out.go (Below.drew (Below.refl wr.heap.size wr))).bl k2
          have C := Lib.hid (And.intro c1 c2)
          have S3 := Lib.hid (hS.out.go (Below.drew (Below.refl wr.heap.size wr)))
          obtain ⟨lo, hi2⟩ := b
          simp only at *
          clear hb k1 k2 hS c1 c2
          go_wp2_with fail
          refine wp_region_held_drew (S := (fun W => W.cell? ⟨g, o + i * 2, none⟩ = some (.int .i64 lo) ∧ W.cell? ⟨g, o + i * 2 + 1, none⟩ = some (.int .i64 hi2))) (by kernel_rfl) ?_ (fun hHeld => ?_)
          · (try dsimp only) <;> (with_reducible exact C.out)
          refine wpAnyH_take (i := 0) (oi := { dst := some 23, op := Op.move (Operand.tmp 5), type := 3, pos := "law.go:55", after := #[], guard := none }) (v := ?v_fw7_0) rfl (by kernel_rfl) (by kernel_rfl) (by kernel_rfl) (fun _ _ _ h => h) (Or.inl ⟨by rfl, ?y_fw7_0⟩) (by assumption) ?_
          case y_fw7_0 => intro w hSw; (try dsimp only at hSw); go_simp; with_reducible rfl
          try simp only [Act.put, List.setIfInBounds_toArray, List.set_cons_zero, List.set_cons_succ]
          refine wpAnyH_take (i := 1) (oi := { dst := some 24, op := Op.move (Operand.tmp 1), type := 47, pos := "law.go:55", after := #[], guard := none }) (v := ?v_fw7_1) rfl (by kernel_rfl) (by kernel_rfl) (by kernel_rfl) (fun _ _ _ h => h) (Or.inl ⟨by rfl, ?y_fw7_1⟩) (by assumption) ?_
          case y_fw7_1 => intro w hSw; (try dsimp only at hSw); go_simp; with_reducible rfl
          try simp only [Act.put, List.setIfInBounds_toArray, List.set_cons_zero, List.set_cons_succ]
          refine wpAnyH_take (i := 2) (oi := { dst := some 25, op := Op.move (Operand.tmp 6), type := 3, pos := "law.go:55", after := #[], guard := none }) (v := ?v_fw7_2) rfl (by kernel_rfl) (by kernel_rfl) (by kernel_rfl) (fun _ _ _ h => h) (Or.inl ⟨by rfl, ?y_fw7_2⟩) (by assumption) ?_
          case y_fw7_2 => intro w hSw; (try dsimp only at hSw); go_simp; with_reducible rfl
          try simp only [Act.put, List.setIfInBounds_toArray, List.set_cons_zero, List.set_cons_succ]
          refine wpAnyH_take (i := 3) (oi := { dst := some 26, op := Op.indexAddr 47 (Operand.tmp 24) (Operand.tmp 25), type := 0, pos := "law.go:55", after := #[{ on := 1, ground := Ground.data }, { on := 2, ground := Ground.data }], guard := none }) (v := ?v_fw7_3) rfl (by kernel_rfl) (by kernel_rfl) (by kernel_rfl) (fun _ _ _ h => h) (Or.inl ⟨by rfl, ?y_fw7_3⟩) (by assumption) ?_
          case y_fw7_3 => intro w hSw; (try dsimp only at hSw); go_simp; with_reducible rfl
          try simp only [Act.put, List.setIfInBounds_toArray, List.set_cons_zero, List.set_cons_succ]
          refine wpAnyH_take (i := 4) (oi := { dst := some 27, op := Op.fieldAddr 93 (Operand.tmp 26) 1, type := 0, pos := "law.go:55", after := #[{ on := 3, ground := Ground.data }], guard := none }) (v := ?v_fw7_4) rfl (by kernel_rfl) (by kernel_rfl) (by kernel_rfl) (fun _ _ _ h => h) (Or.inl ⟨by rfl, ?y_fw7_4⟩) (by assumption) ?_
          case y_fw7_4 => intro w hSw; (try dsimp only at hSw); go_simp; with_reducible rfl
          try simp only [Act.put, List.setIfInBounds_toArray, List.set_cons_zero, List.set_cons_succ]
          refine wpAnyH_take (i := 5) (oi := { dst := some 28, op := Op.load 3 (Operand.tmp 27), type := 3, pos := "law.go:55", after := #[{ on := 4, ground := Ground.data }], guard := none }) (v := ?v_fw7_5) rfl (by kernel_rfl) (by kernel_rfl) (by kernel_rfl) (fun _ _ _ h => h) (Or.inl ⟨by rfl, ?y_fw7_5⟩) (by assumption) ?_
          case y_fw7_5 => intro w hSw; (try dsimp only at hSw); go_simp; with_reducible rfl
          try simp only [Act.put, List.setIfInBounds_toArray, List.set_cons_zero, List.set_cons_succ]
          refine wpAnyH_take (i := 6) (oi := { dst := some 29, op := Op.move (Operand.tmp 1), type := 47, pos := "law.go:55", after := #[], guard := none }) (v := ?v_fw7_6) rfl (by kernel_rfl) (by kernel_rfl) (by kernel_rfl) (fun _ _ _ h => h) (Or.inl ⟨by rfl, ?y_fw7_6⟩) (by assumption) ?_
          case y_fw7_6 => intro w hSw; (try dsimp only at hSw); go_simp; with_reducible rfl
          try simp only [Act.put, List.setIfInBounds_toArray, List.set_cons_zero, List.set_cons_succ]
          refine wpAnyH_take (i := 7) (oi := { dst := some 30, op := Op.move (Operand.tmp 6), type := 3, pos := "law.go:55", after := #[], guard := none }) (v := ?v_fw7_7) rfl (by kernel_rfl) (by kernel_rfl) (by kernel_rfl) (fun _ _ _ h => h) (Or.inl ⟨by rfl, ?y_fw7_7⟩) (by assumption) ?_
          case y_fw7_7 => intro w hSw; (try dsimp only at hSw); go_simp; with_reducible rfl
          try simp only [Act.put, List.setIfInBounds_toArray, List.set_cons_zero, List.set_cons_succ]
          refine wpAnyH_take (i := 8) (oi := { dst := some 31, op := Op.indexAddr 47 (Operand.tmp 29) (Operand.tmp 30), type := 0, pos := "law.go:55", after := #[{ on := 6, ground := Ground.data }, { on := 7, ground := Ground.data }], guard := none }) (v := ?v_fw7_8) rfl (by kernel_rfl) (by kernel_rfl) (by kernel_rfl) (fun _ _ _ h => h) (Or.inl ⟨by rfl, ?y_fw7_8⟩) (by assumption) ?_
          case y_fw7_8 => intro w hSw; (try dsimp only at hSw); go_simp; with_reducible rfl
          try simp only [Act.put, List.setIfInBounds_toArray, List.set_cons_zero, List.set_cons_succ]
          refine wpAnyH_take (i := 9) (oi := { dst := some 32, op := Op.fieldAddr 93 (Operand.tmp 31) 0, type := 0, pos := "law.go:55", after := #[{ on := 8, ground := Ground.data }], guard := none }) (v := ?v_fw7_9) rfl (by kernel_rfl) (by kernel_rfl) (by kernel_rfl) (fun _ _ _ h => h) (Or.inl ⟨by rfl, ?y_fw7_9⟩) (by assumption) ?_
          case y_fw7_9 => intro w hSw; (try dsimp only at hSw); go_simp; with_reducible rfl
          try simp only [Act.put, List.setIfInBounds_toArray, List.set_cons_zero, List.set_cons_succ]
          refine wpAnyH_take (i := 10) (oi := { dst := some 33, op := Op.load 3 (Operand.tmp 32), type := 3, pos := "law.go:55", after := #[{ on := 9, ground := Ground.data }], guard := none }) (v := ?v_fw7_10) rfl (by kernel_rfl) (by kernel_rfl) (by kernel_rfl) (fun _ _ _ h => h) (Or.inl ⟨by rfl, ?y_fw7_10⟩) (by assumption) ?_
          case y_fw7_10 => intro w hSw; (try dsimp only at hSw); go_simp; with_reducible rfl
          try simp only [Act.put, List.setIfInBounds_toArray, List.set_cons_zero, List.set_cons_succ]
          refine wpAnyH_take (i := 11) (oi := { dst := some 34, op := Op.binOp BinOp.sub 3 (Operand.tmp 28) (Operand.tmp 33) 3, type := 3, pos := "law.go:55", after := #[{ on := 5, ground := Ground.data }, { on := 10, ground := Ground.data }], guard := none }) (v := ?v_fw7_11) rfl (by kernel_rfl) (by kernel_rfl) (by kernel_rfl) (fun _ _ _ h => h) (Or.inl ⟨by rfl, ?y_fw7_11⟩) (by assumption) ?_
          case y_fw7_11 => intro w hSw; (try dsimp only at hSw); go_simp; with_reducible rfl
          try simp only [Act.put, List.setIfInBounds_toArray, List.set_cons_zero, List.set_cons_succ]
          refine wpAnyH_take (i := 12) (oi := { dst := some 35, op := Op.binOp BinOp.add 3 (Operand.tmp 34) (Operand.const (Value.int IntKind.i64 1)) 3, type := 3, pos := "law.go:55", after := #[{ on := 11, ground := Ground.data }], guard := none }) (v := ?v_fw7_12) rfl (by kernel_rfl) (by kernel_rfl) (by kernel_rfl) (fun _ _ _ h => h) (Or.inl ⟨by rfl, ?y_fw7_12⟩) (by assumption) ?_
          case y_fw7_12 => intro w hSw; (try dsimp only at hSw); go_simp; with_reducible rfl
          try simp only [Act.put, List.setIfInBounds_toArray, List.set_cons_zero, List.set_cons_succ]
          refine wpAnyH_take (i := 13) (oi := { dst := some 36, op := Op.binOp BinOp.mul 3 (Operand.tmp 23) (Operand.tmp 35) 3, type := 3, pos := "law.go:55", after := #[{ on := 0, ground := Ground.data }, { on := 12, ground := Ground.data }], guard := none }) (v := ?v_fw7_13) rfl (by kernel_rfl) (by kernel_rfl) (by kernel_rfl) (fun _ _ _ h => h) (Or.inl ⟨by rfl, ?y_fw7_13⟩) (by assumption) ?_
          case y_fw7_13 => intro w hSw; (try dsimp only at hSw); go_simp; with_reducible rfl
          try simp only [Act.put, List.setIfInBounds_toArray, List.set_cons_zero, List.set_cons_succ]
          refine wpAnyH_take (i := 14) (oi := { dst := some 5, op := Op.assign (Operand.tmp 36), type := 3, pos := "law.go:55", after := #[{ on := 13, ground := Ground.data }, { on := 0, ground := Ground.phase }, { on := 1, ground := Ground.phase }, { on := 2, ground := Ground.phase }, { on := 3, ground := Ground.phase }, { on := 4, ground := Ground.phase }, { on := 5, ground := Ground.phase }, { on := 6, ground := Ground.phase }, { on := 7, ground := Ground.phase }, { on := 8, ground := Ground.phase }, { on := 9, ground := Ground.phase }, { on := 10, ground := Ground.phase }, { on := 11, ground := Ground.phase }, { on := 12, ground := Ground.phase }, { on := 13, ground := Ground.phase }], guard := none }) (v := ?v_fw7_14) rfl (by kernel_rfl) (by kernel_rfl) (by kernel_rfl) (fun _ _ _ h => h) (Or.inl ⟨by rfl, ?y_fw7_14⟩) (by assumption) ?_
          case y_fw7_14 => intro w hSw; (try dsimp only at hSw); go_simp; with_reducible rfl
          try simp only [Act.put, List.setIfInBounds_toArray, List.set_cons_zero, List.set_cons_succ]
          refine wpAnyH_done (by kernel_rfl) ?_ _
          rotate_left 1
          go_wp2_with fail
          go_roundg (ball.length - (i + 1))
          case measure => omega
          case rel => exact ⟨i + 1, _, by omega, rfl, by simp, rfl, S3⟩
        · have hz1 : ¬ (i : Int) < (ball.length : Int) := by omega
          clear hlt
          go_wp2_with fail
          go_loopg [5, 7] r.ls.length (fun g s5 s7 wx => ∃ (i : Nat) (n : Int), i ≤ r.ls.length ∧ g = r.ls.length - i ∧ s7 = .int .i64 (i : Int) ∧ s5 = .int .i64 n ∧ Hid (St r w wx))
          case atStart => exact ⟨0, n, by omega, by omega, rfl, rfl, hS⟩
          case round =>
            clear hS
            obtain ⟨k, m, hkk, rfl, rfl, rfl, hS⟩ := hrel
            obtain ⟨r0, r1, r2, r3, r4⟩ := hS.out.c
            by_cases hlk : k < r.ls.length
            · obtain ⟨l, hl⟩ : ∃ l, r.ls[k]? = some l := ⟨r.ls[k]'hlk, List.getElem?_eq_getElem _⟩
              obtain ⟨g, o, hla, k1, k2, k3⟩ := HL.out k _ hl
              have q3 := cell_lo hS.out.bl k3
              rw [hla] at r4
              have hy0 : (0 : Int) ≤ (k : Int) := by omega
              have hy1 : (k : Int) < (r.ls.length : Int) := by omega
              clear hl k1 k2 k3 hla
              obtain ⟨fr, to, sr⟩ := l
              simp only at *
              cases sr
              · go_wp2_with fail
                go_roundg (r.ls.length - (k + 1))
                case measure => omega
                case rel => exact ⟨k + 1, _, by omega, rfl, by simp, rfl, hS⟩
              · go_wp2_with fail
                go_roundg (r.ls.length - (k + 1))
                case measure => omega
                case rel => exact ⟨k + 1, _, by omega, rfl, by simp, rfl, hS⟩
            · have hy1 : ¬ (k : Int) < (r.ls.length : Int) := by omega
              have HB := Lib.hid hS.out.bl
              clear hS hlk
              go_wp2_with fail
              go_returns
              exact ⟨_, rfl, HB.out⟩
    · rw [show isBallB r ball = false from by simpa using hI] at IB
      go_enter Tryd.func34, Tryd.ntmps34
      obtain ⟨r0, r1, r2, r3, r4⟩ := S0.out.c
      go_wp2_with fail
      refine (FA.out _ S0.out.bl).mono ?_
      rintro e w1 ⟨rfl, hb⟩
      have S1 := Lib.hid (S0.out.go hb)
      clear hb S0 r0 r1 r2 r3 r4
      obtain ⟨r0, r1, r2, r3, r4⟩ := S1.out.c
      go_wp2_with fail
      refine (IB.out _ S1.out.bl).mono ?_
      rintro e w2 ⟨rfl, hb⟩
      have S2 := Lib.hid (S1.out.go hb)
      clear hb S1 r0 r1 r2 r3 r4 FA IB
      go_wp2_with fail
      go_returns
      exact ⟨true, rfl, S2.out.bl⟩
  · have hF' : (faultN r == 0) = false := by simpa using hF
    generalize faultN r = E at *
    clear IB
    go_enter Tryd.func34, Tryd.ntmps34
    obtain ⟨r0, r1, r2, r3, r4⟩ := S0.out.c
    go_wp2_with fail
    refine (FA.out _ S0.out.bl).mono ?_
    rintro e w1 ⟨rfl, hb⟩
    have S1 := Lib.hid (S0.out.go hb)
    clear hb S0 r0 r1 r2 r3 r4 FA
    go_wp2_with fail
    go_returns
    exact ⟨true, rfl, S1.out.bl⟩

end Go.Proofs.YtaloffdkadhhnaaDoor
