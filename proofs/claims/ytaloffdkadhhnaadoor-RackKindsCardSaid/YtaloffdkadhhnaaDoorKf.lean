/- The contracts of the reference's Kind and Of. -/
import Derived.Test.YtaloffdkadhhnaaDoorRc
import Derived.Test.YtaloffdkadhhnaaDoorGn
set_option linter.unusedVariables false
set_option linter.unusedSimpArgs false
namespace Go.Proofs.YtaloffdkadhhnaaDoor
open Go.RowKit

attribute [local go_sem] Oper.semAt_some

set_option maxRecDepth 100000 in
set_option maxHeartbeats 4000000 in
theorem refKind_any (r : Rk) (xs : List Int) (a : Option Addr) (c : Nat) (w : World) (ok : r.Ok) (hl : hasL r xs = true) (hX : IntsAt w a xs) (hc : xs.length ≤ c) :
    Calls Tryd.prog 24 #[r.val, .slice a xs.length c] w fun e w' => e = .returned (.int .u8 (kindN r (setN xs))) ∧ Below w.heap.size w w' := by
  have S0 := Lib.hid (St.start r w)
  cases xs with
  | nil =>
    rw [knd_nil]
    clear hX hl ok
    unfold rCells at S0
    unfold Rk.val
    simp only [List.length_nil] at *
    go_enter Tryd.func24, Tryd.ntmps24
    go_wp2_with fail
    go_returns
    exact ⟨by first | done | rfl, S0.out.bl⟩
  | cons x ys =>
    by_cases h1 : (x :: ys).length = 1
    · rw [knd_one hl h1, h1]
      clear hX hl ok h1 hc
      unfold rCells at S0
      unfold Rk.val
      go_enter Tryd.func24, Tryd.ntmps24
      go_wp2_with fail
      go_returns
      exact ⟨by first | done | rfl, S0.out.bl⟩
    · have HRC := Lib.hid (fun W c2 (hb : Below w.heap.size w W) => reached_any r (x :: ys) x a c c2 W ok hl rfl (hX.lo hb))
      have HKN := Lib.hid (fun zs hR hC => knd_rch (zs := zs) hl h1 hR hC)
      obtain ⟨g, o, rfl, k0⟩ := hX 0 x rfl
      have K0 := Lib.hid k0
      have hlx : 1 ≤ (x :: ys).length := by simp
      have hxl : (x :: ys).length ≤ 16 := by
        obtain ⟨q1, q2⟩ := hasL_out hl
        have hp := (@pinsN_bd r).2
        have := els_setN q1 (fun y hy => ⟨(q2 y hy).1, by have := (q2 y hy).2; omega⟩)
        rw [← this]; exact els_len
      generalize kindN r (setN (x :: ys)) = KN at *
      obtain ⟨n, hn⟩ : ∃ n, n = (x :: ys).length := ⟨_, rfl⟩
      rw [← hn] at HRC HKN h1 hc hxl hlx ⊢
      have hn0 : ((n : Int) == 0) = false := by simp; omega
      have hn1 : ((n : Int) == 1) = false := by simp; omega
      have hc0 : ¬ c = 0 := by omega
      have hc1 : (1 : Int) ≤ (c : Int) := by omega
      have hnp : (0 : Int) < (n : Int) := by omega
      clear hn hX hl ok h1 k0
      unfold rCells at S0
      unfold Rk.val at *
      go_enter Tryd.func24, Tryd.ntmps24
      go_upto_region 5 with fail
      obtain ⟨w0, hw0⟩ : ∃ W, W = w.alloc (.cells #[.int .i64 r.rows, .int .i64 r.mid, .int .i64 r.gap, .int .i64 r.reach, .slice r.la r.ls.length r.lc] 24) := ⟨_, rfl⟩
      rw [← hw0] at S0 ⊢
      clear hw0
      have SA := Lib.hid (S0.out.go (Below.drew (Below.refl w0.heap.size w0)))
      have HRD := Lib.hid (fun c2 => HRC.out w0.drew c2 SA.out.bl)
      clear HRC S0
      go_wp2_with fail
      refine wp_region_held_drew (S := (fun W => W.cell? ⟨w.heap.size, 0, none⟩ = some (.int .i64 r.rows) ∧ W.cell? ⟨w.heap.size, 1, none⟩ = some (.int .i64 r.mid) ∧ W.cell? ⟨w.heap.size, 2, none⟩ = some (.int .i64 r.gap) ∧ W.cell? ⟨w.heap.size, 3, none⟩ = some (.int .i64 r.reach) ∧ W.cell? ⟨w.heap.size, 4, none⟩ = some (.slice r.la r.ls.length r.lc))) (by kernel_rfl) ?_ (fun hHeld => ?_)
      · (try dsimp only) <;> (with_reducible first | exact SB.out.c | exact SA.out.c)
      refine wpAnyH_take (i := 0) (oi := { dst := some 14, op := Op.load 24 (Operand.tmp 2), type := 24, pos := "ref.go:119", after := #[], guard := none }) (v := ?v_kf5_0) rfl (by kernel_rfl) (by kernel_rfl) (by kernel_rfl) (fun _ _ _ h => h) (Or.inl ⟨by rfl, ?y_kf5_0⟩) (by assumption) ?_
      case y_kf5_0 => intro w hSw; (try dsimp only at hSw); go_simp; with_reducible rfl
      try simp only [Act.put, List.setIfInBounds_toArray, List.set_cons_zero, List.set_cons_succ]
      refine wpAnyH_take (i := 1) (oi := { dst := some 15, op := Op.move (Operand.tmp 1), type := 25, pos := "ref.go:119", after := #[], guard := none }) (v := ?v_kf5_1) rfl (by kernel_rfl) (by kernel_rfl) (by kernel_rfl) (fun _ _ _ h => h) (Or.inl ⟨by rfl, ?y_kf5_1⟩) (by assumption) ?_
      case y_kf5_1 => intro w hSw; (try dsimp only at hSw); go_simp; with_reducible rfl
      try simp only [Act.put, List.setIfInBounds_toArray, List.set_cons_zero, List.set_cons_succ]
      refine wpAnyH_take (i := 2) (oi := { dst := some 16, op := Op.move (Operand.tmp 1), type := 25, pos := "ref.go:119", after := #[], guard := none }) (v := ?v_kf5_2) rfl (by kernel_rfl) (by kernel_rfl) (by kernel_rfl) (fun _ _ _ h => h) (Or.inl ⟨by rfl, ?y_kf5_2⟩) (by assumption) ?_
      case y_kf5_2 => intro w hSw; (try dsimp only at hSw); go_simp; with_reducible rfl
      try simp only [Act.put, List.setIfInBounds_toArray, List.set_cons_zero, List.set_cons_succ]
      refine wpAnyH_take (i := 3) (oi := { dst := some 17, op := Op.slice 25 (Operand.tmp 16) none (some (Operand.const (Value.int IntKind.i64 1))) none, type := 25, pos := "ref.go:119", after := #[{ on := 2, ground := Ground.data }], guard := none }) (v := ?v_kf5_3) rfl (by kernel_rfl) (by kernel_rfl) (by kernel_rfl) (fun _ _ _ h => h) (Or.inl ⟨by rfl, ?y_kf5_3⟩) (by assumption) ?_
      case y_kf5_3 => intro w hSw; (try dsimp only at hSw); go_simp; with_reducible rfl
      try simp only [Act.put, List.setIfInBounds_toArray, List.set_cons_zero, List.set_cons_succ]
      refine wpAnyH_take (i := 6) (oi := { dst := some 20, op := Op.move (Operand.tmp 1), type := 25, pos := "ref.go:119", after := #[], guard := none }) (v := ?v_kf5_4) rfl (by kernel_rfl) (by kernel_rfl) (by kernel_rfl) (fun _ _ _ h => h) (Or.inl ⟨by rfl, ?y_kf5_4⟩) (by assumption) ?_
      case y_kf5_4 => intro w hSw; (try dsimp only at hSw); go_simp; with_reducible rfl
      try simp only [Act.put, List.setIfInBounds_toArray, List.set_cons_zero, List.set_cons_succ]
      refine wpAnyH_take (i := 7) (oi := { dst := some 21, op := Op.call { callee := Callee.builtin Builtin.len, args := #[Operand.tmp 20], argTypes := #[25] }, type := 3, pos := "ref.go:119", after := #[{ on := 6, ground := Ground.data }], guard := none }) (v := ?v_kf5_5) rfl (by kernel_rfl) (by kernel_rfl) (by kernel_rfl) (fun _ _ _ h => h) (Or.inl ⟨by rfl, ?y_kf5_5⟩) (by assumption) ?_
      case y_kf5_5 => intro w hSw; (try dsimp only at hSw); go_simp; with_reducible rfl
      try simp only [Act.put, List.setIfInBounds_toArray, List.set_cons_zero, List.set_cons_succ]
      refine wpAnyH_ready (rs := [4]) (by kernel_rfl) (by simp) ?_
      refine AllReadyH.cons (o := { dst := some 18, op := Op.call { callee := Callee.value (Operand.func 59), args := #[Operand.tmp 14, Operand.tmp 15, Operand.tmp 17], argTypes := #[24, 25, 25] }, type := 25, pos := "ref.go:119", after := #[{ on := 0, ground := Ground.data }, { on := 1, ground := Ground.data }, { on := 3, ground := Ground.data }], guard := none }) rfl (fun K hK => ?_) ?_
      go_simp
      (first | (go_at_call 59; (with_reducible refine (HRD.out _).mono ?_); rintro e wB ⟨zs, a', c', rfl, hR, hC, hb⟩; have SB := Lib.hid (SA.out.go hb); have HK := Lib.hid (HKN.out zs hR hC); clear hb hR hC))
      go_wp2_with fail
      refine hK.out _ _ ?_ (fun hHeld => ?_)
      · (try dsimp only) <;> (with_reducible first | exact SB.out.c | exact SA.out.c)
      clear hK K
      try simp only [Act.put, List.setIfInBounds_toArray, List.set_cons_zero, List.set_cons_succ]
      refine wpAnyH_take (i := 5) (oi := { dst := some 19, op := Op.call { callee := Callee.builtin Builtin.len, args := #[Operand.tmp 18], argTypes := #[25] }, type := 3, pos := "ref.go:119", after := #[{ on := 4, ground := Ground.data }], guard := none }) (v := ?v_kf5_6) rfl (by kernel_rfl) (by kernel_rfl) (by kernel_rfl) (fun _ _ _ h => h) (Or.inl ⟨by rfl, ?y_kf5_6⟩) (by assumption) ?_
      case y_kf5_6 => intro w hSw; (try dsimp only at hSw); go_simp; with_reducible rfl
      try simp only [Act.put, List.setIfInBounds_toArray, List.set_cons_zero, List.set_cons_succ]
      refine wpAnyH_take (i := 8) (oi := { dst := some 22, op := Op.binOp BinOp.eql 3 (Operand.tmp 19) (Operand.tmp 21) 3, type := 4, pos := "ref.go:119", after := #[{ on := 5, ground := Ground.data }, { on := 7, ground := Ground.data }], guard := none }) (v := ?v_kf5_7) rfl (by kernel_rfl) (by kernel_rfl) (by kernel_rfl) (fun _ _ _ h => h) (Or.inl ⟨by rfl, ?y_kf5_7⟩) (by assumption) ?_
      case y_kf5_7 => intro w hSw; (try dsimp only at hSw); go_simp; with_reducible rfl
      try simp only [Act.put, List.setIfInBounds_toArray, List.set_cons_zero, List.set_cons_succ]
      refine wpAnyH_take (i := 9) (oi := { dst := some 13, op := Op.assign (Operand.tmp 22), type := 4, pos := "ref.go:119", after := #[{ on := 8, ground := Ground.data }, { on := 4, ground := Ground.chain }], guard := none }) (v := ?v_kf5_8) rfl (by kernel_rfl) (by kernel_rfl) (by kernel_rfl) (fun _ _ _ h => h) (Or.inl ⟨by rfl, ?y_kf5_8⟩) (by assumption) ?_
      case y_kf5_8 => intro w hSw; (try dsimp only at hSw); go_simp; with_reducible rfl
      try simp only [Act.put, List.setIfInBounds_toArray, List.set_cons_zero, List.set_cons_succ]
      refine wpAnyH_done (by kernel_rfl) ?_ _
      rotate_left 1
      exact AllReadyH.nil
      have kx : wB.cell? ⟨g, o, none⟩ = some (.int .i64 x) := cell_lo SB.out.bl K0.out
      have HB := Lib.hid SB.out.bl
      clear SA SB HRD HKN
      by_cases hz : zs.length = n
      · have hz' : ((zs.length : Int) == (n : Int)) = true := by simp [hz]
        have hV := Lib.hid (show KN = 2 by rw [HK.out, if_pos hz])
        clear HK hz
        go_wp2_with fail
        go_returns
        exact ⟨by rw [hV.out]; first | done | rfl, HB.out⟩
      · have hz' : ((zs.length : Int) == (n : Int)) = false := by simp; omega
        by_cases hx0 : x = 0
        · have hV := Lib.hid (show KN = 4 by rw [HK.out, if_neg hz, if_pos hx0])
          subst hx0
          clear HK hz
          go_wp2_with fail
          go_returns
          exact ⟨by rw [hV.out]; first | done | rfl, HB.out⟩
        · have hV := Lib.hid (show KN = 3 by rw [HK.out, if_neg hz, if_neg hx0])
          have hx0' : (x == 0) = false := by simpa using hx0
          clear HK hz hx0
          go_wp2_with fail
          go_returns
          exact ⟨by rw [hV.out]; first | done | rfl, HB.out⟩

theorem bit_of (b i : Nat) : (((b : Int) / 2 ^ i).tmod 2 == 1) = b.testBit i := by
  have e0 : ((b : Int) / 2 ^ i) = ((b / 2 ^ i : Nat) : Int) := by simp
  rw [e0, Nat.testBit_eq_decide_div_mod_eq]
  generalize b / 2 ^ i = q
  rw [Int.tmod_eq_emod_of_nonneg (by omega), Bool.eq_iff_iff, beq_iff_eq, decide_eq_true_iff]
  omega

/-- As RetI, and with room for its elements. -/
def RetC (zs : List Int) (w : World) (e : Ending) (w' : World) : Prop := ∃ a c, e = .returned (.slice a zs.length c) ∧ IntsAt w' a zs ∧ (a = none → zs = [] ∧ c = 0) ∧ zs.length ≤ c ∧ Below w.heap.size w w'
theorem OwnI.out2 {w W : World} {v : Value} {zs : List Int} (h : OwnI w W v zs) : ∃ a c, v = .slice a zs.length c ∧ IntsAt W a zs ∧ (a = none → zs = [] ∧ c = 0) ∧ zs.length ≤ c := by
  obtain ⟨a, c, rfl, h1, h2⟩ := h.out
  refine ⟨a, c, rfl, h1, h2, ?_⟩
  rcases h.ow.2 with ⟨e1, e2⟩ | ⟨g, cap, cur, e1, _, _, e2, _⟩
  · omega
  · simp only [Value.slice.injEq] at e1; omega

set_option maxRecDepth 100000 in
set_option maxHeartbeats 4000000 in
theorem of_any (r : Rk) (N : Nat) (w : World) (ok : r.Ok) (hN : N < 1024) (hp : ∀ i, N.testBit i = true → (i : Int) < pinsN r.rows) :
    Calls Tryd.prog 25 #[r.val, .int .i64 (N : Int)] w (RetC (els N) w) := by
  obtain ⟨P, hP⟩ : ∃ P : Nat, (P : Int) = pinsN r.rows := ⟨(pinsN r.rows).toNat, by have := (@pinsN_bd r).1; omega⟩
  have hP10 : P ≤ 10 := by have := (@pinsN_bd r).2; omega
  have PN := Lib.hid (fun W => refPins_any r W ok.r1 ok.r2)
  rw [← hP] at PN
  have HEL := Lib.hid (show elsP N P = els N from elsP_els (fun i hi => by have := hp i hi; omega) (by omega))
  rw [← HEL.out]
  have S0 := Lib.hid (St.start r w)
  have HEP := Lib.hid (fun n => elsP_succ N n)
  have HLN := Lib.hid (fun n => elsP_len N n)
  have HBT := Lib.hid (fun (i : Nat) => show (((N : Int) / 2 ^ i).tmod 2 == 1) = N.testBit i from bit_of N i)
  obtain ⟨i3, hi3, hy0, hy1, hy2⟩ := info_parts info3
  clear hP HEL ok hp
  unfold rCells at S0
  unfold Rk.val at *
  go_enter Tryd.func25, Tryd.ntmps25
  go_upto_region 1 with fail
  obtain ⟨w0, hw0⟩ : ∃ W, W = w.alloc (.cells #[.int .i64 r.rows, .int .i64 r.mid, .int .i64 r.gap, .int .i64 r.reach, .slice r.la r.ls.length r.lc] 24) := ⟨_, rfl⟩
  rw [← hw0] at S0 ⊢
  clear hw0
  have O0 := Lib.hid (OwnI.nil w0)
  go_wp2_with fail
  go_loopg [5, 6] P (fun g s5 s6 wx => ∃ (p : Nat), p ≤ P ∧ g = P - p ∧ s6 = .int .i64 (p : Int) ∧ Hid (OwnI w0 wx s5 (elsP N p)))
  case atStart => exact ⟨0, by omega, by omega, rfl, O0⟩
  case round =>
    obtain ⟨p, hp, rfl, rfl, hO⟩ := hrel
    clear O0
    have SA := Lib.hid (S0.out.go hO.out.bl)
    obtain ⟨r0, r1, r2, r3, r4⟩ := SA.out.c
    by_cases hlt : p < P
    · have hz0 : (0 : Int) ≤ (p : Int) := by omega
      have hz1 : (p : Int) < (P : Int) := by omega
      have HT := Lib.hid (HEP.out p)
      have HLn := Lib.hid (HLN.out p)
      have HB := Lib.hid (HBT.out p)
      generalize hys : elsP N p = ys at *
      generalize hY2 : elsP N (p + 1) = Y2 at *
      have HL2 := Lib.hid (show ys.length + 1 ≤ maxLen by have := HLn.out; unfold maxLen; omega)
      have HL3 := Lib.hid (show (ys.length + 1) * 8 ≤ 140737488355328 by have := HLn.out; omega)
      clear hys HEP HLN HBT hlt
      go_wp2_with fail
      refine (PN.out _).mono ?_
      rintro e w1 ⟨rfl, hb⟩
      have O1 := Lib.hid (hO.out.lo hb)
      have HSZ := Lib.hid O1.out.bl.size
      clear r0 r1 r2 r3 r4 hO SA hb
      cases hb : N.testBit p
      · rw [hb] at HB
        have hq := HB.out
        have HN := Lib.hid (show Y2 = ys by rw [HT.out, hb]; simp)
        clear hb HB HT
        go_wp2_with fail
        go_roundg (P - (p + 1))
        case measure => omega
        case rel => exact ⟨p + 1, by omega, rfl, by simp, by rw [hY2, HN.out]; exact O1⟩
      · rw [hb] at HB
        have hq := HB.out
        have HN := Lib.hid (show Y2 = ys ++ [(p : Int)] by rw [HT.out, hb]; rfl)
        clear hb HB HT
        go_wp2_with (at_builtin; go_must (refine wpList_append_lies _ rfl _ _ 25 rfl w0.heap.size 3 i3 (.int .i64 0) 1 8 Tryd.underlying25 hi3 hy0 hy1 hy2 rfl (by decide) _ ys.length (ys.map (Value.int .i64)) rfl (O1.out.ow.alloc _) ⟨w1.heap.size, 0, none⟩ 1 1 [.int .i64 (p : Int)] rfl rfl (World.news_of_block (cs := #[.int .i64 (p : Int)]) (t := 3) (fr := (0, 0)) (heap_alloc_new w1 _)) (by simp [Value.oneCell']) (by omega) (by have := HL2.out; exact this) (by have := HL3.out; exact this) (by have := HSZ.out; simp; omega) (w1.heap.size + 1) (by simp) ?_); intro gA capA w2 hown hgrow hat hlt1; have OP := Lib.hid (O1.out.push hgrow hown); clear hown hgrow hat hlt1)
        go_roundg (P - (p + 1))
        case measure => omega
        case rel => exact ⟨p + 1, by omega, rfl, by simp, by rw [hY2, HN.out]; exact OP⟩
    · have hz1 : ¬ (p : Int) < (P : Int) := by omega
      obtain rfl : p = P := by omega
      obtain ⟨aL, cL, rfl, hI, hN0, hcc⟩ := hO.out.out2
      have HI := Lib.hid hI
      have HN0 := Lib.hid hN0
      have HC := Lib.hid hcc
      clear hI hN0 hcc hlt hO HEP HLN HBT
      go_wp2_with fail
      refine (PN.out _).mono ?_
      rintro e w1 ⟨rfl, hb⟩
      have SB := Lib.hid (SA.out.go hb)
      have HI2 := Lib.hid (HI.out.lo hb)
      clear hb SA HI r0 r1 r2 r3 r4
      go_wp2_with fail
      go_returns
      exact ⟨aL, cL, rfl, HI2.out, HN0.out, HC.out, SB.out.bl⟩

end Go.Proofs.YtaloffdkadhhnaaDoor
