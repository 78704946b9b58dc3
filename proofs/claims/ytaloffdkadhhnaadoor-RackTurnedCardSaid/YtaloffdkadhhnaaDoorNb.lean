/- The contract of the reference's Neighbours. -/
import Derived.Test.YtaloffdkadhhnaaDoorGn
import Derived.Test.YtaloffdkadhhnaaDoorKr
set_option linter.unusedVariables false
set_option linter.unusedSimpArgs false
namespace Go.Proofs.YtaloffdkadhhnaaDoor
open Go.RowKit

attribute [local go_sem] Oper.semAt_some

theorem next_same {r : Rk} {a b : Int} (ok : r.Ok) (ha : 0 ≤ a ∧ a ≤ 9) (hb : 0 ≤ b ∧ b ≤ 9) (h : rowN a = rowN b) : nextB r a b = (decide (kN a - kN b = 1) || decide (kN b - kN a = 1)) := by
  have h1 := rowN_bd ha.1 ha.2
  have h2 := rowN_bd hb.1 hb.2
  have g1 := ok.g1
  unfold nextB besB
  have hd : dist (rowN a) (rowN b) = 0 := by unfold dist; rw [h]; simp
  rw [if_pos hd, Bool.eq_iff_iff]
  simp only [beq_iff_eq, Bool.or_eq_true, decide_eq_true_eq]
  unfold boardN
  rw [h]
  have hk : kN a - kN b = -3 ∨ kN a - kN b = -2 ∨ kN a - kN b = -1 ∨ kN a - kN b = 0 ∨ kN a - kN b = 1 ∨ kN a - kN b = 2 ∨ kN a - kN b = 3 := by omega
  have he : r.gap * (2 * kN a - rowN b) = r.gap * (2 * kN b - rowN b) + r.gap * (2 * (kN a - kN b)) := by rw [← Int.mul_add]; congr 1; omega
  rw [he]
  generalize r.gap * (2 * kN b - rowN b) = B
  unfold dist
  rcases hk with hk | hk | hk | hk | hk | hk | hk <;> rw [hk] <;> split <;> omega
theorem next_other {r : Rk} {a b : Int} (ok : r.Ok) (ha : 0 ≤ a ∧ a ≤ 9) (hb : 0 ≤ b ∧ b ≤ 9) (h : rowN a ≠ rowN b) :
    nextB r a b = ((decide (rowN a - rowN b = 1) || decide (rowN b - rowN a = 1)) && (decide (boardN r a - boardN r b = r.gap) || decide (boardN r a - boardN r b = -r.gap))) := by
  have g1 := ok.g1
  unfold nextB besB
  have hd : ¬ dist (rowN a) (rowN b) = 0 := by unfold dist; split <;> omega
  rw [if_neg hd]
  generalize rowN a = x at *
  generalize rowN b = y at *
  generalize boardN r a = p at *
  generalize boardN r b = q at *
  by_cases h1 : dist x y = 1
  · rw [if_pos h1, Bool.eq_iff_iff]
    unfold dist at h1 ⊢
    simp only [beq_iff_eq, Bool.and_eq_true, Bool.or_eq_true, decide_eq_true_eq]
    split at h1 <;> split <;> omega
  · rw [if_neg h1]
    unfold dist at h1
    have : ¬ (x - y = 1 ∨ y - x = 1) := by split at h1 <;> omega
    simp only [not_or] at this
    simp [this.1, this.2]

set_option maxRecDepth 100000 in
set_option maxHeartbeats 4000000 in
theorem nbr2_any (r : Rk) (a b : Int) (w : World) (ok : r.Ok) (ha : 0 ≤ a ∧ a ≤ 9) (hb : 0 ≤ b ∧ b ≤ 9) :
    Calls Tryd.prog 91 #[r.val, .int .i64 a, .int .i64 b] w fun e w' => e = .returned (.bool (nextB r a b)) ∧ Below w.heap.size w w' := by
  have PLa := Lib.hid (fun W => place2_any a W ha.1 ha.2)
  have PLb := Lib.hid (fun W => place2_any b W hb.1 hb.2)
  have BDa := Lib.hid (fun W => board2_any r a W ok ha.1 ha.2)
  have BDb := Lib.hid (fun W => board2_any r b W ok hb.1 hb.2)
  have S0 := Lib.hid (St.start r w)
  have h1 := rowN_bd ha.1 ha.2
  have h2 := rowN_bd hb.1 hb.2
  have hba := boardN_bd ok ha.1 ha.2
  have hbb := boardN_bd ok hb.1 hb.2
  have hg1 := ok.g1; have hg2 := ok.g2
  have NS := Lib.hid (fun h => next_same ok ha hb h)
  have NO := Lib.hid (fun h => next_other ok ha hb h)
  generalize nextB r a b = NX at *
  generalize boardN r a = pa at *
  generalize boardN r b = pb at *
  generalize rowN a = ra at *
  generalize rowN b = rb at *
  generalize kN a = ka at *
  generalize kN b = kb at *
  have e1 : IntKind.i64.wrap (ka - kb) = ka - kb := IntWalk.i64_in _ (by omega)
  have e2 : IntKind.i64.wrap (kb - ka) = kb - ka := IntWalk.i64_in _ (by omega)
  have e3 : IntKind.i64.wrap (ra - rb) = ra - rb := IntWalk.i64_in _ (by omega)
  have e4 : IntKind.i64.wrap (rb - ra) = rb - ra := IntWalk.i64_in _ (by omega)
  have e5 : IntKind.i64.wrap (pa - pb) = pa - pb := IntWalk.i64_in _ (by omega)
  have e6 : IntKind.i64.wrap (-r.gap) = -r.gap := IntWalk.i64_in _ (by omega)
  clear ok
  unfold rCells at S0
  unfold Rk.val at *
  by_cases hr : ra = rb
  · have hN := Lib.hid (NS.out hr)
    subst hr
    clear NS NO BDa BDb e3 e4 e5 e6
    by_cases h5 : ka - kb = 1
    · have hV := Lib.hid (show NX = true by rw [hN.out]; simp [h5])
      clear hN
      go_enter Tryd.func91, Tryd.ntmps91
      go_wp2_with fail
      refine (PLa.out _).mono ?_
      rintro e w1 ⟨rfl, rfl⟩
      go_wp2_with fail
      refine (PLb.out _).mono ?_
      rintro e w1 ⟨rfl, rfl⟩
      go_wp2_with fail
      go_returns
      exact ⟨by rw [hV.out]; first | done | rfl, S0.out.bl⟩
    · have h6 : (ka - kb == 1) = false := by simpa using h5
      have hV := Lib.hid (show NX = (kb - ka == 1) by rw [hN.out]; simp only [h5, decide_false, Bool.false_or]; rfl)
      clear hN h5
      go_enter Tryd.func91, Tryd.ntmps91
      go_wp2_with fail
      refine (PLa.out _).mono ?_
      rintro e w1 ⟨rfl, rfl⟩
      go_wp2_with fail
      refine (PLb.out _).mono ?_
      rintro e w1 ⟨rfl, rfl⟩
      go_wp2_with fail
      go_returns
      exact ⟨by rw [hV.out]; first | done | rfl, S0.out.bl⟩
  · have hN := Lib.hid (NO.out hr)
    have hr' : (ra == rb) = false := by simpa using hr
    clear NS NO e1 e2 hr
    obtain ⟨c1, hc1⟩ : ∃ c, (ra - rb == 1) = c := ⟨_, rfl⟩
    obtain ⟨c2, hc2⟩ : ∃ c, (rb - ra == 1) = c := ⟨_, rfl⟩
    obtain ⟨c3, hc3⟩ : ∃ c, (pa - pb == r.gap) = c := ⟨_, rfl⟩
    obtain ⟨c4, hc4⟩ : ∃ c, (pa - pb == -r.gap) = c := ⟨_, rfl⟩
    have hV := Lib.hid (show NX = ((c1 || c2) && (c3 || c4)) by rw [hN.out, ← hc1, ← hc2, ← hc3, ← hc4]; first | rfl | simp [Bool.beq_eq_decide_eq])
    clear hN
    go_enter Tryd.func91, Tryd.ntmps91
    go_wp2_with fail
    refine (PLa.out _).mono ?_
    rintro e w1 ⟨rfl, rfl⟩
    go_wp2_with fail
    refine (PLb.out _).mono ?_
    rintro e w1 ⟨rfl, rfl⟩
    have SA := Lib.hid (S0.out.go (Below.drew (Below.refl _ _)))
    go_wp2_with fail
    refine wp_region_held_drew (S := (fun W => W.cell? ⟨w.heap.size, 0, none⟩ = some (.int .i64 r.rows) ∧ W.cell? ⟨w.heap.size, 1, none⟩ = some (.int .i64 r.mid) ∧ W.cell? ⟨w.heap.size, 2, none⟩ = some (.int .i64 r.gap) ∧ W.cell? ⟨w.heap.size, 3, none⟩ = some (.int .i64 r.reach) ∧ W.cell? ⟨w.heap.size, 4, none⟩ = some (.slice r.la r.ls.length r.lc))) (by kernel_rfl) ?_ (fun hHeld => ?_)
    · (try dsimp only) <;> (with_reducible first | exact SC.out.c | exact SB.out.c | exact SA.out.c)
    refine wpAnyH_take (i := 0) (oi := { dst := some 35, op := Op.load 24 (Operand.tmp 3), type := 24, pos := "ref.go:91", after := #[], guard := none }) (v := ?v_nb5_0) rfl (by kernel_rfl) (by kernel_rfl) (by kernel_rfl) (fun _ _ _ h => h) (Or.inl ⟨by rfl, ?y_nb5_0⟩) (by assumption) ?_
    case y_nb5_0 => intro w hSw; (try dsimp only at hSw); go_simp; with_reducible rfl
    try simp only [Act.put, List.setIfInBounds_toArray, List.set_cons_zero, List.set_cons_succ]
    refine wpAnyH_take (i := 1) (oi := { dst := some 36, op := Op.move (Operand.tmp 1), type := 3, pos := "ref.go:91", after := #[], guard := none }) (v := ?v_nb5_1) rfl (by kernel_rfl) (by kernel_rfl) (by kernel_rfl) (fun _ _ _ h => h) (Or.inl ⟨by rfl, ?y_nb5_1⟩) (by assumption) ?_
    case y_nb5_1 => intro w hSw; (try dsimp only at hSw); go_simp; with_reducible rfl
    try simp only [Act.put, List.setIfInBounds_toArray, List.set_cons_zero, List.set_cons_succ]
    refine wpAnyH_take (i := 3) (oi := { dst := some 38, op := Op.load 24 (Operand.tmp 3), type := 24, pos := "ref.go:91", after := #[], guard := none }) (v := ?v_nb5_2) rfl (by kernel_rfl) (by kernel_rfl) (by kernel_rfl) (fun _ _ _ h => h) (Or.inl ⟨by rfl, ?y_nb5_2⟩) (by assumption) ?_
    case y_nb5_2 => intro w hSw; (try dsimp only at hSw); go_simp; with_reducible rfl
    try simp only [Act.put, List.setIfInBounds_toArray, List.set_cons_zero, List.set_cons_succ]
    refine wpAnyH_take (i := 4) (oi := { dst := some 39, op := Op.move (Operand.tmp 2), type := 3, pos := "ref.go:91", after := #[], guard := none }) (v := ?v_nb5_3) rfl (by kernel_rfl) (by kernel_rfl) (by kernel_rfl) (fun _ _ _ h => h) (Or.inl ⟨by rfl, ?y_nb5_3⟩) (by assumption) ?_
    case y_nb5_3 => intro w hSw; (try dsimp only at hSw); go_simp; with_reducible rfl
    try simp only [Act.put, List.setIfInBounds_toArray, List.set_cons_zero, List.set_cons_succ]
    refine wpAnyH_ready (rs := [2]) (by kernel_rfl) (by simp) ?_
    refine AllReadyH.cons (o := { dst := some 37, op := Op.call { callee := Callee.value (Operand.func 69), args := #[Operand.tmp 35, Operand.tmp 36], argTypes := #[24, 3] }, type := 3, pos := "ref.go:91", after := #[{ on := 0, ground := Ground.data }, { on := 1, ground := Ground.data }], guard := none }) rfl (fun K hK => ?_) ?_
    go_simp
    (first | (go_at_call 69; (with_reducible first | refine (BDa.out _).mono ?_ | refine (BDb.out _).mono ?_); rintro e wB ⟨rfl, hb⟩; first | have SC := Lib.hid (SB.out.go hb) | have SB := Lib.hid (SA.out.go hb); clear hb))
    go_wp2_with fail
    refine hK.out _ _ ?_ (fun hHeld => ?_)
    · (try dsimp only) <;> (with_reducible first | exact SC.out.c | exact SB.out.c | exact SA.out.c)
    clear hK K
    try simp only [Act.put, List.setIfInBounds_toArray, List.set_cons_zero, List.set_cons_succ]
    refine wpAnyH_ready (rs := [5]) (by kernel_rfl) (by simp) ?_
    refine AllReadyH.cons (o := { dst := some 40, op := Op.call { callee := Callee.value (Operand.func 69), args := #[Operand.tmp 38, Operand.tmp 39], argTypes := #[24, 3] }, type := 3, pos := "ref.go:91", after := #[{ on := 3, ground := Ground.data }, { on := 4, ground := Ground.data }, { on := 2, ground := Ground.chain }], guard := none }) rfl (fun K hK => ?_) ?_
    go_simp
    (first | (go_at_call 69; (with_reducible first | refine (BDa.out _).mono ?_ | refine (BDb.out _).mono ?_); rintro e wB ⟨rfl, hb⟩; first | have SC := Lib.hid (SB.out.go hb) | have SB := Lib.hid (SA.out.go hb); clear hb))
    go_wp2_with fail
    refine hK.out _ _ ?_ (fun hHeld => ?_)
    · (try dsimp only) <;> (with_reducible first | exact SC.out.c | exact SB.out.c | exact SA.out.c)
    clear hK K
    try simp only [Act.put, List.setIfInBounds_toArray, List.set_cons_zero, List.set_cons_succ]
    refine wpAnyH_take (i := 6) (oi := { dst := some 41, op := Op.binOp BinOp.sub 3 (Operand.tmp 37) (Operand.tmp 40) 3, type := 3, pos := "ref.go:91", after := #[{ on := 2, ground := Ground.data }, { on := 5, ground := Ground.data }], guard := none }) (v := ?v_nb5_4) rfl (by kernel_rfl) (by kernel_rfl) (by kernel_rfl) (fun _ _ _ h => h) (Or.inl ⟨by rfl, ?y_nb5_4⟩) (by assumption) ?_
    case y_nb5_4 => intro w hSw; (try dsimp only at hSw); go_simp; with_reducible rfl
    try simp only [Act.put, List.setIfInBounds_toArray, List.set_cons_zero, List.set_cons_succ]
    refine wpAnyH_take (i := 7) (oi := { dst := some 11, op := Op.assign (Operand.tmp 41), type := 3, pos := "ref.go:91", after := #[{ on := 6, ground := Ground.data }, { on := 5, ground := Ground.chain }, { on := 0, ground := Ground.phase }, { on := 1, ground := Ground.phase }, { on := 2, ground := Ground.phase }, { on := 3, ground := Ground.phase }, { on := 4, ground := Ground.phase }, { on := 5, ground := Ground.phase }, { on := 6, ground := Ground.phase }], guard := none }) (v := ?v_nb5_5) rfl (by kernel_rfl) (by kernel_rfl) (by kernel_rfl) (fun _ _ _ h => h) (Or.inl ⟨by rfl, ?y_nb5_5⟩) (by assumption) ?_
    case y_nb5_5 => intro w hSw; (try dsimp only at hSw); go_simp; with_reducible rfl
    try simp only [Act.put, List.setIfInBounds_toArray, List.set_cons_zero, List.set_cons_succ]
    refine wpAnyH_done (by kernel_rfl) ?_ _
    rotate_left 1
    exact AllReadyH.nil
    exact AllReadyH.nil
    all_goals
      obtain ⟨r0, r1, r2, r3, r4⟩ := SC.out.c
      have B := Lib.hid SC.out.bl
      clear SA SB SC BDa BDb PLa PLb S0
      cases c1 <;> cases c2 <;> cases c3
    all_goals
      go_wp2_with fail
      go_returns
      exact ⟨by rw [hV.out]; first | done | rfl | simp [hc4], B.out⟩

end Go.Proofs.YtaloffdkadhhnaaDoor
