/- The walk of RackNames. -/
import Derived.Test.YtaloffdkadhhnaaDoorNv
import Derived.Test.YtaloffdkadhhnaaDoorGl
set_option linter.unusedVariables false
set_option linter.unusedSimpArgs false
namespace Go.Proofs.YtaloffdkadhhnaaDoor
open Go.RowKit

attribute [local go_sem] Oper.semAt_some

theorem made_many : madeCells (Value.agg #[.int .i64 0, .int .i64 0, .bool false]).cells (7 * 3) = (lkCells manyLs).toArray := by kernel_rfl

theorem eq_cen (W : World) : (Op.equalIn 10000 37 (.agg #[.int .i64 1, .int .i64 3, .int .i64 4, .int .i64 0, .int .i64 0]) (.agg #[.int .i64 1, .int .i64 3, .int .i64 4, .int .i64 0, .int .i64 0])).run Tryd.prog W = .ok true W := by kernel_rfl
theorem loop_set : (lkCells tenLs).toArray.setIfInBounds 4 (.int .i64 1) = (lkCells loopLs).toArray := by kernel_rfl
theorem free_set : (lkCells tenLs).toArray.setIfInBounds 7 (.int .i64 10) = (lkCells freeLs).toArray := by kernel_rfl

set_option maxRecDepth 100000 in
set_option maxHeartbeats 8000000 in
theorem rackNames_any (w : World) (hT : TabOK w) : Calls Tryd.prog 7 #[] w fun e w' => e = .returned (.bool true) ∧ Below w.heap.size w w' := by
  have TE := Lib.hid (fun W => ten3_any W)
  have AL := Lib.hid (fun W => all_any W)
  have TH := Lib.hid (fun W => thrown3_any W)
  have TAB := Lib.hid (fun W (hb : Below w.heap.size w W) => hT.lo hb)
  have AW := Lib.hid (fun W (hb : Below w.heap.size w W) => awake_any W (hT.lo hb))
  obtain ⟨i86, hi86, hx0, hx1, hx2⟩ := info_parts info86
  have hmk : ∀ W : World, (Instr.makeSlice 30 (.int .i64 7) (.int .i64 7)).run Tryd.prog W = .ok (.slice (some ⟨W.heap.size, 0, none⟩) 7 7) (W.alloc (.cells (lkCells manyLs).toArray 86)) := fun W => by
    have h := run_makeSlice (P := Tryd.prog) W 30 86 i86 (.agg #[.int .i64 0, .int .i64 0, .bool false]) Tryd.underlying30 hi86 hx0 .i64 .i64 7 7 (by omega) (by omega) (by rw [hx1]; decide) (by rw [hx2]; decide) (by decide)
    rw [h, hx1, show Int.toNat 7 * 3 = 7 * 3 from rfl, made_many]; rfl
  clear hT hi86 hx0 hx1 hx2
  have hcen := eq_cen
  obtain ⟨w0, hw0⟩ : ∃ W, W = w := ⟨_, rfl⟩
  have B_0 := Lib.hid (show Below w.heap.size w w0 by rw [hw0]; exact Below.refl _ _)
  rw [← hw0]
  have HW0 := Lib.hid hw0
  clear hw0
  rw [show (fun (e : Ending) w' => e = .returned (.bool true) ∧ Below w0.heap.size w0 w') = fun e w' => e = .returned (.bool true) ∧ Below w.heap.size w w' by rw [HW0.out]]
  go_enter Tryd.func7, Tryd.ntmps7
  go_wp2_with fail
  (with_reducible refine (TE.out _).mono ?_)
  rintro e w1 ⟨ga, rfl, hl, hz, hb⟩
  have B_1 := Lib.hid (below_go B_0.out hb)
  clear B_0
  have Ka_1 := Lib.hid hl
  clear hb hl hz
  go_wp2_with fail
  have hb := below_al w1 (.cells #[.int .i64 3, .int .i64 6] 3)
  have hn := (show IntsAt (w1.alloc (.cells #[.int .i64 3, .int .i64 6] 3)) (some ⟨w1.heap.size, 0, none⟩) [3, 6] from ints_new w1 [3, 6])
  have HZ2 := Lib.hid (show (w1.alloc (.cells #[.int .i64 3, .int .i64 6] 3)).heap.size = w1.heap.size + 1 from World.size_alloc ..)
  generalize w1.alloc (.cells #[.int .i64 3, .int .i64 6] 3) = w2 at *
  have Ka_2 := Lib.hid (Blk.alt Ka_1.out (Alt.of_below hb (fun k _ e => e)) (by have := Ka_1.out.lt; omega))
  clear Ka_1
  have B_2 := Lib.hid (below_go B_1.out hb)
  clear B_1
  have x_2 := Lib.hid hn
  clear hb hn
  (with_reducible refine (c_kind1 ga w1.heap.size w2 (TAB.out _ B_2.out) Ka_2.out x_2.out).mono ?_)
  rintro e w3 ⟨rfl, hb⟩
  have Ka_3 := Lib.hid (Blk.alt Ka_2.out (Alt.of_below hb (fun k _ e => e)) (by have := Ka_2.out.lt; omega))
  clear Ka_2
  have x_3 := Lib.hid (x_2.out.lo hb)
  clear x_2
  have B_3 := Lib.hid (below_go B_2.out hb)
  clear B_2
  clear hb 
  clear Ka_3
  clear x_3
  go_wp2_with fail
  (with_reducible refine (TE.out _).mono ?_)
  rintro e w4 ⟨ga, rfl, hl, hz, hb⟩
  have B_4 := Lib.hid (below_go B_3.out hb)
  clear B_3
  have Ka_4 := Lib.hid hl
  clear hb hl hz
  go_wp2_with fail
  have hb := below_al w4 (.cells #[.int .i64 0, .int .i64 6] 3)
  have hn := (show IntsAt (w4.alloc (.cells #[.int .i64 0, .int .i64 6] 3)) (some ⟨w4.heap.size, 0, none⟩) [0, 6] from ints_new w4 [0, 6])
  have HZ5 := Lib.hid (show (w4.alloc (.cells #[.int .i64 0, .int .i64 6] 3)).heap.size = w4.heap.size + 1 from World.size_alloc ..)
  generalize w4.alloc (.cells #[.int .i64 0, .int .i64 6] 3) = w5 at *
  have Ka_5 := Lib.hid (Blk.alt Ka_4.out (Alt.of_below hb (fun k _ e => e)) (by have := Ka_4.out.lt; omega))
  clear Ka_4
  have B_5 := Lib.hid (below_go B_4.out hb)
  clear B_4
  have x_5 := Lib.hid hn
  clear hb hn
  (with_reducible refine (c_kind2 ga w4.heap.size w5 (TAB.out _ B_5.out) Ka_5.out x_5.out).mono ?_)
  rintro e w6 ⟨rfl, hb⟩
  have Ka_6 := Lib.hid (Blk.alt Ka_5.out (Alt.of_below hb (fun k _ e => e)) (by have := Ka_5.out.lt; omega))
  clear Ka_5
  have x_6 := Lib.hid (x_5.out.lo hb)
  clear x_5
  have B_6 := Lib.hid (below_go B_5.out hb)
  clear B_5
  clear hb 
  clear Ka_6
  clear x_6
  go_wp2_with fail
  (with_reducible refine (TE.out _).mono ?_)
  rintro e w7 ⟨ga, rfl, hl, hz, hb⟩
  have B_7 := Lib.hid (below_go B_6.out hb)
  clear B_6
  have Ka_7 := Lib.hid hl
  clear hb hl hz
  go_wp2_with fail
  (with_reducible refine (AL.out _).mono ?_)
  rintro e w8 ⟨gp, cp, rfl, hl, hz, hb⟩
  have Ka_8 := Lib.hid (Blk.alt Ka_7.out (Alt.of_below hb (fun k _ e => e)) (by have := Ka_7.out.lt; omega))
  clear Ka_7
  have B_8 := Lib.hid (below_go B_7.out hb)
  clear B_7
  have Xp_8 := Lib.hid hl
  clear hb hl hz
  go_wp2_with fail
  (with_reducible refine (TH.out _).mono ?_)
  rintro e w9 ⟨gt, rfl, hl, hz, hb⟩
  have Ka_9 := Lib.hid (Blk.alt Ka_8.out (Alt.of_below hb (fun k _ e => e)) (by have := Ka_8.out.lt; omega))
  clear Ka_8
  have Xp_9 := Lib.hid (Xp_8.out.lo hb)
  clear Xp_8
  have B_9 := Lib.hid (below_go B_8.out hb)
  clear B_8
  have Gt_9 := Lib.hid hl
  have Zt_9 := Lib.hid hz
  clear hb hl hz
  go_wp2_with fail
  have hb := below_al w9 (.cells #[.int .i64 21, .int .i64 22, .int .i64 23, .int .i64 24] 3)
  have hn := (show IntsAt (w9.alloc (.cells #[.int .i64 21, .int .i64 22, .int .i64 23, .int .i64 24] 3)) (some ⟨w9.heap.size, 0, none⟩) [21, 22, 23, 24] from ints_new w9 [21, 22, 23, 24])
  have HZ10 := Lib.hid (show (w9.alloc (.cells #[.int .i64 21, .int .i64 22, .int .i64 23, .int .i64 24] 3)).heap.size = w9.heap.size + 1 from World.size_alloc ..)
  generalize w9.alloc (.cells #[.int .i64 21, .int .i64 22, .int .i64 23, .int .i64 24] 3) = w10 at *
  have Ka_10 := Lib.hid (Blk.alt Ka_9.out (Alt.of_below hb (fun k _ e => e)) (by have := Ka_9.out.lt; omega))
  clear Ka_9
  have Xp_10 := Lib.hid (Xp_9.out.lo hb)
  clear Xp_9
  have Gt_10 := Lib.hid (Gt_9.out.lower hb)
  clear Gt_9
  have Zt_10 := Lib.hid (Nat.lt_of_lt_of_le Zt_9.out hb.size)
  clear Zt_9
  have B_10 := Lib.hid (below_go B_9.out hb)
  clear B_9
  have x_10 := Lib.hid hn
  clear hb hn
  have hb := below_al w10 (.cells #[.bool true, .bool true, .bool true] 4)
  have hn := (show BoolsAt (w10.alloc (.cells #[.bool true, .bool true, .bool true] 4)) (some ⟨w10.heap.size, 0, none⟩) [true, true, true] from bools_new w10 [true, true, true])
  have HZ11 := Lib.hid (show (w10.alloc (.cells #[.bool true, .bool true, .bool true] 4)).heap.size = w10.heap.size + 1 from World.size_alloc ..)
  rw [HZ10.out] at hn
  generalize w10.alloc (.cells #[.bool true, .bool true, .bool true] 4) = w11 at *
  have Ka_11 := Lib.hid (Blk.alt Ka_10.out (Alt.of_below hb (fun k _ e => e)) (by have := Ka_10.out.lt; omega))
  clear Ka_10
  have Xp_11 := Lib.hid (Xp_10.out.lo hb)
  clear Xp_10
  have Gt_11 := Lib.hid (Gt_10.out.lower hb)
  clear Gt_10
  have Zt_11 := Lib.hid (Nat.lt_of_lt_of_le Zt_10.out hb.size)
  clear Zt_10
  have x_11 := Lib.hid (x_10.out.lo hb)
  clear x_10
  have B_11 := Lib.hid (below_go B_10.out hb)
  clear B_10
  have y_11 := Lib.hid hn
  clear hb hn
  (with_reducible refine (c_hit1 ga gp gt w9.heap.size (w9.heap.size + 1) cp w11 (TAB.out _ B_11.out) Ka_11.out Xp_11.out Gt_11.out x_11.out y_11.out).mono ?_)
  rintro e w12 ⟨⟨aV, cV, rfl, hi⟩, hb⟩
  have Ka_12 := Lib.hid (Blk.alt Ka_11.out (Alt.of_below hb (fun k _ e => e)) (by have := Ka_11.out.lt; omega))
  clear Ka_11
  have Xp_12 := Lib.hid (Xp_11.out.lo hb)
  clear Xp_11
  have Gt_12 := Lib.hid (Gt_11.out.lower hb)
  clear Gt_11
  have Zt_12 := Lib.hid (Nat.lt_of_lt_of_le Zt_11.out hb.size)
  clear Zt_11
  have x_12 := Lib.hid (x_11.out.lo hb)
  clear x_11
  have y_12 := Lib.hid (y_11.out.lo hb)
  clear y_11
  have B_12 := Lib.hid (below_go B_11.out hb)
  clear B_11
  have V_12 := Lib.hid hi
  clear hb hi
  clear Ka_12
  clear Xp_12
  clear Gt_12
  clear Zt_12
  clear x_12
  clear y_12
  go_wp2_with fail
  (with_reducible refine (TE.out _).mono ?_)
  rintro e w13 ⟨ga, rfl, hl, hz, hb⟩
  have V_13 := Lib.hid (V_12.out.lo hb)
  clear V_12
  have B_13 := Lib.hid (below_go B_12.out hb)
  clear B_12
  have Ka_13 := Lib.hid hl
  clear hb hl hz
  go_wp2_with fail
  have hb := below_al w13 (.cells #[.int .i64 1, .int .i64 3, .int .i64 6] 3)
  have hn := (show IntsAt (w13.alloc (.cells #[.int .i64 1, .int .i64 3, .int .i64 6] 3)) (some ⟨w13.heap.size, 0, none⟩) [1, 3, 6] from ints_new w13 [1, 3, 6])
  have HZ14 := Lib.hid (show (w13.alloc (.cells #[.int .i64 1, .int .i64 3, .int .i64 6] 3)).heap.size = w13.heap.size + 1 from World.size_alloc ..)
  generalize w13.alloc (.cells #[.int .i64 1, .int .i64 3, .int .i64 6] 3) = w14 at *
  have V_14 := Lib.hid (V_13.out.lo hb)
  clear V_13
  have Ka_14 := Lib.hid (Blk.alt Ka_13.out (Alt.of_below hb (fun k _ e => e)) (by have := Ka_13.out.lt; omega))
  clear Ka_13
  have B_14 := Lib.hid (below_go B_13.out hb)
  clear B_13
  have x_14 := Lib.hid hn
  clear hb hn
  (with_reducible refine (c_cvt1 ga w13.heap.size w14 (TAB.out _ B_14.out) Ka_14.out x_14.out).mono ?_)
  rintro e w15 ⟨rfl, hb⟩
  have V_15 := Lib.hid (V_14.out.lo hb)
  clear V_14
  have Ka_15 := Lib.hid (Blk.alt Ka_14.out (Alt.of_below hb (fun k _ e => e)) (by have := Ka_14.out.lt; omega))
  clear Ka_14
  have x_15 := Lib.hid (x_14.out.lo hb)
  clear x_14
  have B_15 := Lib.hid (below_go B_14.out hb)
  clear B_14
  clear hb 
  clear Ka_15
  clear x_15
  go_wp2_with fail
  have hb := below_al w15 (.cells #[.int .i64 12, .int .i64 3] 73)
  have hn := (Blk.new w15 #[.int .i64 12, .int .i64 3] 73)
  have HZ16 := Lib.hid (show (w15.alloc (.cells #[.int .i64 12, .int .i64 3] 73)).heap.size = w15.heap.size + 1 from World.size_alloc ..)
  generalize w15.alloc (.cells #[.int .i64 12, .int .i64 3] 73) = w16 at *
  have V_16 := Lib.hid (V_15.out.lo hb)
  clear V_15
  have B_16 := Lib.hid (below_go B_15.out hb)
  clear B_15
  have M_16 := Lib.hid hn
  clear hb hn
  have hb := below_al w16 (.cells #[.int .i64 4, .int .i64 5, .int .i64 7, .int .i64 9] 3)
  have hn := (show IntsAt (w16.alloc (.cells #[.int .i64 4, .int .i64 5, .int .i64 7, .int .i64 9] 3)) (some ⟨w16.heap.size, 0, none⟩) [4, 5, 7, 9] from ints_new w16 [4, 5, 7, 9])
  have HZ17 := Lib.hid (show (w16.alloc (.cells #[.int .i64 4, .int .i64 5, .int .i64 7, .int .i64 9] 3)).heap.size = w16.heap.size + 1 from World.size_alloc ..)
  rw [HZ16.out] at hn
  generalize w16.alloc (.cells #[.int .i64 4, .int .i64 5, .int .i64 7, .int .i64 9] 3) = w17 at *
  have V_17 := Lib.hid (V_16.out.lo hb)
  clear V_16
  have M_17 := Lib.hid (Blk.alt M_16.out (Alt.of_below hb (fun k _ e => e)) (by have := M_16.out.lt; omega))
  clear M_16
  have B_17 := Lib.hid (below_go B_16.out hb)
  clear B_16
  have x_17 := Lib.hid hn
  clear hb hn
  (with_reducible refine (ints_eq [4, 5, 7, 9] aV (some ⟨w15.heap.size + 1, 0, none⟩) cV 4 4 4 w17 V_17.out x_17.out (Nat.le_of_ble_eq_true rfl) rfl rfl).mono ?_)
  rintro e w18 ⟨rfl, hb⟩
  have V_18 := Lib.hid (V_17.out.lo hb)
  clear V_17
  have M_18 := Lib.hid (Blk.alt M_17.out (Alt.of_below hb (fun k _ e => e)) (by have := M_17.out.lt; omega))
  clear M_17
  have x_18 := Lib.hid (x_17.out.lo hb)
  clear x_17
  have B_18 := Lib.hid (below_go B_17.out hb)
  clear B_17
  clear hb 
  clear V_18
  clear x_18
  have m0 : w18.cell? ⟨w15.heap.size, 0, none⟩ = some (.int .i64 12) := M_18.out.cell 0 rfl
  have m1 : w18.cell? ⟨w15.heap.size, 1, none⟩ = some (.int .i64 3) := M_18.out.cell 1 rfl
  go_wp2_with fail
  clear m0 m1
  clear M_18
  (with_reducible refine (TE.out _).mono ?_)
  rintro e w19 ⟨ga, rfl, hl, hz, hb⟩
  have B_19 := Lib.hid (below_go B_18.out hb)
  clear B_18
  have Ka_19 := Lib.hid hl
  clear hb hl hz
  go_wp2_with fail
  (with_reducible refine (AL.out _).mono ?_)
  rintro e w20 ⟨gp, cp, rfl, hl, hz, hb⟩
  have Ka_20 := Lib.hid (Blk.alt Ka_19.out (Alt.of_below hb (fun k _ e => e)) (by have := Ka_19.out.lt; omega))
  clear Ka_19
  have B_20 := Lib.hid (below_go B_19.out hb)
  clear B_19
  have Xp_20 := Lib.hid hl
  clear hb hl hz
  go_wp2_with fail
  (with_reducible refine (TH.out _).mono ?_)
  rintro e w21 ⟨gt, rfl, hl, hz, hb⟩
  have Ka_21 := Lib.hid (Blk.alt Ka_20.out (Alt.of_below hb (fun k _ e => e)) (by have := Ka_20.out.lt; omega))
  clear Ka_20
  have Xp_21 := Lib.hid (Xp_20.out.lo hb)
  clear Xp_20
  have B_21 := Lib.hid (below_go B_20.out hb)
  clear B_20
  have Gt_21 := Lib.hid hl
  have Zt_21 := Lib.hid hz
  clear hb hl hz
  go_wp2_with fail
  have hb := below_al w21 (.cells #[.int .i64 4, .int .i64 7, .int .i64 9] 3)
  have hn := (show IntsAt (w21.alloc (.cells #[.int .i64 4, .int .i64 7, .int .i64 9] 3)) (some ⟨w21.heap.size, 0, none⟩) [4, 7, 9] from ints_new w21 [4, 7, 9])
  have HZ22 := Lib.hid (show (w21.alloc (.cells #[.int .i64 4, .int .i64 7, .int .i64 9] 3)).heap.size = w21.heap.size + 1 from World.size_alloc ..)
  generalize w21.alloc (.cells #[.int .i64 4, .int .i64 7, .int .i64 9] 3) = w22 at *
  have Ka_22 := Lib.hid (Blk.alt Ka_21.out (Alt.of_below hb (fun k _ e => e)) (by have := Ka_21.out.lt; omega))
  clear Ka_21
  have Xp_22 := Lib.hid (Xp_21.out.lo hb)
  clear Xp_21
  have Gt_22 := Lib.hid (Gt_21.out.lower hb)
  clear Gt_21
  have Zt_22 := Lib.hid (Nat.lt_of_lt_of_le Zt_21.out hb.size)
  clear Zt_21
  have B_22 := Lib.hid (below_go B_21.out hb)
  clear B_21
  have x_22 := Lib.hid hn
  clear hb hn
  (with_reducible refine (c_can1 ga gp gt w21.heap.size cp w22 (TAB.out _ B_22.out) Ka_22.out Xp_22.out Gt_22.out Zt_22.out x_22.out).mono ?_)
  rintro e w23 ⟨rfl, hb⟩
  have Ka_23 := Lib.hid (Blk.alt Ka_22.out (Alt.of_below hb (fun k _ e => e)) (by have := Ka_22.out.lt; omega))
  clear Ka_22
  have Xp_23 := Lib.hid (Xp_22.out.lo hb)
  clear Xp_22
  have Gt_23 := Lib.hid (Gt_22.out.lower hb)
  clear Gt_22
  have Zt_23 := Lib.hid (Nat.lt_of_lt_of_le Zt_22.out hb.size)
  clear Zt_22
  have x_23 := Lib.hid (x_22.out.lo hb)
  clear x_22
  have B_23 := Lib.hid (below_go B_22.out hb)
  clear B_22
  clear hb 
  clear Ka_23
  clear Xp_23
  clear Gt_23
  clear Zt_23
  clear x_23
  go_wp2_with fail
  (with_reducible refine (TE.out _).mono ?_)
  rintro e w24 ⟨ga, rfl, hl, hz, hb⟩
  have B_24 := Lib.hid (below_go B_23.out hb)
  clear B_23
  have Ka_24 := Lib.hid hl
  clear hb hl hz
  go_wp2_with fail
  (with_reducible refine (AL.out _).mono ?_)
  rintro e w25 ⟨gp, cp, rfl, hl, hz, hb⟩
  have Ka_25 := Lib.hid (Blk.alt Ka_24.out (Alt.of_below hb (fun k _ e => e)) (by have := Ka_24.out.lt; omega))
  clear Ka_24
  have B_25 := Lib.hid (below_go B_24.out hb)
  clear B_24
  have Xp_25 := Lib.hid hl
  clear hb hl hz
  go_wp2_with fail
  (with_reducible refine (TH.out _).mono ?_)
  rintro e w26 ⟨gt, rfl, hl, hz, hb⟩
  have Ka_26 := Lib.hid (Blk.alt Ka_25.out (Alt.of_below hb (fun k _ e => e)) (by have := Ka_25.out.lt; omega))
  clear Ka_25
  have Xp_26 := Lib.hid (Xp_25.out.lo hb)
  clear Xp_25
  have B_26 := Lib.hid (below_go B_25.out hb)
  clear B_25
  have Gt_26 := Lib.hid hl
  have Zt_26 := Lib.hid hz
  clear hb hl hz
  go_wp2_with fail
  have hb := below_al w26 (.cells #[.int .i64 7, .int .i64 9] 3)
  have hn := (show IntsAt (w26.alloc (.cells #[.int .i64 7, .int .i64 9] 3)) (some ⟨w26.heap.size, 0, none⟩) [7, 9] from ints_new w26 [7, 9])
  have HZ27 := Lib.hid (show (w26.alloc (.cells #[.int .i64 7, .int .i64 9] 3)).heap.size = w26.heap.size + 1 from World.size_alloc ..)
  generalize w26.alloc (.cells #[.int .i64 7, .int .i64 9] 3) = w27 at *
  have Ka_27 := Lib.hid (Blk.alt Ka_26.out (Alt.of_below hb (fun k _ e => e)) (by have := Ka_26.out.lt; omega))
  clear Ka_26
  have Xp_27 := Lib.hid (Xp_26.out.lo hb)
  clear Xp_26
  have Gt_27 := Lib.hid (Gt_26.out.lower hb)
  clear Gt_26
  have Zt_27 := Lib.hid (Nat.lt_of_lt_of_le Zt_26.out hb.size)
  clear Zt_26
  have B_27 := Lib.hid (below_go B_26.out hb)
  clear B_26
  have x_27 := Lib.hid hn
  clear hb hn
  (with_reducible refine (c_can2 ga gp gt w26.heap.size cp w27 (TAB.out _ B_27.out) Ka_27.out Xp_27.out Gt_27.out Zt_27.out x_27.out).mono ?_)
  rintro e w28 ⟨rfl, hb⟩
  have Ka_28 := Lib.hid (Blk.alt Ka_27.out (Alt.of_below hb (fun k _ e => e)) (by have := Ka_27.out.lt; omega))
  clear Ka_27
  have Xp_28 := Lib.hid (Xp_27.out.lo hb)
  clear Xp_27
  have Gt_28 := Lib.hid (Gt_27.out.lower hb)
  clear Gt_27
  have Zt_28 := Lib.hid (Nat.lt_of_lt_of_le Zt_27.out hb.size)
  clear Zt_27
  have x_28 := Lib.hid (x_27.out.lo hb)
  clear x_27
  have B_28 := Lib.hid (below_go B_27.out hb)
  clear B_27
  clear hb 
  clear Ka_28
  clear Xp_28
  clear Gt_28
  clear Zt_28
  clear x_28
  go_wp2_with fail
  (with_reducible refine (TE.out _).mono ?_)
  rintro e w29 ⟨ga, rfl, hl, hz, hb⟩
  have B_29 := Lib.hid (below_go B_28.out hb)
  clear B_28
  have Ka_29 := Lib.hid hl
  clear hb hl hz
  go_wp2_with fail
  have hb := below_al w29 (.cells #[.int .i64 1, .int .i64 3, .int .i64 6] 3)
  have hn := (show IntsAt (w29.alloc (.cells #[.int .i64 1, .int .i64 3, .int .i64 6] 3)) (some ⟨w29.heap.size, 0, none⟩) [1, 3, 6] from ints_new w29 [1, 3, 6])
  have HZ30 := Lib.hid (show (w29.alloc (.cells #[.int .i64 1, .int .i64 3, .int .i64 6] 3)).heap.size = w29.heap.size + 1 from World.size_alloc ..)
  generalize w29.alloc (.cells #[.int .i64 1, .int .i64 3, .int .i64 6] 3) = w30 at *
  have Ka_30 := Lib.hid (Blk.alt Ka_29.out (Alt.of_below hb (fun k _ e => e)) (by have := Ka_29.out.lt; omega))
  clear Ka_29
  have B_30 := Lib.hid (below_go B_29.out hb)
  clear B_29
  have x_30 := Lib.hid hn
  clear hb hn
  (with_reducible refine (c_prv1 ga w29.heap.size w30 (TAB.out _ B_30.out) Ka_30.out x_30.out).mono ?_)
  rintro e w31 ⟨rfl, hb⟩
  have Ka_31 := Lib.hid (Blk.alt Ka_30.out (Alt.of_below hb (fun k _ e => e)) (by have := Ka_30.out.lt; omega))
  clear Ka_30
  have x_31 := Lib.hid (x_30.out.lo hb)
  clear x_30
  have B_31 := Lib.hid (below_go B_30.out hb)
  clear B_30
  clear hb 
  clear Ka_31
  clear x_31
  go_wp2_with fail
  (with_reducible refine (TE.out _).mono ?_)
  rintro e w32 ⟨ga, rfl, hl, hz, hb⟩
  have B_32 := Lib.hid (below_go B_31.out hb)
  clear B_31
  have Ka_32 := Lib.hid hl
  clear hb hl hz
  go_wp2_with fail
  have hb := below_al w32 (.cells #[.int .i64 1, .int .i64 3, .int .i64 6] 3)
  have hn := (show IntsAt (w32.alloc (.cells #[.int .i64 1, .int .i64 3, .int .i64 6] 3)) (some ⟨w32.heap.size, 0, none⟩) [1, 3, 6] from ints_new w32 [1, 3, 6])
  have HZ33 := Lib.hid (show (w32.alloc (.cells #[.int .i64 1, .int .i64 3, .int .i64 6] 3)).heap.size = w32.heap.size + 1 from World.size_alloc ..)
  generalize w32.alloc (.cells #[.int .i64 1, .int .i64 3, .int .i64 6] 3) = w33 at *
  have Ka_33 := Lib.hid (Blk.alt Ka_32.out (Alt.of_below hb (fun k _ e => e)) (by have := Ka_32.out.lt; omega))
  clear Ka_32
  have B_33 := Lib.hid (below_go B_32.out hb)
  clear B_32
  have x_33 := Lib.hid hn
  clear hb hn
  (with_reducible refine (c_prv2 ga w32.heap.size w33 (TAB.out _ B_33.out) Ka_33.out x_33.out).mono ?_)
  rintro e w34 ⟨rfl, hb⟩
  have Ka_34 := Lib.hid (Blk.alt Ka_33.out (Alt.of_below hb (fun k _ e => e)) (by have := Ka_33.out.lt; omega))
  clear Ka_33
  have x_34 := Lib.hid (x_33.out.lo hb)
  clear x_33
  have B_34 := Lib.hid (below_go B_33.out hb)
  clear B_33
  clear hb 
  clear Ka_34
  clear x_34
  go_wp2_with fail
  (with_reducible refine (TE.out _).mono ?_)
  rintro e w35 ⟨ga, rfl, hl, hz, hb⟩
  have B_35 := Lib.hid (below_go B_34.out hb)
  clear B_34
  have Ka_35 := Lib.hid hl
  clear hb hl hz
  go_wp2_with fail
  have hb := below_al w35 (.cells #[.int .i64 6, .int .i64 9] 3)
  have hn := (show IntsAt (w35.alloc (.cells #[.int .i64 6, .int .i64 9] 3)) (some ⟨w35.heap.size, 0, none⟩) [6, 9] from ints_new w35 [6, 9])
  have HZ36 := Lib.hid (show (w35.alloc (.cells #[.int .i64 6, .int .i64 9] 3)).heap.size = w35.heap.size + 1 from World.size_alloc ..)
  generalize w35.alloc (.cells #[.int .i64 6, .int .i64 9] 3) = w36 at *
  have Ka_36 := Lib.hid (Blk.alt Ka_35.out (Alt.of_below hb (fun k _ e => e)) (by have := Ka_35.out.lt; omega))
  clear Ka_35
  have B_36 := Lib.hid (below_go B_35.out hb)
  clear B_35
  have x_36 := Lib.hid hn
  clear hb hn
  (with_reducible refine (c_cvt2 ga w35.heap.size w36 (TAB.out _ B_36.out) Ka_36.out x_36.out).mono ?_)
  rintro e w37 ⟨rfl, hb⟩
  have Ka_37 := Lib.hid (Blk.alt Ka_36.out (Alt.of_below hb (fun k _ e => e)) (by have := Ka_36.out.lt; omega))
  clear Ka_36
  have x_37 := Lib.hid (x_36.out.lo hb)
  clear x_36
  have B_37 := Lib.hid (below_go B_36.out hb)
  clear B_36
  clear hb 
  clear Ka_37
  clear x_37
  go_wp2_with fail
  (with_reducible refine (TE.out _).mono ?_)
  rintro e w38 ⟨ga, rfl, hl, hz, hb⟩
  have B_38 := Lib.hid (below_go B_37.out hb)
  clear B_37
  have Ka_38 := Lib.hid hl
  clear hb hl hz
  go_wp2_with fail
  have hb := below_al w38 (.cells #[.int .i64 6, .int .i64 6] 3)
  have hn := (show IntsAt (w38.alloc (.cells #[.int .i64 6, .int .i64 6] 3)) (some ⟨w38.heap.size, 0, none⟩) [6, 6] from ints_new w38 [6, 6])
  have HZ39 := Lib.hid (show (w38.alloc (.cells #[.int .i64 6, .int .i64 6] 3)).heap.size = w38.heap.size + 1 from World.size_alloc ..)
  generalize w38.alloc (.cells #[.int .i64 6, .int .i64 6] 3) = w39 at *
  have Ka_39 := Lib.hid (Blk.alt Ka_38.out (Alt.of_below hb (fun k _ e => e)) (by have := Ka_38.out.lt; omega))
  clear Ka_38
  have B_39 := Lib.hid (below_go B_38.out hb)
  clear B_38
  have x_39 := Lib.hid hn
  clear hb hn
  (with_reducible refine (c_kind3 ga w38.heap.size w39 (TAB.out _ B_39.out) Ka_39.out x_39.out).mono ?_)
  rintro e w40 ⟨rfl, hb⟩
  have Ka_40 := Lib.hid (Blk.alt Ka_39.out (Alt.of_below hb (fun k _ e => e)) (by have := Ka_39.out.lt; omega))
  clear Ka_39
  have x_40 := Lib.hid (x_39.out.lo hb)
  clear x_39
  have B_40 := Lib.hid (below_go B_39.out hb)
  clear B_39
  clear hb 
  clear Ka_40
  clear x_40
  go_wp2_with fail
  (with_reducible refine (TE.out _).mono ?_)
  rintro e w41 ⟨ga, rfl, hl, hz, hb⟩
  have B_41 := Lib.hid (below_go B_40.out hb)
  clear B_40
  have Ka_41 := Lib.hid hl
  clear hb hl hz
  go_wp2_with fail
  have hb := below_al w41 (.cells #[.int .i64 10] 3)
  have hn := (show IntsAt (w41.alloc (.cells #[.int .i64 10] 3)) (some ⟨w41.heap.size, 0, none⟩) [10] from ints_new w41 [10])
  have HZ42 := Lib.hid (show (w41.alloc (.cells #[.int .i64 10] 3)).heap.size = w41.heap.size + 1 from World.size_alloc ..)
  generalize w41.alloc (.cells #[.int .i64 10] 3) = w42 at *
  have Ka_42 := Lib.hid (Blk.alt Ka_41.out (Alt.of_below hb (fun k _ e => e)) (by have := Ka_41.out.lt; omega))
  clear Ka_41
  have B_42 := Lib.hid (below_go B_41.out hb)
  clear B_41
  have x_42 := Lib.hid hn
  clear hb hn
  (with_reducible refine (TH.out _).mono ?_)
  rintro e w43 ⟨gt, rfl, hl, hz, hb⟩
  have Ka_43 := Lib.hid (Blk.alt Ka_42.out (Alt.of_below hb (fun k _ e => e)) (by have := Ka_42.out.lt; omega))
  clear Ka_42
  have x_43 := Lib.hid (x_42.out.lo hb)
  clear x_42
  have B_43 := Lib.hid (below_go B_42.out hb)
  clear B_42
  have Gt_43 := Lib.hid hl
  have Zt_43 := Lib.hid hz
  clear hb hl hz
  go_wp2_with fail
  (with_reducible refine (c_fall ga w41.heap.size gt w43 (TAB.out _ B_43.out) Ka_43.out x_43.out Gt_43.out Zt_43.out).mono ?_)
  rintro e w44 ⟨⟨v1, v2, rfl⟩, hb⟩
  have Ka_44 := Lib.hid (Blk.alt Ka_43.out (Alt.of_below hb (fun k _ e => e)) (by have := Ka_43.out.lt; omega))
  clear Ka_43
  have x_44 := Lib.hid (x_43.out.lo hb)
  clear x_43
  have Gt_44 := Lib.hid (Gt_43.out.lower hb)
  clear Gt_43
  have Zt_44 := Lib.hid (Nat.lt_of_lt_of_le Zt_43.out hb.size)
  clear Zt_43
  have B_44 := Lib.hid (below_go B_43.out hb)
  clear B_43
  clear hb 
  clear Ka_44
  clear x_44
  clear Gt_44
  clear Zt_44
  go_wp2_with fail
  (with_reducible refine (TE.out _).mono ?_)
  rintro e w45 ⟨ga, rfl, hl, hz, hb⟩
  have B_45 := Lib.hid (below_go B_44.out hb)
  clear B_44
  have Ka_45 := Lib.hid hl
  clear hb hl hz
  go_wp2_with fail
  (with_reducible refine (AL.out _).mono ?_)
  rintro e w46 ⟨gp, cp, rfl, hl, hz, hb⟩
  have Ka_46 := Lib.hid (Blk.alt Ka_45.out (Alt.of_below hb (fun k _ e => e)) (by have := Ka_45.out.lt; omega))
  clear Ka_45
  have B_46 := Lib.hid (below_go B_45.out hb)
  clear B_45
  have Xp_46 := Lib.hid hl
  clear hb hl hz
  go_wp2_with fail
  (with_reducible refine (TH.out _).mono ?_)
  rintro e w47 ⟨gt, rfl, hl, hz, hb⟩
  have Ka_47 := Lib.hid (Blk.alt Ka_46.out (Alt.of_below hb (fun k _ e => e)) (by have := Ka_46.out.lt; omega))
  clear Ka_46
  have Xp_47 := Lib.hid (Xp_46.out.lo hb)
  clear Xp_46
  have B_47 := Lib.hid (below_go B_46.out hb)
  clear B_46
  have Gt_47 := Lib.hid hl
  have Zt_47 := Lib.hid hz
  clear hb hl hz
  go_wp2_with fail
  (with_reducible refine (c_left ga gp gt cp w47 (TAB.out _ B_47.out) Ka_47.out Xp_47.out Gt_47.out Zt_47.out).mono ?_)
  rintro e w48 ⟨rfl, hb⟩
  have Ka_48 := Lib.hid (Blk.alt Ka_47.out (Alt.of_below hb (fun k _ e => e)) (by have := Ka_47.out.lt; omega))
  clear Ka_47
  have Xp_48 := Lib.hid (Xp_47.out.lo hb)
  clear Xp_47
  have Gt_48 := Lib.hid (Gt_47.out.lower hb)
  clear Gt_47
  have Zt_48 := Lib.hid (Nat.lt_of_lt_of_le Zt_47.out hb.size)
  clear Zt_47
  have B_48 := Lib.hid (below_go B_47.out hb)
  clear B_47
  clear hb 
  clear Ka_48
  clear Xp_48
  clear Gt_48
  clear Zt_48
  go_wp2_with fail
  (with_reducible refine (TE.out _).mono ?_)
  rintro e w49 ⟨ga, rfl, hl, hz, hb⟩
  have B_49 := Lib.hid (below_go B_48.out hb)
  clear B_48
  have Ka_49 := Lib.hid hl
  clear hb hl hz
  go_wp2_with fail
  (with_reducible refine (AL.out _).mono ?_)
  rintro e w50 ⟨gp, cp, rfl, hl, hz, hb⟩
  have Ka_50 := Lib.hid (Blk.alt Ka_49.out (Alt.of_below hb (fun k _ e => e)) (by have := Ka_49.out.lt; omega))
  clear Ka_49
  have B_50 := Lib.hid (below_go B_49.out hb)
  clear B_49
  have Xp_50 := Lib.hid hl
  clear hb hl hz
  go_wp2_with fail
  (with_reducible refine (TH.out _).mono ?_)
  rintro e w51 ⟨gt, rfl, hl, hz, hb⟩
  have Ka_51 := Lib.hid (Blk.alt Ka_50.out (Alt.of_below hb (fun k _ e => e)) (by have := Ka_50.out.lt; omega))
  clear Ka_50
  have Xp_51 := Lib.hid (Xp_50.out.lo hb)
  clear Xp_50
  have B_51 := Lib.hid (below_go B_50.out hb)
  clear B_50
  have Gt_51 := Lib.hid hl
  have Zt_51 := Lib.hid hz
  clear hb hl hz
  go_wp2_with fail
  have hb := below_al w51 (.cells #[.int .i64 21, .int .i64 22, .int .i64 23, .int .i64 24] 3)
  have hn := (show IntsAt (w51.alloc (.cells #[.int .i64 21, .int .i64 22, .int .i64 23, .int .i64 24] 3)) (some ⟨w51.heap.size, 0, none⟩) [21, 22, 23, 24] from ints_new w51 [21, 22, 23, 24])
  have HZ52 := Lib.hid (show (w51.alloc (.cells #[.int .i64 21, .int .i64 22, .int .i64 23, .int .i64 24] 3)).heap.size = w51.heap.size + 1 from World.size_alloc ..)
  generalize w51.alloc (.cells #[.int .i64 21, .int .i64 22, .int .i64 23, .int .i64 24] 3) = w52 at *
  have Ka_52 := Lib.hid (Blk.alt Ka_51.out (Alt.of_below hb (fun k _ e => e)) (by have := Ka_51.out.lt; omega))
  clear Ka_51
  have Xp_52 := Lib.hid (Xp_51.out.lo hb)
  clear Xp_51
  have Gt_52 := Lib.hid (Gt_51.out.lower hb)
  clear Gt_51
  have Zt_52 := Lib.hid (Nat.lt_of_lt_of_le Zt_51.out hb.size)
  clear Zt_51
  have B_52 := Lib.hid (below_go B_51.out hb)
  clear B_51
  have x_52 := Lib.hid hn
  clear hb hn
  have hb := below_al w52 (.cells #[.bool false, .bool true, .bool true] 4)
  have hn := (show BoolsAt (w52.alloc (.cells #[.bool false, .bool true, .bool true] 4)) (some ⟨w52.heap.size, 0, none⟩) [false, true, true] from bools_new w52 [false, true, true])
  have HZ53 := Lib.hid (show (w52.alloc (.cells #[.bool false, .bool true, .bool true] 4)).heap.size = w52.heap.size + 1 from World.size_alloc ..)
  rw [HZ52.out] at hn
  generalize w52.alloc (.cells #[.bool false, .bool true, .bool true] 4) = w53 at *
  have Ka_53 := Lib.hid (Blk.alt Ka_52.out (Alt.of_below hb (fun k _ e => e)) (by have := Ka_52.out.lt; omega))
  clear Ka_52
  have Xp_53 := Lib.hid (Xp_52.out.lo hb)
  clear Xp_52
  have Gt_53 := Lib.hid (Gt_52.out.lower hb)
  clear Gt_52
  have Zt_53 := Lib.hid (Nat.lt_of_lt_of_le Zt_52.out hb.size)
  clear Zt_52
  have x_53 := Lib.hid (x_52.out.lo hb)
  clear x_52
  have B_53 := Lib.hid (below_go B_52.out hb)
  clear B_52
  have y_53 := Lib.hid hn
  clear hb hn
  (with_reducible refine (c_hit2 ga gp gt w51.heap.size (w51.heap.size + 1) cp w53 (TAB.out _ B_53.out) Ka_53.out Xp_53.out Gt_53.out x_53.out y_53.out).mono ?_)
  rintro e w54 ⟨⟨aV, cV, rfl⟩, hb⟩
  have Ka_54 := Lib.hid (Blk.alt Ka_53.out (Alt.of_below hb (fun k _ e => e)) (by have := Ka_53.out.lt; omega))
  clear Ka_53
  have Xp_54 := Lib.hid (Xp_53.out.lo hb)
  clear Xp_53
  have Gt_54 := Lib.hid (Gt_53.out.lower hb)
  clear Gt_53
  have Zt_54 := Lib.hid (Nat.lt_of_lt_of_le Zt_53.out hb.size)
  clear Zt_53
  have x_54 := Lib.hid (x_53.out.lo hb)
  clear x_53
  have y_54 := Lib.hid (y_53.out.lo hb)
  clear y_53
  have B_54 := Lib.hid (below_go B_53.out hb)
  clear B_53
  clear hb 
  clear Ka_54
  clear Xp_54
  clear Gt_54
  clear Zt_54
  clear x_54
  clear y_54
  go_wp2_with fail
  (with_reducible refine (TE.out _).mono ?_)
  rintro e w55 ⟨ga, rfl, hl, hz, hb⟩
  have B_55 := Lib.hid (below_go B_54.out hb)
  clear B_54
  have Ka_55 := Lib.hid hl
  clear hb hl hz
  go_wp2_with fail
  (with_reducible refine (AL.out _).mono ?_)
  rintro e w56 ⟨gp, cp, rfl, hl, hz, hb⟩
  have Ka_56 := Lib.hid (Blk.alt Ka_55.out (Alt.of_below hb (fun k _ e => e)) (by have := Ka_55.out.lt; omega))
  clear Ka_55
  have B_56 := Lib.hid (below_go B_55.out hb)
  clear B_55
  have Xp_56 := Lib.hid hl
  clear hb hl hz
  go_wp2_with fail
  (with_reducible refine (TH.out _).mono ?_)
  rintro e w57 ⟨gt, rfl, hl, hz, hb⟩
  have Ka_57 := Lib.hid (Blk.alt Ka_56.out (Alt.of_below hb (fun k _ e => e)) (by have := Ka_56.out.lt; omega))
  clear Ka_56
  have Xp_57 := Lib.hid (Xp_56.out.lo hb)
  clear Xp_56
  have B_57 := Lib.hid (below_go B_56.out hb)
  clear B_56
  have Gt_57 := Lib.hid hl
  have Zt_57 := Lib.hid hz
  clear hb hl hz
  go_wp2_with fail
  have hb := below_al w57 (.cells #[.int .i64 21, .int .i64 22, .int .i64 25, .int .i64 24] 3)
  have hn := (show IntsAt (w57.alloc (.cells #[.int .i64 21, .int .i64 22, .int .i64 25, .int .i64 24] 3)) (some ⟨w57.heap.size, 0, none⟩) [21, 22, 25, 24] from ints_new w57 [21, 22, 25, 24])
  have HZ58 := Lib.hid (show (w57.alloc (.cells #[.int .i64 21, .int .i64 22, .int .i64 25, .int .i64 24] 3)).heap.size = w57.heap.size + 1 from World.size_alloc ..)
  generalize w57.alloc (.cells #[.int .i64 21, .int .i64 22, .int .i64 25, .int .i64 24] 3) = w58 at *
  have Ka_58 := Lib.hid (Blk.alt Ka_57.out (Alt.of_below hb (fun k _ e => e)) (by have := Ka_57.out.lt; omega))
  clear Ka_57
  have Xp_58 := Lib.hid (Xp_57.out.lo hb)
  clear Xp_57
  have Gt_58 := Lib.hid (Gt_57.out.lower hb)
  clear Gt_57
  have Zt_58 := Lib.hid (Nat.lt_of_lt_of_le Zt_57.out hb.size)
  clear Zt_57
  have B_58 := Lib.hid (below_go B_57.out hb)
  clear B_57
  have x_58 := Lib.hid hn
  clear hb hn
  have hb := below_al w58 (.cells #[.bool true, .bool true, .bool true] 4)
  have hn := (show BoolsAt (w58.alloc (.cells #[.bool true, .bool true, .bool true] 4)) (some ⟨w58.heap.size, 0, none⟩) [true, true, true] from bools_new w58 [true, true, true])
  have HZ59 := Lib.hid (show (w58.alloc (.cells #[.bool true, .bool true, .bool true] 4)).heap.size = w58.heap.size + 1 from World.size_alloc ..)
  rw [HZ58.out] at hn
  generalize w58.alloc (.cells #[.bool true, .bool true, .bool true] 4) = w59 at *
  have Ka_59 := Lib.hid (Blk.alt Ka_58.out (Alt.of_below hb (fun k _ e => e)) (by have := Ka_58.out.lt; omega))
  clear Ka_58
  have Xp_59 := Lib.hid (Xp_58.out.lo hb)
  clear Xp_58
  have Gt_59 := Lib.hid (Gt_58.out.lower hb)
  clear Gt_58
  have Zt_59 := Lib.hid (Nat.lt_of_lt_of_le Zt_58.out hb.size)
  clear Zt_58
  have x_59 := Lib.hid (x_58.out.lo hb)
  clear x_58
  have B_59 := Lib.hid (below_go B_58.out hb)
  clear B_58
  have y_59 := Lib.hid hn
  clear hb hn
  (with_reducible refine (c_hit3 ga gp gt w57.heap.size (w57.heap.size + 1) cp w59 (TAB.out _ B_59.out) Ka_59.out Xp_59.out Gt_59.out x_59.out y_59.out).mono ?_)
  rintro e w60 ⟨⟨aV, cV, rfl⟩, hb⟩
  have Ka_60 := Lib.hid (Blk.alt Ka_59.out (Alt.of_below hb (fun k _ e => e)) (by have := Ka_59.out.lt; omega))
  clear Ka_59
  have Xp_60 := Lib.hid (Xp_59.out.lo hb)
  clear Xp_59
  have Gt_60 := Lib.hid (Gt_59.out.lower hb)
  clear Gt_59
  have Zt_60 := Lib.hid (Nat.lt_of_lt_of_le Zt_59.out hb.size)
  clear Zt_59
  have x_60 := Lib.hid (x_59.out.lo hb)
  clear x_59
  have y_60 := Lib.hid (y_59.out.lo hb)
  clear y_59
  have B_60 := Lib.hid (below_go B_59.out hb)
  clear B_59
  clear hb 
  clear Ka_60
  clear Xp_60
  clear Gt_60
  clear Zt_60
  clear x_60
  clear y_60
  go_wp2_with fail
  have HBm := B_60
  (with_reducible refine (TE.out _).mono ?_)
  rintro e w61 ⟨gm, rfl, hl, hz, hb⟩
  have HDm := Lib.hid (show w60.heap.size ≤ gm ∧ gm < w61.heap.size ∧ w.heap.size ≤ w60.heap.size from ⟨hz, hl.lt, HBm.out.size⟩)
  clear HBm
  have B_61 := Lib.hid (below_go B_60.out hb)
  clear B_60
  have Km_61 := Lib.hid hl
  clear hb hl hz
  go_wp2_with fail
  have HBl := B_61
  (with_reducible refine (TE.out _).mono ?_)
  rintro e w62 ⟨gl, rfl, hl, hz, hb⟩
  have HDl := Lib.hid (show w61.heap.size ≤ gl ∧ gl < w62.heap.size ∧ w.heap.size ≤ w61.heap.size from ⟨hz, hl.lt, HBl.out.size⟩)
  clear HBl
  have Km_62 := Lib.hid (Blk.alt Km_61.out (Alt.of_below hb (fun k _ e => e)) (by have := Km_61.out.lt; omega))
  clear Km_61
  have B_62 := Lib.hid (below_go B_61.out hb)
  clear B_61
  have Kl_62 := Lib.hid hl
  clear hb hl hz
  go_wp2_with fail
  have HBf := B_62
  (with_reducible refine (TE.out _).mono ?_)
  rintro e w63 ⟨gf, rfl, hl, hz, hb⟩
  have HDf := Lib.hid (show w62.heap.size ≤ gf ∧ gf < w63.heap.size ∧ w.heap.size ≤ w62.heap.size from ⟨hz, hl.lt, HBf.out.size⟩)
  clear HBf
  have Km_63 := Lib.hid (Blk.alt Km_62.out (Alt.of_below hb (fun k _ e => e)) (by have := Km_62.out.lt; omega))
  clear Km_62
  have Kl_63 := Lib.hid (Blk.alt Kl_62.out (Alt.of_below hb (fun k _ e => e)) (by have := Kl_62.out.lt; omega))
  clear Kl_62
  have B_63 := Lib.hid (below_go B_62.out hb)
  clear B_62
  have Kf_63 := Lib.hid hl
  clear hb hl hz
  have HD := Lib.hid (show w.heap.size ≤ gm ∧ gm < gl ∧ gl < gf ∧ gf < w63.heap.size from by have a := HDm.out; have b := HDl.out; have c := HDf.out; omega)
  clear HDm HDl HDf
  go_upto_region 14 with fail
  have hb := below_al w63 (.cells #[.int .i64 4, .int .i64 20, .int .i64 3, .int .i64 2, .slice (some ⟨gm, 0, none⟩) 3 3] 32)
  have hn := (Blk.new w63 #[.int .i64 4, .int .i64 20, .int .i64 3, .int .i64 2, .slice (some ⟨gm, 0, none⟩) 3 3] 32)
  have HZ64 := Lib.hid (show (w63.alloc (.cells #[.int .i64 4, .int .i64 20, .int .i64 3, .int .i64 2, .slice (some ⟨gm, 0, none⟩) 3 3] 32)).heap.size = w63.heap.size + 1 from World.size_alloc ..)
  generalize w63.alloc (.cells #[.int .i64 4, .int .i64 20, .int .i64 3, .int .i64 2, .slice (some ⟨gm, 0, none⟩) 3 3] 32) = w64 at *
  have Km_64 := Lib.hid (Blk.alt Km_63.out (Alt.of_below hb (fun k _ e => e)) (by have := Km_63.out.lt; omega))
  clear Km_63
  have Kl_64 := Lib.hid (Blk.alt Kl_63.out (Alt.of_below hb (fun k _ e => e)) (by have := Kl_63.out.lt; omega))
  clear Kl_63
  have Kf_64 := Lib.hid (Blk.alt Kf_63.out (Alt.of_below hb (fun k _ e => e)) (by have := Kf_63.out.lt; omega))
  clear Kf_63
  have B_64 := Lib.hid (below_go B_63.out hb)
  clear B_63
  have A_64 := Lib.hid hn
  clear hb hn
  have hb := below_al w64 (.cells #[.int .i64 4, .int .i64 20, .int .i64 3, .int .i64 2, .slice (some ⟨gl, 0, none⟩) 3 3] 32)
  have hn := (Blk.new w64 #[.int .i64 4, .int .i64 20, .int .i64 3, .int .i64 2, .slice (some ⟨gl, 0, none⟩) 3 3] 32)
  have HZ65 := Lib.hid (show (w64.alloc (.cells #[.int .i64 4, .int .i64 20, .int .i64 3, .int .i64 2, .slice (some ⟨gl, 0, none⟩) 3 3] 32)).heap.size = w64.heap.size + 1 from World.size_alloc ..)
  rw [HZ64.out] at hn
  generalize w64.alloc (.cells #[.int .i64 4, .int .i64 20, .int .i64 3, .int .i64 2, .slice (some ⟨gl, 0, none⟩) 3 3] 32) = w65 at *
  have Km_65 := Lib.hid (Blk.alt Km_64.out (Alt.of_below hb (fun k _ e => e)) (by have := Km_64.out.lt; omega))
  clear Km_64
  have Kl_65 := Lib.hid (Blk.alt Kl_64.out (Alt.of_below hb (fun k _ e => e)) (by have := Kl_64.out.lt; omega))
  clear Kl_64
  have Kf_65 := Lib.hid (Blk.alt Kf_64.out (Alt.of_below hb (fun k _ e => e)) (by have := Kf_64.out.lt; omega))
  clear Kf_64
  have A_65 := Lib.hid (Blk.alt A_64.out (Alt.of_below hb (fun k _ e => e)) (by have := A_64.out.lt; omega))
  clear A_64
  have B_65 := Lib.hid (below_go B_64.out hb)
  clear B_64
  have L_65 := Lib.hid hn
  clear hb hn
  have hb := below_al w65 (.cells #[.int .i64 4, .int .i64 20, .int .i64 3, .int .i64 2, .slice (some ⟨gf, 0, none⟩) 3 3] 32)
  have hn := (Blk.new w65 #[.int .i64 4, .int .i64 20, .int .i64 3, .int .i64 2, .slice (some ⟨gf, 0, none⟩) 3 3] 32)
  have HZ66 := Lib.hid (show (w65.alloc (.cells #[.int .i64 4, .int .i64 20, .int .i64 3, .int .i64 2, .slice (some ⟨gf, 0, none⟩) 3 3] 32)).heap.size = w65.heap.size + 1 from World.size_alloc ..)
  rw [HZ65.out, HZ64.out] at hn
  generalize w65.alloc (.cells #[.int .i64 4, .int .i64 20, .int .i64 3, .int .i64 2, .slice (some ⟨gf, 0, none⟩) 3 3] 32) = w66 at *
  have Km_66 := Lib.hid (Blk.alt Km_65.out (Alt.of_below hb (fun k _ e => e)) (by have := Km_65.out.lt; omega))
  clear Km_65
  have Kl_66 := Lib.hid (Blk.alt Kl_65.out (Alt.of_below hb (fun k _ e => e)) (by have := Kl_65.out.lt; omega))
  clear Kl_65
  have Kf_66 := Lib.hid (Blk.alt Kf_65.out (Alt.of_below hb (fun k _ e => e)) (by have := Kf_65.out.lt; omega))
  clear Kf_65
  have A_66 := Lib.hid (Blk.alt A_65.out (Alt.of_below hb (fun k _ e => e)) (by have := A_65.out.lt; omega))
  clear A_65
  have L_66 := Lib.hid (Blk.alt L_65.out (Alt.of_below hb (fun k _ e => e)) (by have := L_65.out.lt; omega))
  clear L_65
  have B_66 := Lib.hid (below_go B_65.out hb)
  clear B_65
  have F_66 := Lib.hid hn
  clear hb hn
  have KA := Blk.alt A_66.out (Alt.of_below (p := fun k => w66.heap.size ≤ k) (below_al w66 (.cells (lkCells manyLs).toArray 86)) (fun k _ e => e)) (by have := A_66.out.lt; omega)
  have fa := KA.fr 4
  have a4 := KA.cell 4 rfl
  go_upto_region 15 with fail
  clear fa a4 KA
  have hb := below_al w66 (.cells (lkCells manyLs).toArray 86)
  have hn := Blk.new w66 (lkCells manyLs).toArray 86
  have HQ := Lib.hid (show w66.heap.size = w63.heap.size + 3 by rw [HZ66.out, HZ65.out, HZ64.out])
  generalize w66.alloc (.cells (lkCells manyLs).toArray 86) = w67 at *
  have Km_67 := Lib.hid (Blk.alt Km_66.out (Alt.of_below hb (fun k _ e => e)) (by have := Km_66.out.lt; omega))
  clear Km_66
  have Kl_67 := Lib.hid (Blk.alt Kl_66.out (Alt.of_below hb (fun k _ e => e)) (by have := Kl_66.out.lt; omega))
  clear Kl_66
  have Kf_67 := Lib.hid (Blk.alt Kf_66.out (Alt.of_below hb (fun k _ e => e)) (by have := Kf_66.out.lt; omega))
  clear Kf_66
  have A_67 := Lib.hid (Blk.alt A_66.out (Alt.of_below hb (fun k _ e => e)) (by have := A_66.out.lt; omega))
  clear A_66
  have L_67 := Lib.hid (Blk.alt L_66.out (Alt.of_below hb (fun k _ e => e)) (by have := L_66.out.lt; omega))
  clear L_66
  have F_67 := Lib.hid (Blk.alt F_66.out (Alt.of_below hb (fun k _ e => e)) (by have := F_66.out.lt; omega))
  clear F_66
  have B_67 := Lib.hid (below_go B_66.out hb)
  clear B_66
  have Q_67 := Lib.hid hn
  clear hb hn
  have ha : Alt (fun k => k = w63.heap.size) w67 (w67.setCell ⟨w63.heap.size, 4, none⟩ (.slice (some ⟨w66.heap.size, 0, none⟩) 7 7)) := (Alt.refl (fun k => k = w63.heap.size) w67).setCell (q := ⟨w63.heap.size, 4, none⟩) rfl _
  have hn := A_67.out.setAt 4 (.slice (some ⟨w66.heap.size, 0, none⟩) 7 7)
  have HLB := Lib.hid (show w.heap.size ≤ w63.heap.size by have := HD.out; have := HQ.out; omega)
  have B_68 := Lib.hid (((Alt.of_below (p := fun k => w.heap.size ≤ k) B_67.out (fun k _ e => e)).trans (ha.mono fun k _ e => by have := HLB.out; omega)).below (Nat.le_refl _) fun k e => e)
  generalize w67.setCell ⟨w63.heap.size, 4, none⟩ (.slice (some ⟨w66.heap.size, 0, none⟩) 7 7) = w68 at *
  have Km_68 := Lib.hid (Blk.alt Km_67.out ha (by have := HD.out; have := HQ.out; omega))
  clear Km_67
  have Kl_68 := Lib.hid (Blk.alt Kl_67.out ha (by have := HD.out; have := HQ.out; omega))
  clear Kl_67
  have Kf_68 := Lib.hid (Blk.alt Kf_67.out ha (by have := HD.out; have := HQ.out; omega))
  clear Kf_67
  have A_68 := Lib.hid hn
  clear A_67
  have L_68 := Lib.hid (Blk.alt L_67.out ha (by have := HD.out; have := HQ.out; omega))
  clear L_67
  have F_68 := Lib.hid (Blk.alt F_67.out ha (by have := HD.out; have := HQ.out; omega))
  clear F_67
  have Q_68 := Lib.hid (Blk.alt Q_67.out ha (by have := HD.out; have := HQ.out; omega))
  clear Q_67
  clear ha hn HLB B_67
  have l4 : w68.cell? ⟨w63.heap.size + 1, 4, none⟩ = some (.slice (some ⟨gl, 0, none⟩) 3 3) := L_68.out.cell 4 rfl
  have f4 := Kl_68.out.fr 4
  have c4 : w68.cell? ⟨gl, 4, none⟩ = some (.int .i64 3) := Kl_68.out.cell 4 rfl
  go_upto_region 16 with fail
  clear l4 f4 c4
  have ha : Alt (fun k => k = gl) w68 (w68.setCell ⟨gl, 4, none⟩ (.int .i64 1)) := (Alt.refl (fun k => k = gl) w68).setCell (q := ⟨gl, 4, none⟩) rfl _
  have hn := Kl_68.out.setAt 4 (.int .i64 1)
  rw [loop_set] at hn
  have HLB := Lib.hid (show w.heap.size ≤ gl by have := HD.out; have := HQ.out; omega)
  have B_69 := Lib.hid (((Alt.of_below (p := fun k => w.heap.size ≤ k) B_68.out (fun k _ e => e)).trans (ha.mono fun k _ e => by have := HLB.out; omega)).below (Nat.le_refl _) fun k e => e)
  generalize w68.setCell ⟨gl, 4, none⟩ (.int .i64 1) = w69 at *
  have Km_69 := Lib.hid (Blk.alt Km_68.out ha (by have := HD.out; have := HQ.out; omega))
  clear Km_68
  have Kl_69 := Lib.hid hn
  clear Kl_68
  have Kf_69 := Lib.hid (Blk.alt Kf_68.out ha (by have := HD.out; have := HQ.out; omega))
  clear Kf_68
  have A_69 := Lib.hid (Blk.alt A_68.out ha (by have := HD.out; have := HQ.out; omega))
  clear A_68
  have L_69 := Lib.hid (Blk.alt L_68.out ha (by have := HD.out; have := HQ.out; omega))
  clear L_68
  have F_69 := Lib.hid (Blk.alt F_68.out ha (by have := HD.out; have := HQ.out; omega))
  clear F_68
  have Q_69 := Lib.hid (Blk.alt Q_68.out ha (by have := HD.out; have := HQ.out; omega))
  clear Q_68
  clear ha hn HLB B_68
  have l4 : w69.cell? ⟨w63.heap.size + 1 + 1, 4, none⟩ = some (.slice (some ⟨gf, 0, none⟩) 3 3) := F_69.out.cell 4 rfl
  have f4 := Kf_69.out.fr 7
  have c4 : w69.cell? ⟨gf, 7, none⟩ = some (.int .i64 6) := Kf_69.out.cell 7 rfl
  go_upto_region 17 with fail
  clear l4 f4 c4
  have ha : Alt (fun k => k = gf) w69 (w69.setCell ⟨gf, 7, none⟩ (.int .i64 10)) := (Alt.refl (fun k => k = gf) w69).setCell (q := ⟨gf, 7, none⟩) rfl _
  have hn := Kf_69.out.setAt 7 (.int .i64 10)
  rw [free_set] at hn
  have HLB := Lib.hid (show w.heap.size ≤ gf by have := HD.out; have := HQ.out; omega)
  have B_70 := Lib.hid (((Alt.of_below (p := fun k => w.heap.size ≤ k) B_69.out (fun k _ e => e)).trans (ha.mono fun k _ e => by have := HLB.out; omega)).below (Nat.le_refl _) fun k e => e)
  generalize w69.setCell ⟨gf, 7, none⟩ (.int .i64 10) = w70 at *
  have Km_70 := Lib.hid (Blk.alt Km_69.out ha (by have := HD.out; have := HQ.out; omega))
  clear Km_69
  have Kl_70 := Lib.hid (Blk.alt Kl_69.out ha (by have := HD.out; have := HQ.out; omega))
  clear Kl_69
  have Kf_70 := Lib.hid hn
  clear Kf_69
  have A_70 := Lib.hid (Blk.alt A_69.out ha (by have := HD.out; have := HQ.out; omega))
  clear A_69
  have L_70 := Lib.hid (Blk.alt L_69.out ha (by have := HD.out; have := HQ.out; omega))
  clear L_69
  have F_70 := Lib.hid (Blk.alt F_69.out ha (by have := HD.out; have := HQ.out; omega))
  clear F_69
  have Q_70 := Lib.hid (Blk.alt Q_69.out ha (by have := HD.out; have := HQ.out; omega))
  clear Q_69
  clear ha hn HLB B_69
  go_wp2_with fail
  (with_reducible refine (TE.out _).mono ?_)
  rintro e w71 ⟨ga, rfl, hl, hz, hb⟩
  have Km_71 := Lib.hid (Blk.alt Km_70.out (Alt.of_below hb (fun k _ e => e)) (by have := Km_70.out.lt; omega))
  clear Km_70
  have Kl_71 := Lib.hid (Blk.alt Kl_70.out (Alt.of_below hb (fun k _ e => e)) (by have := Kl_70.out.lt; omega))
  clear Kl_70
  have Kf_71 := Lib.hid (Blk.alt Kf_70.out (Alt.of_below hb (fun k _ e => e)) (by have := Kf_70.out.lt; omega))
  clear Kf_70
  have A_71 := Lib.hid (Blk.alt A_70.out (Alt.of_below hb (fun k _ e => e)) (by have := A_70.out.lt; omega))
  clear A_70
  have L_71 := Lib.hid (Blk.alt L_70.out (Alt.of_below hb (fun k _ e => e)) (by have := L_70.out.lt; omega))
  clear L_70
  have F_71 := Lib.hid (Blk.alt F_70.out (Alt.of_below hb (fun k _ e => e)) (by have := F_70.out.lt; omega))
  clear F_70
  have Q_71 := Lib.hid (Blk.alt Q_70.out (Alt.of_below hb (fun k _ e => e)) (by have := Q_70.out.lt; omega))
  clear Q_70
  have B_71 := Lib.hid (below_go B_70.out hb)
  clear B_70
  have Ka_71 := Lib.hid hl
  clear hb hl hz
  go_wp2_with fail
  (with_reducible refine (c_cvt3 ga 0 w71 (TAB.out _ B_71.out) Ka_71.out).mono ?_)
  rintro e w72 ⟨rfl, hb⟩
  have Km_72 := Lib.hid (Blk.alt Km_71.out (Alt.of_below hb (fun k _ e => e)) (by have := Km_71.out.lt; omega))
  clear Km_71
  have Kl_72 := Lib.hid (Blk.alt Kl_71.out (Alt.of_below hb (fun k _ e => e)) (by have := Kl_71.out.lt; omega))
  clear Kl_71
  have Kf_72 := Lib.hid (Blk.alt Kf_71.out (Alt.of_below hb (fun k _ e => e)) (by have := Kf_71.out.lt; omega))
  clear Kf_71
  have A_72 := Lib.hid (Blk.alt A_71.out (Alt.of_below hb (fun k _ e => e)) (by have := A_71.out.lt; omega))
  clear A_71
  have L_72 := Lib.hid (Blk.alt L_71.out (Alt.of_below hb (fun k _ e => e)) (by have := L_71.out.lt; omega))
  clear L_71
  have F_72 := Lib.hid (Blk.alt F_71.out (Alt.of_below hb (fun k _ e => e)) (by have := F_71.out.lt; omega))
  clear F_71
  have Q_72 := Lib.hid (Blk.alt Q_71.out (Alt.of_below hb (fun k _ e => e)) (by have := Q_71.out.lt; omega))
  clear Q_71
  have Ka_72 := Lib.hid (Blk.alt Ka_71.out (Alt.of_below hb (fun k _ e => e)) (by have := Ka_71.out.lt; omega))
  clear Ka_71
  have B_72 := Lib.hid (below_go B_71.out hb)
  clear B_71
  clear hb 
  clear Ka_72
  go_wp2_with fail
  have hb := below_al w72 (.cells #[.int .i64 0, .int .i64 (-3)] 73)
  have hn := (Blk.new w72 #[.int .i64 0, .int .i64 (-3)] 73)
  have HZ73 := Lib.hid (show (w72.alloc (.cells #[.int .i64 0, .int .i64 (-3)] 73)).heap.size = w72.heap.size + 1 from World.size_alloc ..)
  generalize w72.alloc (.cells #[.int .i64 0, .int .i64 (-3)] 73) = w73 at *
  have Km_73 := Lib.hid (Blk.alt Km_72.out (Alt.of_below hb (fun k _ e => e)) (by have := Km_72.out.lt; omega))
  clear Km_72
  have Kl_73 := Lib.hid (Blk.alt Kl_72.out (Alt.of_below hb (fun k _ e => e)) (by have := Kl_72.out.lt; omega))
  clear Kl_72
  have Kf_73 := Lib.hid (Blk.alt Kf_72.out (Alt.of_below hb (fun k _ e => e)) (by have := Kf_72.out.lt; omega))
  clear Kf_72
  have A_73 := Lib.hid (Blk.alt A_72.out (Alt.of_below hb (fun k _ e => e)) (by have := A_72.out.lt; omega))
  clear A_72
  have L_73 := Lib.hid (Blk.alt L_72.out (Alt.of_below hb (fun k _ e => e)) (by have := L_72.out.lt; omega))
  clear L_72
  have F_73 := Lib.hid (Blk.alt F_72.out (Alt.of_below hb (fun k _ e => e)) (by have := F_72.out.lt; omega))
  clear F_72
  have Q_73 := Lib.hid (Blk.alt Q_72.out (Alt.of_below hb (fun k _ e => e)) (by have := Q_72.out.lt; omega))
  clear Q_72
  have B_73 := Lib.hid (below_go B_72.out hb)
  clear B_72
  have N_73 := Lib.hid hn
  clear hb hn
  (with_reducible refine (c_cen w73 (TAB.out _ B_73.out)).mono ?_)
  rintro e w74 ⟨rfl, hb⟩
  have Km_74 := Lib.hid (Blk.alt Km_73.out (Alt.of_below hb (fun k _ e => e)) (by have := Km_73.out.lt; omega))
  clear Km_73
  have Kl_74 := Lib.hid (Blk.alt Kl_73.out (Alt.of_below hb (fun k _ e => e)) (by have := Kl_73.out.lt; omega))
  clear Kl_73
  have Kf_74 := Lib.hid (Blk.alt Kf_73.out (Alt.of_below hb (fun k _ e => e)) (by have := Kf_73.out.lt; omega))
  clear Kf_73
  have A_74 := Lib.hid (Blk.alt A_73.out (Alt.of_below hb (fun k _ e => e)) (by have := A_73.out.lt; omega))
  clear A_73
  have L_74 := Lib.hid (Blk.alt L_73.out (Alt.of_below hb (fun k _ e => e)) (by have := L_73.out.lt; omega))
  clear L_73
  have F_74 := Lib.hid (Blk.alt F_73.out (Alt.of_below hb (fun k _ e => e)) (by have := F_73.out.lt; omega))
  clear F_73
  have Q_74 := Lib.hid (Blk.alt Q_73.out (Alt.of_below hb (fun k _ e => e)) (by have := Q_73.out.lt; omega))
  clear Q_73
  have N_74 := Lib.hid (Blk.alt N_73.out (Alt.of_below hb (fun k _ e => e)) (by have := N_73.out.lt; omega))
  clear N_73
  have B_74 := Lib.hid (below_go B_73.out hb)
  clear B_73
  clear hb 
  go_upto_region 19 with fail
  have hb := below_al w74 (.cells #[.int .i64 1, .int .i64 3, .int .i64 4, .int .i64 0, .int .i64 0] 37)
  have hn := (Blk.new w74 #[.int .i64 1, .int .i64 3, .int .i64 4, .int .i64 0, .int .i64 0] 37)
  have HZ75 := Lib.hid (show (w74.alloc (.cells #[.int .i64 1, .int .i64 3, .int .i64 4, .int .i64 0, .int .i64 0] 37)).heap.size = w74.heap.size + 1 from World.size_alloc ..)
  generalize w74.alloc (.cells #[.int .i64 1, .int .i64 3, .int .i64 4, .int .i64 0, .int .i64 0] 37) = w75 at *
  have Km_75 := Lib.hid (Blk.alt Km_74.out (Alt.of_below hb (fun k _ e => e)) (by have := Km_74.out.lt; omega))
  clear Km_74
  have Kl_75 := Lib.hid (Blk.alt Kl_74.out (Alt.of_below hb (fun k _ e => e)) (by have := Kl_74.out.lt; omega))
  clear Kl_74
  have Kf_75 := Lib.hid (Blk.alt Kf_74.out (Alt.of_below hb (fun k _ e => e)) (by have := Kf_74.out.lt; omega))
  clear Kf_74
  have A_75 := Lib.hid (Blk.alt A_74.out (Alt.of_below hb (fun k _ e => e)) (by have := A_74.out.lt; omega))
  clear A_74
  have L_75 := Lib.hid (Blk.alt L_74.out (Alt.of_below hb (fun k _ e => e)) (by have := L_74.out.lt; omega))
  clear L_74
  have F_75 := Lib.hid (Blk.alt F_74.out (Alt.of_below hb (fun k _ e => e)) (by have := F_74.out.lt; omega))
  clear F_74
  have Q_75 := Lib.hid (Blk.alt Q_74.out (Alt.of_below hb (fun k _ e => e)) (by have := Q_74.out.lt; omega))
  clear Q_74
  have N_75 := Lib.hid (Blk.alt N_74.out (Alt.of_below hb (fun k _ e => e)) (by have := N_74.out.lt; omega))
  clear N_74
  have B_75 := Lib.hid (below_go B_74.out hb)
  clear B_74
  have C_75 := Lib.hid hn
  clear hb hn
  have a0 : w75.cell? ⟨w63.heap.size, 0, none⟩ = some (.int .i64 4) := A_75.out.cell 0 rfl
  have a1 : w75.cell? ⟨w63.heap.size, 1, none⟩ = some (.int .i64 20) := A_75.out.cell 1 rfl
  have a2 : w75.cell? ⟨w63.heap.size, 2, none⟩ = some (.int .i64 3) := A_75.out.cell 2 rfl
  have a3 : w75.cell? ⟨w63.heap.size, 3, none⟩ = some (.int .i64 2) := A_75.out.cell 3 rfl
  have a4 : w75.cell? ⟨w63.heap.size, 4, none⟩ = some (.slice (some ⟨w66.heap.size, 0, none⟩) 7 7) := A_75.out.cell 4 rfl
  go_wp2_with fail
  clear a0 a1 a2 a3 a4
  (with_reducible refine (c_many w66.heap.size w75 Q_75.out).mono ?_)
  rintro e w76 ⟨rfl, hb⟩
  have Km_76 := Lib.hid (Blk.alt Km_75.out (Alt.of_below hb (fun k _ e => e)) (by have := Km_75.out.lt; omega))
  clear Km_75
  have Kl_76 := Lib.hid (Blk.alt Kl_75.out (Alt.of_below hb (fun k _ e => e)) (by have := Kl_75.out.lt; omega))
  clear Kl_75
  have Kf_76 := Lib.hid (Blk.alt Kf_75.out (Alt.of_below hb (fun k _ e => e)) (by have := Kf_75.out.lt; omega))
  clear Kf_75
  have A_76 := Lib.hid (Blk.alt A_75.out (Alt.of_below hb (fun k _ e => e)) (by have := A_75.out.lt; omega))
  clear A_75
  have L_76 := Lib.hid (Blk.alt L_75.out (Alt.of_below hb (fun k _ e => e)) (by have := L_75.out.lt; omega))
  clear L_75
  have F_76 := Lib.hid (Blk.alt F_75.out (Alt.of_below hb (fun k _ e => e)) (by have := F_75.out.lt; omega))
  clear F_75
  have Q_76 := Lib.hid (Blk.alt Q_75.out (Alt.of_below hb (fun k _ e => e)) (by have := Q_75.out.lt; omega))
  clear Q_75
  have N_76 := Lib.hid (Blk.alt N_75.out (Alt.of_below hb (fun k _ e => e)) (by have := N_75.out.lt; omega))
  clear N_75
  have C_76 := Lib.hid (Blk.alt C_75.out (Alt.of_below hb (fun k _ e => e)) (by have := C_75.out.lt; omega))
  clear C_75
  have B_76 := Lib.hid (below_go B_75.out hb)
  clear B_75
  clear hb 
  have a0 : w76.cell? ⟨w63.heap.size + 1, 0, none⟩ = some (.int .i64 4) := L_76.out.cell 0 rfl
  have a1 : w76.cell? ⟨w63.heap.size + 1, 1, none⟩ = some (.int .i64 20) := L_76.out.cell 1 rfl
  have a2 : w76.cell? ⟨w63.heap.size + 1, 2, none⟩ = some (.int .i64 3) := L_76.out.cell 2 rfl
  have a3 : w76.cell? ⟨w63.heap.size + 1, 3, none⟩ = some (.int .i64 2) := L_76.out.cell 3 rfl
  have a4 : w76.cell? ⟨w63.heap.size + 1, 4, none⟩ = some (.slice (some ⟨gl, 0, none⟩) 3 3) := L_76.out.cell 4 rfl
  go_wp2_with fail
  clear a0 a1 a2 a3 a4
  (with_reducible refine (c_loop gl w76 Kl_76.out).mono ?_)
  rintro e w77 ⟨rfl, hb⟩
  have Km_77 := Lib.hid (Blk.alt Km_76.out (Alt.of_below hb (fun k _ e => e)) (by have := Km_76.out.lt; omega))
  clear Km_76
  have Kl_77 := Lib.hid (Blk.alt Kl_76.out (Alt.of_below hb (fun k _ e => e)) (by have := Kl_76.out.lt; omega))
  clear Kl_76
  have Kf_77 := Lib.hid (Blk.alt Kf_76.out (Alt.of_below hb (fun k _ e => e)) (by have := Kf_76.out.lt; omega))
  clear Kf_76
  have A_77 := Lib.hid (Blk.alt A_76.out (Alt.of_below hb (fun k _ e => e)) (by have := A_76.out.lt; omega))
  clear A_76
  have L_77 := Lib.hid (Blk.alt L_76.out (Alt.of_below hb (fun k _ e => e)) (by have := L_76.out.lt; omega))
  clear L_76
  have F_77 := Lib.hid (Blk.alt F_76.out (Alt.of_below hb (fun k _ e => e)) (by have := F_76.out.lt; omega))
  clear F_76
  have Q_77 := Lib.hid (Blk.alt Q_76.out (Alt.of_below hb (fun k _ e => e)) (by have := Q_76.out.lt; omega))
  clear Q_76
  have N_77 := Lib.hid (Blk.alt N_76.out (Alt.of_below hb (fun k _ e => e)) (by have := N_76.out.lt; omega))
  clear N_76
  have C_77 := Lib.hid (Blk.alt C_76.out (Alt.of_below hb (fun k _ e => e)) (by have := C_76.out.lt; omega))
  clear C_76
  have B_77 := Lib.hid (below_go B_76.out hb)
  clear B_76
  clear hb 
  have a0 : w77.cell? ⟨w63.heap.size + 1 + 1, 0, none⟩ = some (.int .i64 4) := F_77.out.cell 0 rfl
  have a1 : w77.cell? ⟨w63.heap.size + 1 + 1, 1, none⟩ = some (.int .i64 20) := F_77.out.cell 1 rfl
  have a2 : w77.cell? ⟨w63.heap.size + 1 + 1, 2, none⟩ = some (.int .i64 3) := F_77.out.cell 2 rfl
  have a3 : w77.cell? ⟨w63.heap.size + 1 + 1, 3, none⟩ = some (.int .i64 2) := F_77.out.cell 3 rfl
  have a4 : w77.cell? ⟨w63.heap.size + 1 + 1, 4, none⟩ = some (.slice (some ⟨gf, 0, none⟩) 3 3) := F_77.out.cell 4 rfl
  go_wp2_with fail
  clear a0 a1 a2 a3 a4
  (with_reducible refine (c_free gf w77 Kf_77.out).mono ?_)
  rintro e w78 ⟨rfl, hb⟩
  have Km_78 := Lib.hid (Blk.alt Km_77.out (Alt.of_below hb (fun k _ e => e)) (by have := Km_77.out.lt; omega))
  clear Km_77
  have Kl_78 := Lib.hid (Blk.alt Kl_77.out (Alt.of_below hb (fun k _ e => e)) (by have := Kl_77.out.lt; omega))
  clear Kl_77
  have Kf_78 := Lib.hid (Blk.alt Kf_77.out (Alt.of_below hb (fun k _ e => e)) (by have := Kf_77.out.lt; omega))
  clear Kf_77
  have A_78 := Lib.hid (Blk.alt A_77.out (Alt.of_below hb (fun k _ e => e)) (by have := A_77.out.lt; omega))
  clear A_77
  have L_78 := Lib.hid (Blk.alt L_77.out (Alt.of_below hb (fun k _ e => e)) (by have := L_77.out.lt; omega))
  clear L_77
  have F_78 := Lib.hid (Blk.alt F_77.out (Alt.of_below hb (fun k _ e => e)) (by have := F_77.out.lt; omega))
  clear F_77
  have Q_78 := Lib.hid (Blk.alt Q_77.out (Alt.of_below hb (fun k _ e => e)) (by have := Q_77.out.lt; omega))
  clear Q_77
  have N_78 := Lib.hid (Blk.alt N_77.out (Alt.of_below hb (fun k _ e => e)) (by have := N_77.out.lt; omega))
  clear N_77
  have C_78 := Lib.hid (Blk.alt C_77.out (Alt.of_below hb (fun k _ e => e)) (by have := C_77.out.lt; omega))
  clear C_77
  have B_78 := Lib.hid (below_go B_77.out hb)
  clear B_77
  clear hb 
  go_wp2_with fail
  (with_reducible refine (c_none w78).mono ?_)
  rintro e w79 ⟨rfl, hb⟩
  have Km_79 := Lib.hid (Blk.alt Km_78.out (Alt.of_below hb (fun k _ e => e)) (by have := Km_78.out.lt; omega))
  clear Km_78
  have Kl_79 := Lib.hid (Blk.alt Kl_78.out (Alt.of_below hb (fun k _ e => e)) (by have := Kl_78.out.lt; omega))
  clear Kl_78
  have Kf_79 := Lib.hid (Blk.alt Kf_78.out (Alt.of_below hb (fun k _ e => e)) (by have := Kf_78.out.lt; omega))
  clear Kf_78
  have A_79 := Lib.hid (Blk.alt A_78.out (Alt.of_below hb (fun k _ e => e)) (by have := A_78.out.lt; omega))
  clear A_78
  have L_79 := Lib.hid (Blk.alt L_78.out (Alt.of_below hb (fun k _ e => e)) (by have := L_78.out.lt; omega))
  clear L_78
  have F_79 := Lib.hid (Blk.alt F_78.out (Alt.of_below hb (fun k _ e => e)) (by have := F_78.out.lt; omega))
  clear F_78
  have Q_79 := Lib.hid (Blk.alt Q_78.out (Alt.of_below hb (fun k _ e => e)) (by have := Q_78.out.lt; omega))
  clear Q_78
  have N_79 := Lib.hid (Blk.alt N_78.out (Alt.of_below hb (fun k _ e => e)) (by have := N_78.out.lt; omega))
  clear N_78
  have C_79 := Lib.hid (Blk.alt C_78.out (Alt.of_below hb (fun k _ e => e)) (by have := C_78.out.lt; omega))
  clear C_78
  have B_79 := Lib.hid (below_go B_78.out hb)
  clear B_78
  clear hb 
  have a0 : w79.cell? ⟨w72.heap.size, 0, none⟩ = some (.int .i64 0) := N_79.out.cell 0 rfl
  have a1 : w79.cell? ⟨w72.heap.size, 1, none⟩ = some (.int .i64 (-3)) := N_79.out.cell 1 rfl
  have b0 : w79.cell? ⟨w74.heap.size, 0, none⟩ = some (.int .i64 1) := C_79.out.cell 0 rfl
  have b1 : w79.cell? ⟨w74.heap.size, 1, none⟩ = some (.int .i64 3) := C_79.out.cell 1 rfl
  have b2 : w79.cell? ⟨w74.heap.size, 2, none⟩ = some (.int .i64 4) := C_79.out.cell 2 rfl
  have b3 : w79.cell? ⟨w74.heap.size, 3, none⟩ = some (.int .i64 0) := C_79.out.cell 3 rfl
  have b4 : w79.cell? ⟨w74.heap.size, 4, none⟩ = some (.int .i64 0) := C_79.out.cell 4 rfl
  go_wp2_with fail
  (with_reducible refine (AW.out _ B_79.out).mono ?_)
  rintro e w80 ⟨rfl, hb⟩
  have Km_80 := Lib.hid (Blk.alt Km_79.out (Alt.of_below hb (fun k _ e => e)) (by have := Km_79.out.lt; omega))
  clear Km_79
  have Kl_80 := Lib.hid (Blk.alt Kl_79.out (Alt.of_below hb (fun k _ e => e)) (by have := Kl_79.out.lt; omega))
  clear Kl_79
  have Kf_80 := Lib.hid (Blk.alt Kf_79.out (Alt.of_below hb (fun k _ e => e)) (by have := Kf_79.out.lt; omega))
  clear Kf_79
  have A_80 := Lib.hid (Blk.alt A_79.out (Alt.of_below hb (fun k _ e => e)) (by have := A_79.out.lt; omega))
  clear A_79
  have L_80 := Lib.hid (Blk.alt L_79.out (Alt.of_below hb (fun k _ e => e)) (by have := L_79.out.lt; omega))
  clear L_79
  have F_80 := Lib.hid (Blk.alt F_79.out (Alt.of_below hb (fun k _ e => e)) (by have := F_79.out.lt; omega))
  clear F_79
  have Q_80 := Lib.hid (Blk.alt Q_79.out (Alt.of_below hb (fun k _ e => e)) (by have := Q_79.out.lt; omega))
  clear Q_79
  have N_80 := Lib.hid (Blk.alt N_79.out (Alt.of_below hb (fun k _ e => e)) (by have := N_79.out.lt; omega))
  clear N_79
  have C_80 := Lib.hid (Blk.alt C_79.out (Alt.of_below hb (fun k _ e => e)) (by have := C_79.out.lt; omega))
  clear C_79
  have B_80 := Lib.hid (below_go B_79.out hb)
  clear B_79
  clear hb 
  go_wp2_with fail
  go_returns
  exact ⟨rfl, B_80.out⟩

end Go.Proofs.YtaloffdkadhhnaaDoor
