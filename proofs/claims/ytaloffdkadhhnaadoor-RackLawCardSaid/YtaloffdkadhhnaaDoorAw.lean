/- The law's awake is true. -/
import Derived.Test.YtaloffdkadhhnaaDoorIn
set_option linter.unusedVariables false
set_option linter.unusedSimpArgs false
namespace Go.Proofs.YtaloffdkadhhnaaDoor
open Go.RowKit Go.Shelf

attribute [local go_sem] Oper.semAt_some

theorem ints_eq (xs : List Int) (a b : Option Addr) (c d n m : Nat) (w : World) (hs : IntsAt w a xs) (ht : IntsAt w b xs) (hn : xs.length ≤ 1000) (h1 : n = xs.length) (h2 : m = xs.length) :
    Calls Tryd.prog 31 #[.slice a n c, .slice b m d] w fun e w' => e = .returned (.bool true) ∧ Below w.heap.size w w' := by
  subst h1 h2
  refine (ints_any xs xs a b c d w hs ht hn hn).mono ?_
  rintro e w' ⟨rfl, h⟩
  exact ⟨by simp, ints_lo h.out⟩

set_option maxRecDepth 100000 in
set_option maxHeartbeats 4000000 in
theorem awake_any (w : World) (hT : TabOK w) : Calls Tryd.prog 16 #[] w fun e w' => e = .returned (.bool true) ∧ Below w.heap.size w w' := by
  have TE := Lib.hid (fun W => ten_any W)
  have AL := Lib.hid (fun W => all_any W)
  have TH := Lib.hid (fun W => thrown_any W)
  have TAB := Lib.hid (fun W (hb : Below w.heap.size w W) => hT.lo hb)
  clear hT
  go_enter Tryd.func16, Tryd.ntmps16
  go_wp2_with fail
  refine (TE.out _).mono ?_
  rintro e w1 ⟨g1, c1, rfl, L1, z1, b1⟩
  go_wp2_with fail
  have B1 := below_go b1 (below_al w1 (.cells (([6, 9] : List Int).map (Value.int .i64)).toArray 3))
  have K := Kind_any (tenR (some ⟨g1, 0, none⟩) c1) [6, 9] (some ⟨w1.heap.size, 0, none⟩) 2 _ (L1.lo (below_al w1 _)) (by show 3 ≤ 1000; omega) (ints_new w1 [6, 9]) (by show 2 ≤ 1000; omega) (TAB.out _ B1)
  rw [v_knd, v_chk] at K
  refine K.mono ?_
  rintro e w2 ⟨rfl, b2⟩
  have B2 := Lib.hid (below_go B1 b2)
  clear K L1 z1 b1 B1 b2
  go_wp2_with fail
  refine (TE.out _).mono ?_
  rintro e w3 ⟨g3, c3, rfl, L3, z3, b3⟩
  have L3' := Lib.hid L3
  have B3 := Lib.hid (below_go B2.out b3)
  clear L3 b3
  go_wp2_with fail
  refine (AL.out _).mono ?_
  rintro e w4 ⟨g4, c4, rfl, X4, z4, b4⟩
  have X4' := Lib.hid X4
  have L4 := Lib.hid (L3'.out.lo b4)
  have B4 := Lib.hid (below_go B3.out b4)
  have Z4 := Lib.hid (Nat.lt_of_lt_of_le z3 b4.size)
  clear X4 b4 L3' B3
  go_wp2_with fail
  refine (TH.out _).mono ?_
  rintro e w5 ⟨g5, c5, rfl, G5, z5, b5⟩
  have F := Falls_any (tenR (some ⟨g3, 0, none⟩) c3) allL (some ⟨g4, 0, none⟩) c4 thrownL (some ⟨g5, 0, none⟩) c5 w5 (L4.out.lo b5) (by show 3 ≤ 1000; omega) (fun g o e => by cases e; exact Nat.lt_of_lt_of_le Z4.out b5.size) (X4'.out.lo b5) (by show 10 ≤ 1000; omega) G5 (by show 4 ≤ 1000; omega) (fun g o e => by cases e; exact z5) (TAB.out _ (below_go B4.out b5))
  have B5 := Lib.hid (below_go B4.out b5)
  clear z3 z4 Z4 L4 X4' G5 z5 b5 B4
  go_wp2_with fail
  refine F.mono ?_
  rintro e w6 ⟨v1, v2, he, hs, hm, b6⟩
  rw [v_bal] at he hs hm
  rw [if_pos rfl] at hs hm
  rw [v_sure] at hs
  rw [v_may] at hm
  subst he
  obtain ⟨a1, d1, rfl, i1⟩ := hs
  obtain ⟨a2, d2, rfl, i2⟩ := hm
  have I1 := Lib.hid i1
  have I2 := Lib.hid i2
  have B6 := Lib.hid (below_go B5.out b6)
  clear i1 i2 b6 F B5
  go_wp2_with fail
  refine (TE.out _).mono ?_
  rintro e w7 ⟨g7, c7, rfl, L7, z7, b7⟩
  have L7' := Lib.hid L7
  have B7 := Lib.hid (below_go B6.out b7)
  have J1 := Lib.hid (I1.out.lo b7)
  have J2 := Lib.hid (I2.out.lo b7)
  clear L7 b7 I1 I2 B6
  go_wp2_with fail
  refine (AL.out _).mono ?_
  rintro e w8 ⟨g8, c8, rfl, X8, z8, b8⟩
  have X8' := Lib.hid X8
  have L8 := Lib.hid (L7'.out.lo b8)
  have B8 := Lib.hid (below_go B7.out b8)
  have Z8 := Lib.hid (Nat.lt_of_lt_of_le z7 b8.size)
  have I1 := Lib.hid (J1.out.lo b8)
  have I2 := Lib.hid (J2.out.lo b8)
  clear X8 b8 L7' B7 J1 J2 z7
  go_wp2_with fail
  refine (TH.out _).mono ?_
  rintro e w9 ⟨g9, c9, rfl, G9, z9, b9⟩
  have F := Left_any (tenR (some ⟨g7, 0, none⟩) c7) allL (some ⟨g8, 0, none⟩) c8 thrownL (some ⟨g9, 0, none⟩) c9 w9 (L8.out.lo b9) (by show 3 ≤ 1000; omega) (fun g o e => by cases e; exact Nat.lt_of_lt_of_le Z8.out b9.size) (X8'.out.lo b9) (by show 10 ≤ 1000; omega) G9 (by show 4 ≤ 1000; omega) (fun g o e => by cases e; exact z9) (TAB.out _ (below_go B8.out b9))
  rw [v_lef, v_bal] at F
  unfold Rg.val at F
  have B9 := Lib.hid (below_go B8.out b9)
  have J1 := Lib.hid (I1.out.lo b9)
  have J2 := Lib.hid (I2.out.lo b9)
  clear z8 Z8 L8 X8' G9 z9 b9 B8 I1 I2
  go_wp2_with fail
  refine F.mono ?_
  rintro e w10 ⟨rfl, b10⟩
  have bA := below_al w10 (.cells #[.int .i64 3, .int .i64 6] 63)
  have E10 := Lib.hid (Blk.new w10 #[.int .i64 3, .int .i64 6] 63)
  have B10 := Lib.hid (below_go (below_go B9.out b10) bA)
  have I1 := Lib.hid ((J1.out.lo b10).lo bA)
  have I2 := Lib.hid ((J2.out.lo b10).lo bA)
  clear F J1 J2 b10 B9 bA
  go_wp2_with fail
  generalize World.alloc w10 _ = wa at *
  refine (TE.out _).mono ?_
  rintro e w11 ⟨g11, c11, rfl, L11, z11, b11⟩
  have bA := below_al w11 (.cells (([1, 3, 6] : List Int).map (Value.int .i64)).toArray 3)
  have B11 := below_go (below_go B10.out b11) bA
  have K := convert_any (tenR (some ⟨g11, 0, none⟩) c11) [1, 3, 6] (some ⟨w11.heap.size, 0, none⟩) 3 false _ (L11.lo bA) (by show 3 ≤ 1000; omega) (fun g o e => by cases e; exact Nat.lt_of_lt_of_le z11 bA.size) (ints_new w11 [1, 3, 6]) (by show 3 ≤ 1000; omega) (TAB.out _ B11)
  rw [v_cvt] at K
  unfold Ln.val at K
  have J1 := Lib.hid ((I1.out.lo b11).lo bA)
  have J2 := Lib.hid ((I2.out.lo b11).lo bA)
  have E11 := Lib.hid (Blk.alt (p := fun _ => False) E10.out (Alt.of_below (below_go b11 bA) (fun k hk h => by omega)) id)
  have B11' := Lib.hid B11
  clear I1 I2 E10 B10 L11 z11 b11 bA B11
  go_wp2_with fail
  refine K.mono ?_
  rintro e w12 ⟨rfl, b12⟩
  have bA := below_al w12 (.cells #[.int .i64 14, .int .i64 1] 73)
  have E12 := Lib.hid (Blk.alt (p := fun _ => False) E11.out (Alt.of_below (below_go b12 bA) (fun k hk h => by omega)) id)
  have D12 := Lib.hid (Blk.new w12 #[.int .i64 14, .int .i64 1] 73)
  have B12 := Lib.hid (below_go (below_go B11'.out b12) bA)
  have I1 := Lib.hid ((J1.out.lo b12).lo bA)
  have I2 := Lib.hid ((J2.out.lo b12).lo bA)
  clear K J1 J2 E11 B11' b12 bA
  go_wp2_with fail
  have hX : (w12.alloc (.cells #[.int .i64 14, .int .i64 1] 73)).heap.size = w12.heap.size + 1 := World.size_alloc ..
  generalize World.alloc w12 _ = X at *
  have N1 := ints_new X [0, 1, 2, 8]
  have bA := below_al X (.cells (([0, 1, 2, 8] : List Int).map (Value.int .i64)).toArray 3)
  rw [hX] at N1
  refine (ints_eq [0, 1, 2, 8] a1 (some ⟨w12.heap.size + 1, 0, none⟩) d1 4 4 4 (X.alloc (.cells (([0, 1, 2, 8] : List Int).map (Value.int .i64)).toArray 3)) (I1.out.lo bA) N1 (by show 4 ≤ 1000; omega) rfl rfl).mono ?_
  rintro e w13 ⟨rfl, b13⟩
  have E13 := Lib.hid (Blk.alt (p := fun _ => False) E12.out (Alt.of_below (below_go bA b13) (fun k hk h => by omega)) id)
  have D13 := Lib.hid (Blk.alt (p := fun _ => False) D12.out (Alt.of_below (below_go bA b13) (fun k hk h => by omega)) id)
  have B13 := Lib.hid (below_go (below_go B12.out bA) b13)
  have J2 := Lib.hid ((I2.out.lo bA).lo b13)
  clear E12 D12 B12 I1 I2 N1 bA b13 hX
  go_wp2_with fail
  have N2 := ints_new w13 [0, 1, 2, 3, 4, 5, 6, 8]
  have bA := below_al w13 (.cells (([0, 1, 2, 3, 4, 5, 6, 8] : List Int).map (Value.int .i64)).toArray 3)
  refine (ints_eq [0, 1, 2, 3, 4, 5, 6, 8] a2 (some ⟨w13.heap.size, 0, none⟩) d2 8 8 8 (w13.alloc (.cells (([0, 1, 2, 3, 4, 5, 6, 8] : List Int).map (Value.int .i64)).toArray 3)) (J2.out.lo bA) N2 (by show 8 ≤ 1000; omega) rfl rfl).mono ?_
  rintro e w14 ⟨rfl, b14⟩
  have E14 := Blk.alt (p := fun _ => False) E13.out (Alt.of_below (below_go bA b14) (fun k hk h => by omega)) id
  have D14 := Blk.alt (p := fun _ => False) D13.out (Alt.of_below (below_go bA b14) (fun k hk h => by omega)) id
  have B14 := Lib.hid (below_go (below_go B13.out bA) b14)
  have e0 : w14.cell? ⟨w10.heap.size, 0, none⟩ = some (.int .i64 3) := E14.cell 0 rfl
  have e1 : w14.cell? ⟨w10.heap.size, 1, none⟩ = some (.int .i64 6) := E14.cell 1 rfl
  have d0 : w14.cell? ⟨w12.heap.size, 0, none⟩ = some (.int .i64 14) := D14.cell 0 rfl
  have d1' : w14.cell? ⟨w12.heap.size, 1, none⟩ = some (.int .i64 1) := D14.cell 1 rfl
  clear E13 D13 B13 J2 N2 bA b14 E14 D14
  go_wp2_with fail
  refine bodyPost_ret (results_tmp rfl _ _ _) rfl ⟨rfl, B14.out⟩

end Go.Proofs.YtaloffdkadhhnaaDoor
