/- The contract of wakes: it is true. -/
import Derived.Test.YtbbndcfnpfedpaaSx
set_option linter.unusedVariables false
set_option linter.unusedSimpArgs false
namespace Go.Proofs.Ytbbndcfnpfedpaa
open Go.RowKit Go.Shelf Go.Maps

attribute [local go_sem] Oper.semAt_some

set_option maxRecDepth 100000 in
set_option maxHeartbeats 16000000 in
theorem wakes_any (w : World) : Calls Try.prog 18 #[] w fun e w' => e = .returned (.bool true) ∧ Below w.heap.size w w' := by
  have NI := Lib.hid (fun W => night_any W)
  unfold NightR at NI
  have hn5 : nightW.length ≤ 1000 := by decide
  have C0 := Lib.hid (fun a c W (hL : WdsAt W a nightW) (hg : ∀ g o, a = some ⟨g, o, none⟩ → g < W.heap.size) => (by
    have := explains_any (nightL a c) [] none 0 W hL (fun i v h => by simp at h) hn5 (by simp) hg
    rw [v_exp0, v_chk0] at this
    exact this : Calls Try.prog 21 #[(nightL a c).val, .slice none 0 0] W fun e w' => e = .returned (.tuple #[.bool false, .int .i64 0]) ∧ Below W.heap.size W w'))
  have C1 := Lib.hid (fun a c g W (hL : WdsAt W a nightW) (hg : ∀ g o, a = some ⟨g, o, none⟩ → g < W.heap.size) (hX : IntsAt W (some ⟨g, 0, none⟩) [1]) => (by
    have := explains_any (nightL a c) [1] (some ⟨g, 0, none⟩) 1 W hL hX hn5 (by simp) hg
    rw [v_exp1, v_chk1] at this
    exact this : Calls Try.prog 21 #[(nightL a c).val, .slice (some ⟨g, 0, none⟩) 1 1] W fun e w' => e = .returned (.tuple #[.bool true, .int .i64 0]) ∧ Below W.heap.size W w'))
  have C2 := Lib.hid (fun a c g W (hL : WdsAt W a nightW) (hg : ∀ g o, a = some ⟨g, o, none⟩ → g < W.heap.size) (hX : IntsAt W (some ⟨g, 0, none⟩) [1]) => (by
    have := rangesP_any (nightL a c) [1] (some ⟨g, 0, none⟩) 1 W hL hX hn5 (by simp) hg
    unfold RngR at this
    rw [v_rng1, v_cnt1, v_gof1] at this
    exact this : Calls Try.prog 26 #[(nightL a c).val, .slice (some ⟨g, 0, none⟩) 1 1] W fun e w' => ∃ a c, e = .returned (.tuple #[.slice a 4 c, .agg #[.int .i64 17, .int .i64 20], .int .i64 0]) ∧ P2At w' a [(3, 3), (0, 2), (0, 1), (0, 1)] ∧ (∀ g o, a = some ⟨g, o, none⟩ → W.heap.size ≤ g ∧ g < w'.heap.size) ∧ Below W.heap.size W w'))
  have C3 := Lib.hid (fun a c g W (hL : WdsAt W a nightW) (hg : ∀ g o, a = some ⟨g, o, none⟩ → g < W.heap.size) (hX : IntsAt W (some ⟨g, 0, none⟩) [1]) => (by
    have := many_any (nightL a c) [1] (some ⟨g, 0, none⟩) 1 W hL hX hn5 (by simp) hg
    rw [v_many1, v_gof1] at this
    exact this : Calls Try.prog 30 #[(nightL a c).val, .slice (some ⟨g, 0, none⟩) 1 1] W fun e w' => e = .returned (.tuple #[.int .i64 9, .int .i64 0]) ∧ Below W.heap.size W w'))
  have C4 := Lib.hid (fun a c W (hL : WdsAt W a nightW) (hg : ∀ g o, a = some ⟨g, o, none⟩ → g < W.heap.size) => (by
    have := leastP_any (nightL a c) W hL hn5 hg
    unfold LeastR at this
    rw [v_least, v_fault] at this
    exact this : Calls Try.prog 32 #[(nightL a c).val] W fun e w' => ∃ a c, e = .returned (.tuple #[.slice a 1 c, .int .i64 0]) ∧ IntsAt w' a [1] ∧ (∀ g o, a = some ⟨g, o, none⟩ → W.heap.size ≤ g ∧ g < w'.heap.size) ∧ Below W.heap.size W w'))
  have hv : ∀ a c, (nightL a c).val = .agg #[.int .i64 2, .slice a 5 c] := fun a c => rfl
  simp only [hv] at NI C0 C1 C2 C3 C4
  clear hv hn5
  have I1 := Lib.hid (fun W => ints_newS W [1] 3)
  have IE := Lib.hid (fun a c g W (h1 : IntsAt W a [1]) (h2 : IntsAt W (some ⟨g, 0, none⟩) [1]) => (show Calls Try.prog 34 #[.slice a 1 c, .slice (some ⟨g, 0, none⟩) 1 1] W (fun e w' => e = .returned (.bool true) ∧ Hid (W.grownBy w' none)) from ints_any [1] [1] a (some ⟨g, 0, none⟩) c 1 W h1 h2 (by simp) (by simp)))
  have B0 := Lib.hid (Below.refl w.heap.size w)
  go_enter Try.func18, Try.ntmps18
  go_wp2_with fail
  refine (NI.out _).mono ?_
  rintro e w1 ⟨a1, c1, rfl, hN, hg, hb⟩
  have B1 := Lib.hid hb
  have X := Lib.hid (C0.out a1 c1 w1 hN hg)
  clear hN hg hb B0
  go_wp2_with fail
  refine X.out.mono ?_
  rintro e w2 ⟨rfl, hb⟩
  have B2 := Lib.hid (below_go B1.out hb)
  clear hb B1 X
  go_wp2_with fail
  refine (NI.out _).mono ?_
  rintro e w3 ⟨a3, c3, rfl, hN, hg, hb⟩
  have B3 := Lib.hid (below_go B2.out hb)
  have BA := Lib.hid (below_al w3 (.cells #[.int .i64 1] 3))
  have X := Lib.hid (C1.out a3 c3 w3.heap.size (w3.alloc (.cells #[.int .i64 1] 3)) (hN.lo BA.out) (fun g o e => Nat.lt_of_lt_of_le (hg g o e) BA.out.size) (I1.out w3))
  have B4 := Lib.hid (below_go B3.out BA.out)
  clear hN hg hb B2 BA B3
  go_wp2_with fail
  refine X.out.mono ?_
  rintro e w5 ⟨rfl, hb⟩
  have B5 := Lib.hid (below_go B4.out hb)
  clear hb B4 X
  go_wp2_with fail
  refine (NI.out _).mono ?_
  rintro e w6 ⟨a6, c6, rfl, hN, hg, hb⟩
  have B6 := Lib.hid (below_go B5.out hb)
  have BA := Lib.hid (below_al w6 (.cells #[.int .i64 1] 3))
  have X := Lib.hid (C2.out a6 c6 w6.heap.size (w6.alloc (.cells #[.int .i64 1] 3)) (hN.lo BA.out) (fun g o e => Nat.lt_of_lt_of_le (hg g o e) BA.out.size) (I1.out w6))
  have B7 := Lib.hid (below_go B6.out BA.out)
  clear hN hg hb B5 BA B6
  go_wp2_with fail
  refine X.out.mono ?_
  rintro e w8 ⟨ar, cr, rfl, hP, hg, hb⟩
  have B8 := Lib.hid (below_go B7.out hb)
  have BA := Lib.hid (below_al w8 (.cells #[.int .i64 17, .int .i64 20] 41))
  have P9 := Lib.hid (hP.lo BA.out)
  have K9 := Lib.hid (Blk.new w8 #[.int .i64 17, .int .i64 20] 41)
  have B9 := Lib.hid (below_go B8.out BA.out)
  clear hP hg hb B7 BA B8 X
  go_wp2_with fail
  generalize World.alloc w8 _ = w9 at P9 K9 B9 ⊢
  generalize w8.heap.size = b6 at K9 ⊢
  refine (NI.out _).mono ?_
  rintro e w10 ⟨a10, c10, rfl, hN, hg, hb⟩
  have B10 := Lib.hid (below_go B9.out hb)
  have BA := Lib.hid (below_al w10 (.cells #[.int .i64 1] 3))
  have X := Lib.hid (C3.out a10 c10 w10.heap.size (w10.alloc (.cells #[.int .i64 1] 3)) (hN.lo BA.out) (fun g o e => Nat.lt_of_lt_of_le (hg g o e) BA.out.size) (I1.out w10))
  have B11 := Lib.hid (below_go B10.out BA.out)
  have P11 := Lib.hid ((P9.out.lo hb).lo BA.out)
  have K11 := Lib.hid (Blk.alt (p := fun _ => False) K9.out (Alt.of_below (below_go hb BA.out) (fun k hk e => by omega)) id)
  clear hN hg hb B9 BA B10 P9 K9
  go_wp2_with fail
  refine X.out.mono ?_
  rintro e w12 ⟨rfl, hb⟩
  have B12 := Lib.hid (below_go B11.out hb)
  have P12 := Lib.hid (P11.out.lo hb)
  have K12 := Lib.hid (Blk.alt (p := fun _ => False) K11.out (Alt.of_below hb (fun k hk e => by omega)) id)
  clear hb B11 P11 K11 X
  go_wp2_with fail
  refine (NI.out _).mono ?_
  rintro e w13 ⟨a13, c13, rfl, hN, hg, hb⟩
  have B13 := Lib.hid (below_go B12.out hb)
  have X := Lib.hid (C4.out a13 c13 w13 hN hg)
  have P13 := Lib.hid (P12.out.lo hb)
  have K13 := Lib.hid (Blk.alt (p := fun _ => False) K12.out (Alt.of_below hb (fun k hk e => by omega)) id)
  clear hN hg hb B12 P12 K12
  go_wp2_with fail
  refine X.out.mono ?_
  rintro e w14 ⟨al, cl, rfl, hI, hg, hb⟩
  have B14 := Lib.hid (below_go B13.out hb)
  have P14 := P13.out.lo hb
  have K14 := Blk.alt (p := fun _ => False) K13.out (Alt.of_below hb (fun k hk e => by omega)) id
  have BA := Lib.hid (below_al w14 (.cells #[.int .i64 1] 3))
  have X2 := Lib.hid (IE.out al cl w14.heap.size (w14.alloc (.cells #[.int .i64 1] 3)) (hI.lo BA.out) (I1.out w14))
  have B15 := Lib.hid (below_go B14.out BA.out)
  obtain ⟨gr, or, rfl, p0, p1⟩ := P14 0 (3, 3) rfl
  obtain ⟨gr1, or1, e1, p2, p3⟩ := P14 1 (0, 2) rfl
  cases e1
  obtain ⟨gr2, or2, e2, p4, p5⟩ := P14 2 (0, 1) rfl
  cases e2
  obtain ⟨gr3, or3, e3, p6, p7⟩ := P14 3 (0, 1) rfl
  cases e3
  simp only [Nat.zero_mul, Nat.add_zero, Nat.one_mul, Nat.reduceMul] at p0 p1 p2 p3 p4 p5 p6 p7
  have k0 := K14.cell 0 (show _ = some (Value.int .i64 17) from rfl)
  have k1 := K14.cell 1 (show _ = some (Value.int .i64 20) from rfl)
  clear hI hg hb B13 P13 K13 X P14 K14 BA B14 NI C0 C1 C2 C3 C4 I1 IE
  go_wp2_with fail
  refine X2.out.mono ?_
  rintro e w16 ⟨rfl, hgr⟩
  have B16 := Lib.hid (below_go B15.out (ints_lo hgr.out))
  clear k0 k1 p0 p1 p2 p3 p4 p5 p6 p7 X2 hgr B15
  go_wp2_with fail
  refine bodyPost_ret (results_tmp rfl _ _ _) rfl ⟨rfl, B16.out⟩

end Go.Proofs.Ytbbndcfnpfedpaa
