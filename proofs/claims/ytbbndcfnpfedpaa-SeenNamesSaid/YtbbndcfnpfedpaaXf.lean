/- The contract of rolledBy: the game of a frame that has these balls. -/
import Derived.Test.YtbbndcfnpfedpaaGf
set_option linter.unusedVariables false
set_option linter.unusedSimpArgs false
namespace Go.Proofs.Ytbbndcfnpfedpaa
open Go.RowKit Go.Shelf

attribute [local go_sem] Oper.semAt_some

def rollV : List Int → (Int × Int) × Bool
  | [x] => if x = 10 then ((0, 0), true) else ((0, 0), false)
  | [x, y] => if (inB x 0 9 && inB y 0 (10 - x)) = true then ((10 - x, 10 - x - y), true) else ((0, 0), false)
  | _ => ((0, 0), false)
theorem rollV_far {row : List Int} (h1 : row.length ≠ 1) (h2 : row.length ≠ 2) : rollV row = ((0, 0), false) := by
  match row, h1, h2 with
  | [], _, _ => rfl
  | [x], h, _ => exact absurd rfl h
  | [x, y], _, h => exact absurd rfl h
  | x :: y :: z :: r, _, _ => rfl

def RollR (row : List Int) (w : World) (e : Ending) (w' : World) : Prop := e = .returned (.tuple #[.agg #[.int .i64 (rollV row).1.1, .int .i64 (rollV row).1.2], .bool (rollV row).2]) ∧ Below w.heap.size w w'
theorem RollR.mk' {row : List Int} {w W X : World} {p q : Int} {b : Bool} (hr : rollV row = ((p, q), b)) (hb : Below w.heap.size w W) (hx : Alt (fun k => k = w.heap.size) W X) : RollR row w (.returned (.tuple #[.agg #[.int .i64 p, .int .i64 q], .bool b])) X := by
  unfold RollR
  rw [hr]
  exact ⟨rfl, ((Alt.of_below (p := fun k => w.heap.size ≤ k) hb (fun k _ e => e)).trans (hx.mono fun k _ e => by omega)).below (Nat.le_refl _) fun _ e => e⟩

set_option maxRecDepth 100000 in
set_option maxHeartbeats 8000000 in
theorem rolled_far (row : List Int) (a : Option Addr) (c : Nat) (w : World) (hI : IntsAt w a row) (h1 : row.length ≠ 1) (h2 : row.length ≠ 2) :
    Calls Try.prog 67 #[.slice a row.length c] w (RollR row w) := by
  have T0 := Lib.hid (Blk.new w #[.int .i64 0, .int .i64 0] 105)
  have B0 := Lib.hid (below_al w (.cells #[.int .i64 0, .int .i64 0] 105))
  have WI := Lib.hid (fun n a b W => within_any n a b W)
  have HR := Lib.hid (rollV_far h1 h2)
  have z1 : (((row.length : Nat) : Int) == 1) = false := by simp; omega
  have z2 : (((row.length : Nat) : Int) == 2) = false := by simp; omega
  generalize row.length = n at *
  clear hI h1 h2
  go_enter Try.func67, Try.ntmps67
  go_wp2_with fail
  generalize w.alloc _ = W0 at *
  go_wp2_with fail
  refine wp_region_late W0 (Below.refl _ _) (by kernel_rfl) (by kernel_rfl) ?_
  repeat (go_big_quiet_step ((first | (go_at_call 71; exact Calls.late_same (WI.out _ _ _ _)))))
  refine wpQuiet_nil ?_
  intro _ hw'
  obtain ⟨uq, hw''⟩ := hw'
  subst hw''
  replace T0 := Lib.hid (Blk.alt (p := fun _ => False) T0.out (Alt.of_below uq.b (fun k hk e => by omega)) id)
  replace B0 := Lib.hid (below_go B0.out uq.b)
  clear z1 z2
  have t0 := T0.out.cell 0 (show _ = some (Value.int .i64 0) from rfl)
  have t1 := T0.out.cell 1 (show _ = some (Value.int .i64 0) from rfl)
  have f0 := T0.out.fr 0
  have f1 := T0.out.fr 1
  have PT := Lib.hid (T0.out.put2 (.int .i64 0) (.int .i64 0))
  go_wp2_with fail
  have pt := PT.out
  clear t0 t1 f0 f1
  generalize World.setCell _ _ _ = X at pt ⊢
  have h0 := pt.1.cell 0 (show _ = some (Value.int .i64 0) from rfl)
  have h1 := pt.1.cell 1 (show _ = some (Value.int .i64 0) from rfl)
  exact bodyPost_ret (v := .tuple #[.agg #[.int .i64 0, .int .i64 0], .bool false]) (by simp [results, Try.results67, go_sem, h0, h1]) rfl (RollR.mk' HR.out B0.out pt.2)

set_option maxRecDepth 100000 in
set_option maxHeartbeats 8000000 in
theorem rolled_ten (x : Int) (a : Option Addr) (c : Nat) (w : World) (hI : IntsAt w a [x]) (h10 : x = 10) :
    Calls Try.prog 67 #[.slice a 1 c] w (RollR [x] w) := by
  have T0 := Lib.hid (Blk.new w #[.int .i64 0, .int .i64 0] 105)
  have B0 := Lib.hid (below_al w (.cells #[.int .i64 0, .int .i64 0] 105))
  have WI := Lib.hid (fun n a b W => within_any n a b W)
  have HR := Lib.hid (show rollV [x] = ((0, 0), true) by show (if x = 10 then (((0 : Int), (0 : Int)), true) else ((0, 0), false)) = _; rw [if_pos h10])
  obtain ⟨g, o, rfl, c1⟩ := hI 0 x rfl
  simp only [Nat.add_zero] at c1
  have C1 := cell_lo B0.out c1
  have z1 : (x == 10) = true := by simpa using h10
  clear c1 h10 hI
  have t0 := T0.out.cell 0 (show _ = some (Value.int .i64 0) from rfl)
  have t1 := T0.out.cell 1 (show _ = some (Value.int .i64 0) from rfl)
  have f0 := T0.out.fr 0
  have f1 := T0.out.fr 1
  have PT := Lib.hid (T0.out.put2 (.int .i64 0) (.int .i64 0))
  go_enter Try.func67, Try.ntmps67
  go_wp2_with fail
  exact bodyPost_ret (v := .tuple #[.agg #[.int .i64 0, .int .i64 0], .bool true]) (by simp [results, Try.results67, go_sem, t0, t1]) rfl (RollR.mk' HR.out B0.out (Alt.refl _ _))

set_option maxRecDepth 100000 in
set_option maxHeartbeats 8000000 in
theorem rolled_one (x : Int) (a : Option Addr) (c : Nat) (w : World) (hI : IntsAt w a [x]) (h10 : x ≠ 10) :
    Calls Try.prog 67 #[.slice a 1 c] w (RollR [x] w) := by
  have T0 := Lib.hid (Blk.new w #[.int .i64 0, .int .i64 0] 105)
  have B0 := Lib.hid (below_al w (.cells #[.int .i64 0, .int .i64 0] 105))
  have WI := Lib.hid (fun n a b W => within_any n a b W)
  have HR := Lib.hid (show rollV [x] = ((0, 0), false) by show (if x = 10 then (((0 : Int), (0 : Int)), true) else ((0, 0), false)) = _; rw [if_neg h10])
  obtain ⟨g, o, rfl, c1⟩ := hI 0 x rfl
  simp only [Nat.add_zero] at c1
  have C1 := cell_lo B0.out c1
  have z1 : (x == 10) = false := by simpa using h10
  clear c1 h10 hI
  go_enter Try.func67, Try.ntmps67
  go_wp2_with fail
  generalize w.alloc _ = W0 at *
  go_wp2_with fail
  clear C1
  refine wp_region_late W0 (Below.refl _ _) (by kernel_rfl) (by kernel_rfl) ?_
  repeat (go_big_quiet_step ((first | (go_at_call 71; exact Calls.late_same (WI.out _ _ _ _)))))
  refine wpQuiet_nil ?_
  intro _ hw'
  obtain ⟨uq, hw''⟩ := hw'
  subst hw''
  replace T0 := Lib.hid (Blk.alt (p := fun _ => False) T0.out (Alt.of_below uq.b (fun k hk e => by omega)) id)
  replace B0 := Lib.hid (below_go B0.out uq.b)
  have t0 := T0.out.cell 0 (show _ = some (Value.int .i64 0) from rfl)
  have t1 := T0.out.cell 1 (show _ = some (Value.int .i64 0) from rfl)
  have f0 := T0.out.fr 0
  have f1 := T0.out.fr 1
  have PT := Lib.hid (T0.out.put2 (.int .i64 0) (.int .i64 0))
  go_wp2_with fail
  have pt := PT.out
  clear t0 t1 f0 f1
  generalize World.setCell _ _ _ = X at pt ⊢
  have h0 := pt.1.cell 0 (show _ = some (Value.int .i64 0) from rfl)
  have h1 := pt.1.cell 1 (show _ = some (Value.int .i64 0) from rfl)
  exact bodyPost_ret (v := .tuple #[.agg #[.int .i64 0, .int .i64 0], .bool false]) (by simp [results, Try.results67, go_sem, h0, h1]) rfl (RollR.mk' HR.out B0.out pt.2)

set_option maxRecDepth 100000 in
set_option maxHeartbeats 8000000 in
theorem rolled_no1 (x y : Int) (a : Option Addr) (c : Nat) (w : World) (hI : IntsAt w a [x, y]) (hx : inB x 0 9 = false) :
    Calls Try.prog 67 #[.slice a 2 c] w (RollR [x, y] w) := by
  have T0 := Lib.hid (Blk.new w #[.int .i64 0, .int .i64 0] 105)
  have B0 := Lib.hid (below_al w (.cells #[.int .i64 0, .int .i64 0] 105))
  have WI := Lib.hid (fun n a b W => within_any n a b W)
  have HR := Lib.hid (show rollV [x, y] = ((0, 0), false) by show (if (inB x 0 9 && inB y 0 (10 - x)) = true then ((10 - x, 10 - x - y), true) else ((0, 0), false)) = _; simp [hx])
  obtain ⟨g, o, rfl, c1⟩ := hI 0 x rfl
  obtain ⟨g2, o2, e2, c2⟩ := hI 1 y rfl
  cases e2
  simp only [Nat.add_zero] at c1
  have C1 := cell_lo B0.out c1
  have C2 := cell_lo B0.out c2
  have WX := Lib.hid (fun W => (show Calls Try.prog 71 #[.int .i64 x, .int .i64 0, .int .i64 9] W (fun e w' => e = .returned (.bool false) ∧ W = w') by have := within_any x 0 9 W; rwa [hx] at this))
  clear hx
  clear c1 c2 hI
  go_enter Try.func67, Try.ntmps67
  go_wp2_with fail
  generalize w.alloc _ = W0 at *
  go_wp2_with fail
  have m1 := fun u : Late W0 => u.cell C1 (cell_lt C1)
  have m2 := fun u : Late W0 => u.cell C2 (cell_lt C2)
  refine wp_region_late W0 (Below.refl _ _) (by kernel_rfl) (by kernel_rfl) ?_
  repeat (go_big_quiet_step ((first | (go_at_call 71; exact Calls.late_same (WX.out _)))))
  refine wpQuiet_nil ?_
  intro _ hw'
  obtain ⟨uq, hw''⟩ := hw'
  subst hw''
  replace T0 := Lib.hid (Blk.alt (p := fun _ => False) T0.out (Alt.of_below uq.b (fun k hk e => by omega)) id)
  replace B0 := Lib.hid (below_go B0.out uq.b)
  clear C1 C2 m1 m2
  have t0 := T0.out.cell 0 (show _ = some (Value.int .i64 0) from rfl)
  have t1 := T0.out.cell 1 (show _ = some (Value.int .i64 0) from rfl)
  have f0 := T0.out.fr 0
  have f1 := T0.out.fr 1
  have PT := Lib.hid (T0.out.put2 (.int .i64 0) (.int .i64 0))
  go_wp2_with fail
  have pt := PT.out
  clear t0 t1 f0 f1
  generalize World.setCell _ _ _ = X at pt ⊢
  have h0 := pt.1.cell 0 (show _ = some (Value.int .i64 0) from rfl)
  have h1 := pt.1.cell 1 (show _ = some (Value.int .i64 0) from rfl)
  exact bodyPost_ret (v := .tuple #[.agg #[.int .i64 0, .int .i64 0], .bool false]) (by simp [results, Try.results67, go_sem, h0, h1]) rfl (RollR.mk' HR.out B0.out pt.2)

set_option maxRecDepth 100000 in
set_option maxHeartbeats 8000000 in
theorem rolled_no2 (x y : Int) (a : Option Addr) (c : Nat) (w : World) (hI : IntsAt w a [x, y]) (hx : inB x 0 9 = true) (hy : inB y 0 (10 - x) = false) :
    Calls Try.prog 67 #[.slice a 2 c] w (RollR [x, y] w) := by
  have T0 := Lib.hid (Blk.new w #[.int .i64 0, .int .i64 0] 105)
  have B0 := Lib.hid (below_al w (.cells #[.int .i64 0, .int .i64 0] 105))
  have WI := Lib.hid (fun n a b W => within_any n a b W)
  have HR := Lib.hid (show rollV [x, y] = ((0, 0), false) by show (if (inB x 0 9 && inB y 0 (10 - x)) = true then ((10 - x, 10 - x - y), true) else ((0, 0), false)) = _; simp [hx, hy])
  obtain ⟨g, o, rfl, c1⟩ := hI 0 x rfl
  obtain ⟨g2, o2, e2, c2⟩ := hI 1 y rfl
  cases e2
  simp only [Nat.add_zero] at c1
  have C1 := cell_lo B0.out c1
  have C2 := cell_lo B0.out c2
  have WX := Lib.hid (fun W => (show Calls Try.prog 71 #[.int .i64 x, .int .i64 0, .int .i64 9] W (fun e w' => e = .returned (.bool true) ∧ W = w') by have := within_any x 0 9 W; rwa [hx] at this))
  have WY := Lib.hid (fun W => (show Calls Try.prog 71 #[.int .i64 y, .int .i64 0, .int .i64 (10 - x)] W (fun e w' => e = .returned (.bool false) ∧ W = w') by have := within_any y 0 (10 - x) W; rwa [hy] at this))
  have WZ := Lib.hid (fun W => (show Calls Try.prog 71 #[.int .i64 y, .int .i64 0, .int .i64 (IntKind.i64.wrap (10 - x))] W (fun e w' => e = .returned (.bool false) ∧ W = w') by rw [show IntKind.i64.wrap (10 - x) = 10 - x from IntWalk.i64_in _ (by have := inB_iff.1 hx; omega)]; exact WY.out W))
  have HGL := Lib.hid (cell_lt c1)
  have hx2 := inB_iff.1 hx
  have ex : IntKind.i64.wrap (10 - x) = 10 - x := IntWalk.i64_in _ (by omega)
  clear hx hy hx2
  clear c1 c2 hI
  go_enter Try.func67, Try.ntmps67
  go_wp2_with fail
  generalize w.alloc _ = W0 at *
  go_wp2_with fail
  have m1 := fun u : Late W0 => u.cell C1 (cell_lt C1)
  have m2 := fun u : Late W0 => u.cell C2 (cell_lt C2)
  refine wp_region_late W0 (Below.refl _ _) (by kernel_rfl) (by kernel_rfl) ?_
  repeat (go_big_quiet_step ((first | (go_at_call 71; first | (with_reducible exact Calls.late_same (WX.out _)) | (with_reducible exact Calls.late_same (WY.out _)) | (with_reducible exact Calls.late_same (WZ.out _))))))
  refine wpQuiet_nil ?_
  intro _ hw'
  obtain ⟨uq, hw''⟩ := hw'
  subst hw''
  replace T0 := Lib.hid (Blk.alt (p := fun _ => False) T0.out (Alt.of_below uq.b (fun k hk e => by omega)) id)
  replace B0 := Lib.hid (below_go B0.out uq.b)
  clear C1 C2 m1 m2
  have t0 := T0.out.cell 0 (show _ = some (Value.int .i64 0) from rfl)
  have t1 := T0.out.cell 1 (show _ = some (Value.int .i64 0) from rfl)
  have f0 := T0.out.fr 0
  have f1 := T0.out.fr 1
  have PT := Lib.hid (T0.out.put2 (.int .i64 0) (.int .i64 0))
  go_wp2_with fail
  have pt := PT.out
  clear t0 t1 f0 f1
  generalize World.setCell _ _ _ = X at pt ⊢
  have h0 := pt.1.cell 0 (show _ = some (Value.int .i64 0) from rfl)
  have h1 := pt.1.cell 1 (show _ = some (Value.int .i64 0) from rfl)
  exact bodyPost_ret (v := .tuple #[.agg #[.int .i64 0, .int .i64 0], .bool false]) (by simp [results, Try.results67, go_sem, h0, h1]) rfl (RollR.mk' HR.out B0.out pt.2)

set_option maxRecDepth 100000 in
set_option maxHeartbeats 8000000 in
theorem rolled_two (x y : Int) (a : Option Addr) (c : Nat) (w : World) (hI : IntsAt w a [x, y]) (hx : inB x 0 9 = true) (hy : inB y 0 (10 - x) = true) :
    Calls Try.prog 67 #[.slice a 2 c] w (RollR [x, y] w) := by
  have T0 := Lib.hid (Blk.new w #[.int .i64 0, .int .i64 0] 105)
  have B0 := Lib.hid (below_al w (.cells #[.int .i64 0, .int .i64 0] 105))
  have WI := Lib.hid (fun n a b W => within_any n a b W)
  have HR := Lib.hid (show rollV [x, y] = ((10 - x, 10 - x - y), true) by show (if (inB x 0 9 && inB y 0 (10 - x)) = true then ((10 - x, 10 - x - y), true) else ((0, 0), false)) = _; simp [hx, hy])
  obtain ⟨g, o, rfl, c1⟩ := hI 0 x rfl
  obtain ⟨g2, o2, e2, c2⟩ := hI 1 y rfl
  cases e2
  simp only [Nat.add_zero] at c1
  have C1 := cell_lo B0.out c1
  have C2 := cell_lo B0.out c2
  have WX := Lib.hid (fun W => (show Calls Try.prog 71 #[.int .i64 x, .int .i64 0, .int .i64 9] W (fun e w' => e = .returned (.bool true) ∧ W = w') by have := within_any x 0 9 W; rwa [hx] at this))
  have WY := Lib.hid (fun W => (show Calls Try.prog 71 #[.int .i64 y, .int .i64 0, .int .i64 (10 - x)] W (fun e w' => e = .returned (.bool true) ∧ W = w') by have := within_any y 0 (10 - x) W; rwa [hy] at this))
  have WZ := Lib.hid (fun W => (show Calls Try.prog 71 #[.int .i64 y, .int .i64 0, .int .i64 (IntKind.i64.wrap (10 - x))] W (fun e w' => e = .returned (.bool true) ∧ W = w') by rw [show IntKind.i64.wrap (10 - x) = 10 - x from IntWalk.i64_in _ (by have := inB_iff.1 hx; omega)]; exact WY.out W))
  have HGL := Lib.hid (cell_lt c1)
  have hx2 := inB_iff.1 hx
  have ex : IntKind.i64.wrap (10 - x) = 10 - x := IntWalk.i64_in _ (by omega)
  have hy2 := inB_iff.1 hy
  have exy : IntKind.i64.wrap (10 - x - y) = 10 - x - y := IntWalk.i64_in _ (by omega)
  clear hy2
  clear hx hy hx2
  clear c1 c2 hI
  go_enter Try.func67, Try.ntmps67
  go_wp2_with fail
  generalize w.alloc _ = W0 at *
  go_wp2_with fail
  have m1 := fun u : Late W0 => u.cell C1 (cell_lt C1)
  have m2 := fun u : Late W0 => u.cell C2 (cell_lt C2)
  refine wp_region_late W0 (Below.refl _ _) (by kernel_rfl) (by kernel_rfl) ?_
  repeat (go_big_quiet_step ((first | (go_at_call 71; first | (with_reducible exact Calls.late_same (WX.out _)) | (with_reducible exact Calls.late_same (WY.out _)) | (with_reducible exact Calls.late_same (WZ.out _))))))
  refine wpQuiet_nil ?_
  intro _ hw'
  obtain ⟨uq, hw''⟩ := hw'
  subst hw''
  replace T0 := Lib.hid (Blk.alt (p := fun _ => False) T0.out (Alt.of_below uq.b (fun k hk e => by omega)) id)
  replace B0 := Lib.hid (below_go B0.out uq.b)
  replace C1 := cell_lo uq.b C1
  replace C2 := cell_lo uq.b C2
  have KS := Lib.hid (show ∀ (Wx : World), Alt (fun k => k = w.heap.size) uq.W Wx → Wx.cell? ⟨g, o, none⟩ = some (.int .i64 x) ∧ Wx.cell? ⟨g, o + 1, none⟩ = some (.int .i64 y) from fun Wx hA => ⟨alt_cell hA C1 (fun e => by have := HGL.out; omega), alt_cell hA C2 (fun e => by have := HGL.out; omega)⟩)
  clear m1 m2
  have t0 := T0.out.cell 0 (show _ = some (Value.int .i64 0) from rfl)
  have t1 := T0.out.cell 1 (show _ = some (Value.int .i64 0) from rfl)
  have f0 := T0.out.fr 0
  have f1 := T0.out.fr 1
  have PT := Lib.hid (T0.out.put2 (.int .i64 (10 - x)) (.int .i64 (10 - x - y)))
  have hgw : g ≠ w.heap.size := by have := HGL.out; omega
  go_wp2_with fail
  first
  | (go_region_held3 (fun Wx => Wx.cell? ⟨g, o, none⟩ = some (.int .i64 x) ∧ Wx.cell? ⟨g, o + 1, none⟩ = some (.int .i64 y)) (first | exact KS.out _ (PT.out.2.drew) | exact KS.out _ PT.out.2 | go_keep) (fail))
  | fail "region"
  all_goals
    go_wp2_with fail
    have pt := PT.out
    clear t0 t1 f0 f1
    generalize World.setCell _ _ _ = X at pt ⊢
    have h0 := pt.1.cell 0 (show _ = some (Value.int .i64 (10 - x)) from rfl)
    have h1 := pt.1.cell 1 (show _ = some (Value.int .i64 (10 - x - y)) from rfl)
    exact bodyPost_ret (v := .tuple #[.agg #[.int .i64 (10 - x), .int .i64 (10 - x - y)], .bool true]) (by simp [results, Try.results67, go_sem, h0, h1]) rfl (RollR.mk' HR.out B0.out pt.2.drew)

theorem rolledBy_any (row : List Int) (a : Option Addr) (c : Nat) (w : World) (hI : IntsAt w a row) : Calls Try.prog 67 #[.slice a row.length c] w (RollR row w) := by
  match row, hI with
  | [], hI => exact rolled_far [] a c w hI (by simp) (by simp)
  | [x], hI =>
    by_cases h : x = 10
    · exact rolled_ten x a c w hI h
    · exact rolled_one x a c w hI h
  | [x, y], hI =>
    cases hx : inB x 0 9
    · exact rolled_no1 x y a c w hI hx
    · cases hy : inB y 0 (10 - x)
      · exact rolled_no2 x y a c w hI hx hy
      · exact rolled_two x y a c w hI hx hy
  | x :: y :: z :: r, hI => exact rolled_far _ a c w hI (by simp) (by simp)

end Go.Proofs.Ytbbndcfnpfedpaa
