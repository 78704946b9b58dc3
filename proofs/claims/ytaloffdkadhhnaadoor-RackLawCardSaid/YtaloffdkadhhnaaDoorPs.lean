/- The contracts of lists of pins, and of a ball. -/
import Derived.Test.YtaloffdkadhhnaaDoorCk
import Derived.Test.YtaloffdkadhhnaaDoorMa
import Derived.Test.YtaloffdkadhhnaaDoorLa
import Derived.Deep.RegionHeld3
set_option linter.unusedVariables false
set_option linter.unusedSimpArgs false
namespace Go.Proofs.YtaloffdkadhhnaaDoor
open Go.RowKit

/-- Numbers lie in a slice. -/
def IntsAt (w : World) (a : Option Addr) (xs : List Int) : Prop := ∀ i v, xs[i]? = some v → ∃ g o, a = some ⟨g, o, none⟩ ∧ w.cell? ⟨g, o + i, none⟩ = some (.int .i64 v)
theorem IntsAt.lo {w W : World} {a : Option Addr} {xs : List Int} (h : IntsAt w a xs) (hb : Below w.heap.size w W) : IntsAt W a xs := by
  intro i v hv
  obtain ⟨g, o, e, h1⟩ := h i v hv
  exact ⟨g, o, e, cell_lo hb h1⟩
theorem IntsAt.alt {w W : World} {a : Option Addr} {xs : List Int} {p : Nat → Prop} (h : IntsAt w a xs) (hb : Alt p w W) (hp : ∀ g o, a = some ⟨g, o, none⟩ → ¬ p g) : IntsAt W a xs := by
  intro i v hv
  obtain ⟨g, o, e, h1⟩ := h i v hv
  exact ⟨g, o, e, (World.cell?_of_block (hb.blk g (cell_lt h1) (hp g o e))).trans h1⟩
theorem IntsAt.dN {w : World} {a : Option Addr} {xs : List Int} (h : IntsAt w a xs) (n : Nat) : IntsAt (w.drewN n) a xs := h

def riseB (xs : List Int) : Bool := decide (xs.Pairwise (· < ·))

theorem rise_step {xs : List Int} {j : Nat} {x y : Int} (hp : (xs.take (j + 1)).Pairwise (· < ·)) (hx : xs[j]? = some x) (hy : xs[j + 1]? = some y) (h : x < y) : (xs.take (j + 2)).Pairwise (· < ·) := by
  have e1 : xs.take (j + 2) = xs.take (j + 1) ++ [y] := by rw [List.take_add_one, hy]; rfl
  have e2 : xs.take (j + 1) = xs.take j ++ [x] := by rw [List.take_add_one, hx]; rfl
  rw [e1, List.pairwise_append]
  refine ⟨hp, by simp, fun a ha b hb => ?_⟩
  obtain rfl : b = y := by simpa using hb
  rw [e2] at hp ha
  rw [List.pairwise_append] at hp
  rcases List.mem_append.1 ha with h1 | h1
  · have := hp.2.2 a h1 x (by simp); omega
  · obtain rfl : a = x := by simpa using h1
    exact h
theorem rise_not {xs : List Int} {j : Nat} {x y : Int} (hx : xs[j]? = some x) (hy : xs[j + 1]? = some y) (h : ¬ x < y) : riseB xs = false := by
  unfold riseB
  rw [decide_eq_false]
  intro hp
  rw [List.pairwise_iff_getElem] at hp
  obtain ⟨h1, e1⟩ := List.getElem?_eq_some_iff.1 hx
  obtain ⟨h2, e2⟩ := List.getElem?_eq_some_iff.1 hy
  have := hp j (j + 1) h1 h2 (by omega)
  rw [e1, e2] at this
  exact h this

theorem dN_ex (w : World) (n m : Nat) : ∃ k, (w.drewN n).drewN m = w.drewN k := ⟨n + m, by simp [World.drewN, Nat.add_assoc]⟩

set_option maxRecDepth 100000 in
set_option maxHeartbeats 4000000 in
theorem rises_any (xs : List Int) (a : Option Addr) (c : Nat) (w : World) (hX : IntsAt w a xs) (hn : xs.length ≤ 1000) :
    Calls Tryd.prog 101 #[.slice a xs.length c] w fun e w' => e = .returned (.bool (riseB xs)) ∧ ∃ n, w' = w.drewN n := by
  have HX := Lib.hid hX
  clear hX
  go_enter Tryd.func101, Tryd.ntmps101
  go_wp2_with fail
  go_loopg [3] xs.length (fun g s3 wx => ∃ (j : Nat), (j + 1 ≤ xs.length ∨ j = 0) ∧ g = xs.length - j ∧ s3 = .int .i64 ((j : Int) + 1) ∧ Hid ((xs.take (j + 1)).Pairwise (· < ·)) ∧ Hid (∃ n, wx = w.drewN n))
  case atStart => exact ⟨0, .inr rfl, rfl, rfl, Lib.hid (by cases xs <;> simp), Lib.hid ⟨0, rfl⟩⟩
  case round =>
    obtain ⟨j, hj, rfl, rfl, hP, hD⟩ := hrel
    obtain ⟨n, rfl⟩ := hD.out
    clear hD
    by_cases hlt : j + 1 < xs.length
    · obtain ⟨x, hx⟩ : ∃ x, xs[j]? = some x := ⟨xs[j]'(by omega), List.getElem?_eq_getElem _⟩
      obtain ⟨y, hy⟩ : ∃ y, xs[j + 1]? = some y := ⟨xs[j + 1]'hlt, List.getElem?_eq_getElem _⟩
      obtain ⟨g, o, rfl, k1⟩ := HX.out _ _ hx
      obtain ⟨g', o', he, k2⟩ := HX.out _ _ hy
      obtain ⟨rfl, rfl⟩ : g = g' ∧ o = o' := by simpa using he
      clear he
      have z1 : (0 : Int) ≤ (j : Int) + 1 := by omega
      have z2 : (j : Int) + 1 < (xs.length : Int) := by omega
      have z3 : (j : Int) < (xs.length : Int) := by omega
      have z4 : (0 : Int) ≤ (j : Int) := by omega
      have ew : IntKind.i64.wrap ((j : Int) + 1 - 1) = (j : Int) := by rw [IntWalk.i64_in _ (by omega)]; omega
      have et : ((j : Int) + 1).toNat = j + 1 := by omega
      have HX1 := Lib.hid hx
      have HY1 := Lib.hid hy
      clear hx hy
      by_cases hxy : x < y
      · have P2 := Lib.hid (rise_step hP.out HX1.out HY1.out hxy)
        have hle : decide (y ≤ x) = false := by simpa using hxy
        clear HX1 HY1 hP
        go_wp2_with fail
        go_quiet (fail)
        go_wp2_with fail
        go_roundg (xs.length - (j + 1))
        case measure => omega
        case rel => exact ⟨j + 1, .inl (by omega), rfl, by simp, P2, Lib.hid ⟨_, rfl⟩⟩
      · have P2 := Lib.hid (rise_not HX1.out HY1.out hxy)
        have hle : decide (y ≤ x) = true := by simpa using hxy
        clear HX1 HY1 hP
        go_wp2_with fail
        go_quiet (fail)
        go_wp2_with fail
        go_returns
        exact ⟨by rw [P2.out]; rfl, dN_ex _ _ _⟩
    · have P2 := Lib.hid (show riseB xs = true from by
        have := hP.out
        rw [List.take_of_length_le (by omega)] at this
        unfold riseB; simpa using this)
      have z2 : ¬ (j : Int) + 1 < (xs.length : Int) := by omega
      clear hP
      go_wp2_with fail
      go_returns
      exact ⟨by rw [P2.out]; rfl, n, rfl⟩

set_option maxRecDepth 100000 in
set_option maxHeartbeats 4000000 in
theorem setOf_any (xs : List Int) (a : Option Addr) (c : Nat) (w : World) (hX : IntsAt w a xs) (hn : xs.length ≤ 1000) (hp : ∀ x ∈ xs, 0 ≤ x ∧ x ≤ 15) :
    Calls Tryd.prog 76 #[.slice a xs.length c] w fun e w' => e = .returned (.int .u16 (setN xs : Nat)) ∧ w = w' := by
  have HX := Lib.hid hX
  have HP := Lib.hid hp
  clear hX hp
  go_enter Tryd.func76, Tryd.ntmps76
  go_wp2_with fail
  go_loopg [3, 8] xs.length (fun g s3 s8 wx => ∃ (j N : Nat), j ≤ xs.length ∧ g = xs.length - j ∧ s8 = .int .i64 (j : Int) ∧ s3 = .int .u16 (N : Int) ∧ Hid (N = setN (xs.take j)) ∧ w = wx)
  case atStart => exact ⟨0, 0, by omega, rfl, rfl, rfl, Lib.hid (by simp [setN]), rfl⟩
  case round =>
    obtain ⟨j, N, hj, rfl, rfl, rfl, hN, rfl⟩ := hrel
    by_cases hlt : j < xs.length
    · obtain ⟨x, hx⟩ : ∃ x, xs[j]? = some x := ⟨xs[j]'(by omega), List.getElem?_eq_getElem _⟩
      obtain ⟨g, o, rfl, k1⟩ := HX.out _ _ hx
      have z1 : (0 : Int) ≤ (j : Int) := by omega
      have z3 : (j : Int) < (xs.length : Int) := by omega
      obtain ⟨hx0, hx9⟩ := HP.out x (List.mem_of_getElem? hx)
      have HN2 := Lib.hid (show setN (xs.take (j + 1)) = setN (xs.take j) ||| 1 <<< x.toNat from by rw [List.take_add_one, hx]; exact setN_snoc _ _)
      have N16 : N < 65536 := by rw [hN.out]; exact setN_lt (fun y hy => HP.out y (List.mem_of_mem_take hy))
      have E1 := Lib.hid (bor16 N16 (bit16 hx0 hx9))
      have E2 := Lib.hid (shl16 hx0 hx9)
      clear hx N16
      go_wp2_with fail
      go_roundg (xs.length - (j + 1))
      case measure => omega
      case rel => exact ⟨j + 1, N ||| 1 <<< x.toNat, by omega, rfl, by simp, by rw [E2.out, E1.out], Lib.hid (by rw [HN2.out, hN.out]), rfl⟩
    · have E := Lib.hid (show setN xs = N from by rw [hN.out, List.take_of_length_le (by omega)])
      have z2 : ¬ (j : Int) < (xs.length : Int) := by omega
      clear hlt
      go_wp2_with fail
      go_returns
      exact ⟨by rw [E.out]; rfl, rfl⟩

set_option maxHeartbeats 400000 in
theorem has_bit (N : Nat) (p : Int) (w : World) (hN : N < 65536) (p1 : 0 ≤ p) (p2 : p ≤ 15) :
    Calls Tryd.prog 78 #[.int .u16 (N : Nat), .int .i64 p] w fun e w' => e = .returned (.bool (N.testBit p.toNat)) ∧ w = w' := by
  have E := Lib.hid (has16 hN p.toNat)
  clear hN
  generalize N.testBit p.toNat = B at *
  go_enter Tryd.func78, Tryd.ntmps78
  go_wp2_with fail
  go_ret
  exact ⟨by rw [← E.out]; rfl, rfl⟩

def hasL (r : Rk) (xs : List Int) : Bool := riseB xs && (xs.isEmpty || (inB (xs.headD 0) 0 (pinsN r.rows - 1) && inB (xs.getLastD 0) 0 (pinsN r.rows - 1)))

theorem Below.drewN' {w W : World} {B : Nat} (h : Below B w W) (n : Nat) : Below B w (W.drewN n) := ⟨h.os, h.tape, h.output, h.size, h.block⟩
theorem dN_below (w : World) (n : Nat) : Below w.heap.size w (w.drewN n) := ⟨rfl, rfl, rfl, Nat.le_refl _, fun _ _ => rfl⟩

set_option maxRecDepth 100000 in
set_option maxHeartbeats 4000000 in
theorem hasL_any (r : Rk) (xs : List Int) (a : Option Addr) (c : Nat) (w : World) (h1 : 1 ≤ r.rows) (h2 : r.rows ≤ 4) (hX : IntsAt w a xs) (hn : xs.length ≤ 1000) :
    Calls Tryd.prog 75 #[r.val, .slice a xs.length c] w fun e w' => e = .returned (.bool (hasL r xs)) ∧ Below w.heap.size w w' := by
  have RQ := Lib.hid (fun W (hb : Below w.heap.size w W) => rises_any xs a c W (hX.lo hb) hn)
  have RS := Lib.hid (fun W (hb : Below w.heap.size w W) => (rises_any xs a c W (hX.lo hb) hn).mono (R' := fun e w' => e = .returned (.bool (riseB xs)) ∧ Below W.heap.size W w') fun e w' ⟨he, n, hw⟩ => ⟨he, hw ▸ dN_below W n⟩)
  have HP := Lib.hid (fun p w => hasPin_any r p w h1 h2)
  have hR := Lib.hid (show hasL r xs = (riseB xs && (xs.isEmpty || (inB (xs.headD 0) 0 (pinsN r.rows - 1) && inB (xs.getLastD 0) 0 (pinsN r.rows - 1)))) from rfl)
  have HX := Lib.hid hX
  clear h1 h2 hX
  generalize hasL r xs = R at *
  generalize riseB xs = S at *
  generalize pinsN r.rows - 1 = m at *
  obtain ⟨rows, mid, gap, reach, la, lc, L⟩ := r
  unfold Rk.val at *
  simp only at *
  have B0 := Lib.hid (below_al w (.cells #[.int .i64 rows, .int .i64 mid, .int .i64 gap, .int .i64 reach, .slice la L.length lc] 32))
  have z0 : w.heap.size < (w.alloc (.cells #[.int .i64 rows, .int .i64 mid, .int .i64 gap, .int .i64 reach, .slice la L.length lc] 32)).heap.size := by simp
  have Z0 := Lib.hid z0
  clear z0
  cases S
  · have hR' := Lib.hid (show R = false from by rw [hR.out]; rfl)
    clear hR HX HP
    go_enter Tryd.func75, Tryd.ntmps75
    go_wp2_with fail
    go_quiet ((go_at_call 101; exact Calls.quiet_of (RQ.out _ (Below.drewN' B0.out _))))
    go_wp2_with fail
    go_ret
    exact ⟨by rw [hR'.out]; rfl, Below.drewN' B0.out _⟩
  · by_cases hx : xs = []
    · subst hx
      have hR' := Lib.hid (show R = true from by rw [hR.out]; rfl)
      clear hR HX HP
      go_enter Tryd.func75, Tryd.ntmps75
      go_wp2_with fail
      go_quiet ((go_at_call 101; exact Calls.quiet_of (RQ.out _ (Below.drewN' B0.out _))))
      go_wp2_with fail
      go_ret
      exact ⟨by rw [hR'.out]; rfl, Below.drewN' B0.out _⟩
    · obtain ⟨x, hx0⟩ : ∃ x, xs[0]? = some x := ⟨xs[0]'(List.length_pos_iff.2 hx), List.getElem?_eq_getElem _⟩
      obtain ⟨y, hy0⟩ : ∃ y, xs[xs.length - 1]? = some y := ⟨xs[xs.length - 1]'(by have := List.length_pos_iff.2 hx; omega), List.getElem?_eq_getElem _⟩
      have hR' := Lib.hid (show R = (inB x 0 m && inB y 0 m) from by
        rw [hR.out]
        have e1 : xs.headD 0 = x := by cases xs with
          | nil => simp at hx
          | cons a t => simpa using hx0
        have e2 : xs.getLastD 0 = y := by rw [List.getLastD_eq_getLast?, List.getLast?_eq_getElem?, hy0]; rfl
        have e3 : xs.isEmpty = false := by cases xs <;> simp_all
        rw [e1, e2, e3]; rfl)
      obtain ⟨g, o, rfl, k1⟩ := HX.out _ _ hx0
      obtain ⟨g', o', he, k2⟩ := HX.out _ _ hy0
      obtain ⟨rfl, rfl⟩ : g = g' ∧ o = o' := by simpa using he
      have hpos := List.length_pos_iff.2 hx
      have p1 : ((xs.length : Int) == 0) = false := by simp; omega
      have p2 : (0 : Int) < (xs.length : Int) := by omega
      have p3 : IntKind.i64.wrap ((xs.length : Int) - 1) = (xs.length : Int) - 1 := IntWalk.i64_in _ (by omega)
      have p4 : (0 : Int) ≤ (xs.length : Int) - 1 := by omega
      have p5 : (xs.length : Int) - 1 < (xs.length : Int) := by omega
      have p6 : ((xs.length : Int) - 1).toNat = xs.length - 1 := by omega
      clear hR he hx hx0 hy0
      have HF := Lib.hid (fun w => HP.out x w)
      have HG := Lib.hid (fun w => HP.out y w)
      clear HP
      generalize inB x 0 m = F at *
      generalize inB y 0 m = G at *
      have K1 := Lib.hid k1; have K2 := Lib.hid k2
      have GL : g < w.heap.size := cell_lt k1
      have SP : Hid (∀ W, Below w.heap.size w W → W.cell? ⟨g, o, none⟩ = some (.int .i64 x) ∧ W.cell? ⟨g, o + (xs.length - 1), none⟩ = some (.int .i64 y)) := Lib.hid (fun W hb => ⟨(hb.cell (p := ⟨g, o, none⟩) GL).trans K1.out, (hb.cell (p := ⟨g, o + (xs.length - 1), none⟩) GL).trans K2.out⟩)
      clear k1 k2
      have C0 : Hid (∀ i v, (#[Value.int .i64 rows, .int .i64 mid, .int .i64 gap, .int .i64 reach, .slice la L.length lc] : Array Value)[i]? = some v → (w.alloc (.cells #[.int .i64 rows, .int .i64 mid, .int .i64 gap, .int .i64 reach, .slice la L.length lc] 32)).cell? ⟨w.heap.size, i, none⟩ = some v) := Lib.hid (fun i v h => new_cell w h)
      clear HX K1 K2
      cases F <;>
      · go_enter Tryd.func75, Tryd.ntmps75
        go_wp2_with fail
        generalize World.alloc w _ = W0 at B0 Z0 C0 ⊢
        have q0 := fun u : Late W0 => u.cell (C0.out 0 _ rfl) Z0.out
        have q1 := fun u : Late W0 => u.cell (C0.out 1 _ rfl) Z0.out
        have q2 := fun u : Late W0 => u.cell (C0.out 2 _ rfl) Z0.out
        have q3 := fun u : Late W0 => u.cell (C0.out 3 _ rfl) Z0.out
        have q4 := fun u : Late W0 => u.cell (C0.out 4 _ rfl) Z0.out
        have e1 := fun u : Late W0 => (SP.out u.W (below_go B0.out u.b)).1
        have e2 := fun u : Late W0 => (SP.out u.W (below_go B0.out u.b)).2
        refine wp_region_late W0 (Below.refl _ _) (by kernel_rfl) (by kernel_rfl) ?_
        repeat (go_big_quiet_step ((first | (go_at_call 101; exact Calls.late (RS.out _ (below_go B0.out (Late.b _)))) | (go_at_call 102; exact Calls.late (HF.out _)) | (go_at_call 102; exact Calls.late (HG.out _)))))
        refine wpQuiet_nil ?_
        intro _ hw'
        obtain ⟨uq, hw''⟩ := hw'
        subst hw''
        go_wp2_with fail
        go_ret
        exact ⟨by rw [hR'.out]; rfl, below_go B0.out uq.b⟩

end Go.Proofs.YtaloffdkadhhnaaDoor
