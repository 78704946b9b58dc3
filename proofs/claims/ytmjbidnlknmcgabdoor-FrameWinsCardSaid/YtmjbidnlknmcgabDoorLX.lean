/- The contracts of the least and the greatest number of a set, and of its span. -/
import Derived.Test.YtmjbidnlknmcgabDoorLA
import Derived.Deep.RegionWith
set_option linter.unusedVariables false
set_option linter.unusedSimpArgs false
namespace Go.Proofs.YtmjbidnlknmcgabDoor
open Go.RowKit

def loW (g : Nat → Nat) : Nat :=
  if g 0 ≠ 0 then Lib.ctz 64 (g 0) else if g 1 ≠ 0 then 64 + Lib.ctz 64 (g 1) else if g 2 ≠ 0 then 128 + Lib.ctz 64 (g 2) else if g 3 ≠ 0 then 192 + Lib.ctz 64 (g 3) else if g 4 ≠ 0 then 256 + Lib.ctz 64 (g 4) else 0
def hiW (g : Nat → Nat) : Nat :=
  if g 4 ≠ 0 then 256 + Lib.bitLen (g 4) - 1 else if g 3 ≠ 0 then 192 + Lib.bitLen (g 3) - 1 else if g 2 ≠ 0 then 128 + Lib.bitLen (g 2) - 1 else if g 1 ≠ 0 then 64 + Lib.bitLen (g 1) - 1 else if g 0 ≠ 0 then Lib.bitLen (g 0) - 1 else 0

theorem TabOK.below {B : Nat} {w w' : World} (h : TabOK w) (hb : Below B w w') (hB : 0 < B) : TabOK w' := fun j hj => (hb.cell (p := ⟨0, j, none⟩) hB).trans (h j hj)
theorem TabOK.pos {w : World} (h : TabOK w) : 0 < w.heap.size := by
  have := h 0 (by decide)
  apply Classical.byContradiction
  intro hn
  have e : w.heap[0]? = none := Array.getElem?_eq_none (by omega)
  simp [World.cell?, e] at this

theorem bl_bd (x : Nat) (h0 : x ≠ 0) (h : x < 2 ^ 64) : 1 ≤ Lib.bitLen x ∧ Lib.bitLen x ≤ 64 := by
  refine ⟨?_, Lib.bitLenAux_le 64 x 64 h⟩
  show 1 ≤ Lib.bitLenAux 64 x
  unfold Lib.bitLenAux
  rw [if_neg h0]
  omega

set_option maxRecDepth 100000 in
set_option maxHeartbeats 2000000 in
theorem least_0 (g : Nat → Nat) (w : World) (hn : g 0 ≠ 0) (hl : g 0 < 2 ^ 64) (hT : TabOK w) :
    Calls Tryd.prog 53 #[.agg #[.int .u64 ((g 0 : Nat) : Int), .int .u64 ((g 1 : Nat) : Int), .int .u64 ((g 2 : Nat) : Int), .int .u64 ((g 3 : Nat) : Int), .int .u64 ((g 4 : Nat) : Int)]] w fun e w' => e = .returned (.int .i64 ((0 + Lib.ctz 64 (g 0) : Nat) : Int)) ∧ Below w.heap.size w w' := by
  have hp := hT.pos
  have i0 : ∀ w, (Instr.index 82 (.agg #[.int .u64 ((g 0 : Nat) : Int), .int .u64 ((g 1 : Nat) : Int), .int .u64 ((g 2 : Nat) : Int), .int .u64 ((g 3 : Nat) : Int), .int .u64 ((g 4 : Nat) : Int)]) (.int .i64 0)).run Tryd.prog w = .ok (.int .u64 ((g 0 : Nat) : Int)) w := fun _ => by kernel_rfl
  have i1 : ∀ w, (Instr.index 82 (.agg #[.int .u64 ((g 0 : Nat) : Int), .int .u64 ((g 1 : Nat) : Int), .int .u64 ((g 2 : Nat) : Int), .int .u64 ((g 3 : Nat) : Int), .int .u64 ((g 4 : Nat) : Int)]) (.int .i64 1)).run Tryd.prog w = .ok (.int .u64 ((g 1 : Nat) : Int)) w := fun _ => by kernel_rfl
  have i2 : ∀ w, (Instr.index 82 (.agg #[.int .u64 ((g 0 : Nat) : Int), .int .u64 ((g 1 : Nat) : Int), .int .u64 ((g 2 : Nat) : Int), .int .u64 ((g 3 : Nat) : Int), .int .u64 ((g 4 : Nat) : Int)]) (.int .i64 2)).run Tryd.prog w = .ok (.int .u64 ((g 2 : Nat) : Int)) w := fun _ => by kernel_rfl
  have i3 : ∀ w, (Instr.index 82 (.agg #[.int .u64 ((g 0 : Nat) : Int), .int .u64 ((g 1 : Nat) : Int), .int .u64 ((g 2 : Nat) : Int), .int .u64 ((g 3 : Nat) : Int), .int .u64 ((g 4 : Nat) : Int)]) (.int .i64 3)).run Tryd.prog w = .ok (.int .u64 ((g 3 : Nat) : Int)) w := fun _ => by kernel_rfl
  have i4 : ∀ w, (Instr.index 82 (.agg #[.int .u64 ((g 0 : Nat) : Int), .int .u64 ((g 1 : Nat) : Int), .int .u64 ((g 2 : Nat) : Int), .int .u64 ((g 3 : Nat) : Int), .int .u64 ((g 4 : Nat) : Int)]) (.int .i64 4)).run Tryd.prog w = .ok (.int .u64 ((g 4 : Nat) : Int)) w := fun _ => by kernel_rfl
  have b0 : (((g 0 : Nat) : Int) != 0) = true := by rw [bne_iff_ne]; omega
  have hc := (Lib.lowest_bit 64 (g 0) hn hl).2
  have HN := Lib.hid hn
  have HL := Lib.hid hl
  have HT := Lib.hid hT
  clear hn hl hT
  go_enter Tryd.func53, Tryd.ntmps53
  go_wp2_with fail
  refine wp_loop_rounds 1 ?_
  rw [rounds_succ]
  go_wp2_with fail
  refine (tz_any (g 0) _ HN.out HL.out (HT.out.below ((Below.refl w.heap.size w).alloc (Nat.le_refl _) _) hp)).mono ?_
  rintro e w2 ⟨rfl, rfl⟩
  obtain ⟨c, hcE⟩ : ∃ c, Hid (c = Lib.ctz 64 (g 0)) := ⟨_, Lib.hid rfl⟩
  rw [← hcE.out] at hc ⊢
  go_wp2_with fail
  go_ret
  exact ⟨congrArg Ending.returned (congrArg (Value.int .i64) (by rw [← hcE.out]; simp)), (Below.refl _ _).alloc (Nat.le_refl _) _⟩

set_option maxRecDepth 100000 in
set_option maxHeartbeats 2000000 in
theorem least_1 (g : Nat → Nat) (w : World) (z0 : g 0 = 0) (hn : g 1 ≠ 0) (hl : g 1 < 2 ^ 64) (hT : TabOK w) :
    Calls Tryd.prog 53 #[.agg #[.int .u64 ((g 0 : Nat) : Int), .int .u64 ((g 1 : Nat) : Int), .int .u64 ((g 2 : Nat) : Int), .int .u64 ((g 3 : Nat) : Int), .int .u64 ((g 4 : Nat) : Int)]] w fun e w' => e = .returned (.int .i64 ((64 + Lib.ctz 64 (g 1) : Nat) : Int)) ∧ Below w.heap.size w w' := by
  have hp := hT.pos
  have i0 : ∀ w, (Instr.index 82 (.agg #[.int .u64 ((g 0 : Nat) : Int), .int .u64 ((g 1 : Nat) : Int), .int .u64 ((g 2 : Nat) : Int), .int .u64 ((g 3 : Nat) : Int), .int .u64 ((g 4 : Nat) : Int)]) (.int .i64 0)).run Tryd.prog w = .ok (.int .u64 ((g 0 : Nat) : Int)) w := fun _ => by kernel_rfl
  have i1 : ∀ w, (Instr.index 82 (.agg #[.int .u64 ((g 0 : Nat) : Int), .int .u64 ((g 1 : Nat) : Int), .int .u64 ((g 2 : Nat) : Int), .int .u64 ((g 3 : Nat) : Int), .int .u64 ((g 4 : Nat) : Int)]) (.int .i64 1)).run Tryd.prog w = .ok (.int .u64 ((g 1 : Nat) : Int)) w := fun _ => by kernel_rfl
  have i2 : ∀ w, (Instr.index 82 (.agg #[.int .u64 ((g 0 : Nat) : Int), .int .u64 ((g 1 : Nat) : Int), .int .u64 ((g 2 : Nat) : Int), .int .u64 ((g 3 : Nat) : Int), .int .u64 ((g 4 : Nat) : Int)]) (.int .i64 2)).run Tryd.prog w = .ok (.int .u64 ((g 2 : Nat) : Int)) w := fun _ => by kernel_rfl
  have i3 : ∀ w, (Instr.index 82 (.agg #[.int .u64 ((g 0 : Nat) : Int), .int .u64 ((g 1 : Nat) : Int), .int .u64 ((g 2 : Nat) : Int), .int .u64 ((g 3 : Nat) : Int), .int .u64 ((g 4 : Nat) : Int)]) (.int .i64 3)).run Tryd.prog w = .ok (.int .u64 ((g 3 : Nat) : Int)) w := fun _ => by kernel_rfl
  have i4 : ∀ w, (Instr.index 82 (.agg #[.int .u64 ((g 0 : Nat) : Int), .int .u64 ((g 1 : Nat) : Int), .int .u64 ((g 2 : Nat) : Int), .int .u64 ((g 3 : Nat) : Int), .int .u64 ((g 4 : Nat) : Int)]) (.int .i64 4)).run Tryd.prog w = .ok (.int .u64 ((g 4 : Nat) : Int)) w := fun _ => by kernel_rfl
  have b0 : (((g 0 : Nat) : Int) != 0) = false := by rw [z0]; rfl
  have Z0 := Lib.hid z0
  clear z0
  have b1 : (((g 1 : Nat) : Int) != 0) = true := by rw [bne_iff_ne]; omega
  have hc := (Lib.lowest_bit 64 (g 1) hn hl).2
  have HN := Lib.hid hn
  have HL := Lib.hid hl
  have HT := Lib.hid hT
  clear hn hl hT
  go_enter Tryd.func53, Tryd.ntmps53
  go_wp2_with fail
  refine wp_loop_rounds 2 ?_
  rw [rounds_succ]
  go_wp2_with fail
  rw [rounds_succ]
  go_wp2_with fail
  refine (tz_any (g 1) _ HN.out HL.out (HT.out.below ((Below.refl w.heap.size w).alloc (Nat.le_refl _) _) hp)).mono ?_
  rintro e w2 ⟨rfl, rfl⟩
  obtain ⟨c, hcE⟩ : ∃ c, Hid (c = Lib.ctz 64 (g 1)) := ⟨_, Lib.hid rfl⟩
  rw [← hcE.out] at hc ⊢
  go_wp2_with fail
  go_ret
  exact ⟨congrArg Ending.returned (congrArg (Value.int .i64) (by rw [← hcE.out]; simp)), (Below.refl _ _).alloc (Nat.le_refl _) _⟩

set_option maxRecDepth 100000 in
set_option maxHeartbeats 2000000 in
theorem least_2 (g : Nat → Nat) (w : World) (z0 : g 0 = 0) (z1 : g 1 = 0) (hn : g 2 ≠ 0) (hl : g 2 < 2 ^ 64) (hT : TabOK w) :
    Calls Tryd.prog 53 #[.agg #[.int .u64 ((g 0 : Nat) : Int), .int .u64 ((g 1 : Nat) : Int), .int .u64 ((g 2 : Nat) : Int), .int .u64 ((g 3 : Nat) : Int), .int .u64 ((g 4 : Nat) : Int)]] w fun e w' => e = .returned (.int .i64 ((128 + Lib.ctz 64 (g 2) : Nat) : Int)) ∧ Below w.heap.size w w' := by
  have hp := hT.pos
  have i0 : ∀ w, (Instr.index 82 (.agg #[.int .u64 ((g 0 : Nat) : Int), .int .u64 ((g 1 : Nat) : Int), .int .u64 ((g 2 : Nat) : Int), .int .u64 ((g 3 : Nat) : Int), .int .u64 ((g 4 : Nat) : Int)]) (.int .i64 0)).run Tryd.prog w = .ok (.int .u64 ((g 0 : Nat) : Int)) w := fun _ => by kernel_rfl
  have i1 : ∀ w, (Instr.index 82 (.agg #[.int .u64 ((g 0 : Nat) : Int), .int .u64 ((g 1 : Nat) : Int), .int .u64 ((g 2 : Nat) : Int), .int .u64 ((g 3 : Nat) : Int), .int .u64 ((g 4 : Nat) : Int)]) (.int .i64 1)).run Tryd.prog w = .ok (.int .u64 ((g 1 : Nat) : Int)) w := fun _ => by kernel_rfl
  have i2 : ∀ w, (Instr.index 82 (.agg #[.int .u64 ((g 0 : Nat) : Int), .int .u64 ((g 1 : Nat) : Int), .int .u64 ((g 2 : Nat) : Int), .int .u64 ((g 3 : Nat) : Int), .int .u64 ((g 4 : Nat) : Int)]) (.int .i64 2)).run Tryd.prog w = .ok (.int .u64 ((g 2 : Nat) : Int)) w := fun _ => by kernel_rfl
  have i3 : ∀ w, (Instr.index 82 (.agg #[.int .u64 ((g 0 : Nat) : Int), .int .u64 ((g 1 : Nat) : Int), .int .u64 ((g 2 : Nat) : Int), .int .u64 ((g 3 : Nat) : Int), .int .u64 ((g 4 : Nat) : Int)]) (.int .i64 3)).run Tryd.prog w = .ok (.int .u64 ((g 3 : Nat) : Int)) w := fun _ => by kernel_rfl
  have i4 : ∀ w, (Instr.index 82 (.agg #[.int .u64 ((g 0 : Nat) : Int), .int .u64 ((g 1 : Nat) : Int), .int .u64 ((g 2 : Nat) : Int), .int .u64 ((g 3 : Nat) : Int), .int .u64 ((g 4 : Nat) : Int)]) (.int .i64 4)).run Tryd.prog w = .ok (.int .u64 ((g 4 : Nat) : Int)) w := fun _ => by kernel_rfl
  have b0 : (((g 0 : Nat) : Int) != 0) = false := by rw [z0]; rfl
  have Z0 := Lib.hid z0
  clear z0
  have b1 : (((g 1 : Nat) : Int) != 0) = false := by rw [z1]; rfl
  have Z1 := Lib.hid z1
  clear z1
  have b2 : (((g 2 : Nat) : Int) != 0) = true := by rw [bne_iff_ne]; omega
  have hc := (Lib.lowest_bit 64 (g 2) hn hl).2
  have HN := Lib.hid hn
  have HL := Lib.hid hl
  have HT := Lib.hid hT
  clear hn hl hT
  go_enter Tryd.func53, Tryd.ntmps53
  go_wp2_with fail
  refine wp_loop_rounds 3 ?_
  rw [rounds_succ]
  go_wp2_with fail
  rw [rounds_succ]
  go_wp2_with fail
  rw [rounds_succ]
  go_wp2_with fail
  refine (tz_any (g 2) _ HN.out HL.out (HT.out.below ((Below.refl w.heap.size w).alloc (Nat.le_refl _) _) hp)).mono ?_
  rintro e w2 ⟨rfl, rfl⟩
  obtain ⟨c, hcE⟩ : ∃ c, Hid (c = Lib.ctz 64 (g 2)) := ⟨_, Lib.hid rfl⟩
  rw [← hcE.out] at hc ⊢
  go_wp2_with fail
  go_ret
  exact ⟨congrArg Ending.returned (congrArg (Value.int .i64) (by rw [← hcE.out]; simp)), (Below.refl _ _).alloc (Nat.le_refl _) _⟩

set_option maxRecDepth 100000 in
set_option maxHeartbeats 2000000 in
theorem least_3 (g : Nat → Nat) (w : World) (z0 : g 0 = 0) (z1 : g 1 = 0) (z2 : g 2 = 0) (hn : g 3 ≠ 0) (hl : g 3 < 2 ^ 64) (hT : TabOK w) :
    Calls Tryd.prog 53 #[.agg #[.int .u64 ((g 0 : Nat) : Int), .int .u64 ((g 1 : Nat) : Int), .int .u64 ((g 2 : Nat) : Int), .int .u64 ((g 3 : Nat) : Int), .int .u64 ((g 4 : Nat) : Int)]] w fun e w' => e = .returned (.int .i64 ((192 + Lib.ctz 64 (g 3) : Nat) : Int)) ∧ Below w.heap.size w w' := by
  have hp := hT.pos
  have i0 : ∀ w, (Instr.index 82 (.agg #[.int .u64 ((g 0 : Nat) : Int), .int .u64 ((g 1 : Nat) : Int), .int .u64 ((g 2 : Nat) : Int), .int .u64 ((g 3 : Nat) : Int), .int .u64 ((g 4 : Nat) : Int)]) (.int .i64 0)).run Tryd.prog w = .ok (.int .u64 ((g 0 : Nat) : Int)) w := fun _ => by kernel_rfl
  have i1 : ∀ w, (Instr.index 82 (.agg #[.int .u64 ((g 0 : Nat) : Int), .int .u64 ((g 1 : Nat) : Int), .int .u64 ((g 2 : Nat) : Int), .int .u64 ((g 3 : Nat) : Int), .int .u64 ((g 4 : Nat) : Int)]) (.int .i64 1)).run Tryd.prog w = .ok (.int .u64 ((g 1 : Nat) : Int)) w := fun _ => by kernel_rfl
  have i2 : ∀ w, (Instr.index 82 (.agg #[.int .u64 ((g 0 : Nat) : Int), .int .u64 ((g 1 : Nat) : Int), .int .u64 ((g 2 : Nat) : Int), .int .u64 ((g 3 : Nat) : Int), .int .u64 ((g 4 : Nat) : Int)]) (.int .i64 2)).run Tryd.prog w = .ok (.int .u64 ((g 2 : Nat) : Int)) w := fun _ => by kernel_rfl
  have i3 : ∀ w, (Instr.index 82 (.agg #[.int .u64 ((g 0 : Nat) : Int), .int .u64 ((g 1 : Nat) : Int), .int .u64 ((g 2 : Nat) : Int), .int .u64 ((g 3 : Nat) : Int), .int .u64 ((g 4 : Nat) : Int)]) (.int .i64 3)).run Tryd.prog w = .ok (.int .u64 ((g 3 : Nat) : Int)) w := fun _ => by kernel_rfl
  have i4 : ∀ w, (Instr.index 82 (.agg #[.int .u64 ((g 0 : Nat) : Int), .int .u64 ((g 1 : Nat) : Int), .int .u64 ((g 2 : Nat) : Int), .int .u64 ((g 3 : Nat) : Int), .int .u64 ((g 4 : Nat) : Int)]) (.int .i64 4)).run Tryd.prog w = .ok (.int .u64 ((g 4 : Nat) : Int)) w := fun _ => by kernel_rfl
  have b0 : (((g 0 : Nat) : Int) != 0) = false := by rw [z0]; rfl
  have Z0 := Lib.hid z0
  clear z0
  have b1 : (((g 1 : Nat) : Int) != 0) = false := by rw [z1]; rfl
  have Z1 := Lib.hid z1
  clear z1
  have b2 : (((g 2 : Nat) : Int) != 0) = false := by rw [z2]; rfl
  have Z2 := Lib.hid z2
  clear z2
  have b3 : (((g 3 : Nat) : Int) != 0) = true := by rw [bne_iff_ne]; omega
  have hc := (Lib.lowest_bit 64 (g 3) hn hl).2
  have HN := Lib.hid hn
  have HL := Lib.hid hl
  have HT := Lib.hid hT
  clear hn hl hT
  go_enter Tryd.func53, Tryd.ntmps53
  go_wp2_with fail
  refine wp_loop_rounds 4 ?_
  rw [rounds_succ]
  go_wp2_with fail
  rw [rounds_succ]
  go_wp2_with fail
  rw [rounds_succ]
  go_wp2_with fail
  rw [rounds_succ]
  go_wp2_with fail
  refine (tz_any (g 3) _ HN.out HL.out (HT.out.below ((Below.refl w.heap.size w).alloc (Nat.le_refl _) _) hp)).mono ?_
  rintro e w2 ⟨rfl, rfl⟩
  obtain ⟨c, hcE⟩ : ∃ c, Hid (c = Lib.ctz 64 (g 3)) := ⟨_, Lib.hid rfl⟩
  rw [← hcE.out] at hc ⊢
  go_wp2_with fail
  go_ret
  exact ⟨congrArg Ending.returned (congrArg (Value.int .i64) (by rw [← hcE.out]; simp)), (Below.refl _ _).alloc (Nat.le_refl _) _⟩

set_option maxRecDepth 100000 in
set_option maxHeartbeats 2000000 in
theorem least_4 (g : Nat → Nat) (w : World) (z0 : g 0 = 0) (z1 : g 1 = 0) (z2 : g 2 = 0) (z3 : g 3 = 0) (hn : g 4 ≠ 0) (hl : g 4 < 2 ^ 64) (hT : TabOK w) :
    Calls Tryd.prog 53 #[.agg #[.int .u64 ((g 0 : Nat) : Int), .int .u64 ((g 1 : Nat) : Int), .int .u64 ((g 2 : Nat) : Int), .int .u64 ((g 3 : Nat) : Int), .int .u64 ((g 4 : Nat) : Int)]] w fun e w' => e = .returned (.int .i64 ((256 + Lib.ctz 64 (g 4) : Nat) : Int)) ∧ Below w.heap.size w w' := by
  have hp := hT.pos
  have i0 : ∀ w, (Instr.index 82 (.agg #[.int .u64 ((g 0 : Nat) : Int), .int .u64 ((g 1 : Nat) : Int), .int .u64 ((g 2 : Nat) : Int), .int .u64 ((g 3 : Nat) : Int), .int .u64 ((g 4 : Nat) : Int)]) (.int .i64 0)).run Tryd.prog w = .ok (.int .u64 ((g 0 : Nat) : Int)) w := fun _ => by kernel_rfl
  have i1 : ∀ w, (Instr.index 82 (.agg #[.int .u64 ((g 0 : Nat) : Int), .int .u64 ((g 1 : Nat) : Int), .int .u64 ((g 2 : Nat) : Int), .int .u64 ((g 3 : Nat) : Int), .int .u64 ((g 4 : Nat) : Int)]) (.int .i64 1)).run Tryd.prog w = .ok (.int .u64 ((g 1 : Nat) : Int)) w := fun _ => by kernel_rfl
  have i2 : ∀ w, (Instr.index 82 (.agg #[.int .u64 ((g 0 : Nat) : Int), .int .u64 ((g 1 : Nat) : Int), .int .u64 ((g 2 : Nat) : Int), .int .u64 ((g 3 : Nat) : Int), .int .u64 ((g 4 : Nat) : Int)]) (.int .i64 2)).run Tryd.prog w = .ok (.int .u64 ((g 2 : Nat) : Int)) w := fun _ => by kernel_rfl
  have i3 : ∀ w, (Instr.index 82 (.agg #[.int .u64 ((g 0 : Nat) : Int), .int .u64 ((g 1 : Nat) : Int), .int .u64 ((g 2 : Nat) : Int), .int .u64 ((g 3 : Nat) : Int), .int .u64 ((g 4 : Nat) : Int)]) (.int .i64 3)).run Tryd.prog w = .ok (.int .u64 ((g 3 : Nat) : Int)) w := fun _ => by kernel_rfl
  have i4 : ∀ w, (Instr.index 82 (.agg #[.int .u64 ((g 0 : Nat) : Int), .int .u64 ((g 1 : Nat) : Int), .int .u64 ((g 2 : Nat) : Int), .int .u64 ((g 3 : Nat) : Int), .int .u64 ((g 4 : Nat) : Int)]) (.int .i64 4)).run Tryd.prog w = .ok (.int .u64 ((g 4 : Nat) : Int)) w := fun _ => by kernel_rfl
  have b0 : (((g 0 : Nat) : Int) != 0) = false := by rw [z0]; rfl
  have Z0 := Lib.hid z0
  clear z0
  have b1 : (((g 1 : Nat) : Int) != 0) = false := by rw [z1]; rfl
  have Z1 := Lib.hid z1
  clear z1
  have b2 : (((g 2 : Nat) : Int) != 0) = false := by rw [z2]; rfl
  have Z2 := Lib.hid z2
  clear z2
  have b3 : (((g 3 : Nat) : Int) != 0) = false := by rw [z3]; rfl
  have Z3 := Lib.hid z3
  clear z3
  have b4 : (((g 4 : Nat) : Int) != 0) = true := by rw [bne_iff_ne]; omega
  have hc := (Lib.lowest_bit 64 (g 4) hn hl).2
  have HN := Lib.hid hn
  have HL := Lib.hid hl
  have HT := Lib.hid hT
  clear hn hl hT
  go_enter Tryd.func53, Tryd.ntmps53
  go_wp2_with fail
  refine wp_loop_rounds 5 ?_
  rw [rounds_succ]
  go_wp2_with fail
  rw [rounds_succ]
  go_wp2_with fail
  rw [rounds_succ]
  go_wp2_with fail
  rw [rounds_succ]
  go_wp2_with fail
  rw [rounds_succ]
  go_wp2_with fail
  refine (tz_any (g 4) _ HN.out HL.out (HT.out.below ((Below.refl w.heap.size w).alloc (Nat.le_refl _) _) hp)).mono ?_
  rintro e w2 ⟨rfl, rfl⟩
  obtain ⟨c, hcE⟩ : ∃ c, Hid (c = Lib.ctz 64 (g 4)) := ⟨_, Lib.hid rfl⟩
  rw [← hcE.out] at hc ⊢
  go_wp2_with fail
  go_ret
  exact ⟨congrArg Ending.returned (congrArg (Value.int .i64) (by rw [← hcE.out]; simp)), (Below.refl _ _).alloc (Nat.le_refl _) _⟩

set_option maxRecDepth 100000 in
set_option maxHeartbeats 2000000 in
theorem least_5 (g : Nat → Nat) (w : World) (z0 : g 0 = 0) (z1 : g 1 = 0) (z2 : g 2 = 0) (z3 : g 3 = 0) (z4 : g 4 = 0) (hT : TabOK w) :
    Calls Tryd.prog 53 #[.agg #[.int .u64 ((g 0 : Nat) : Int), .int .u64 ((g 1 : Nat) : Int), .int .u64 ((g 2 : Nat) : Int), .int .u64 ((g 3 : Nat) : Int), .int .u64 ((g 4 : Nat) : Int)]] w fun e w' => e = .returned (.int .i64 0) ∧ Below w.heap.size w w' := by
  have hp := hT.pos
  have i0 : ∀ w, (Instr.index 82 (.agg #[.int .u64 ((g 0 : Nat) : Int), .int .u64 ((g 1 : Nat) : Int), .int .u64 ((g 2 : Nat) : Int), .int .u64 ((g 3 : Nat) : Int), .int .u64 ((g 4 : Nat) : Int)]) (.int .i64 0)).run Tryd.prog w = .ok (.int .u64 ((g 0 : Nat) : Int)) w := fun _ => by kernel_rfl
  have i1 : ∀ w, (Instr.index 82 (.agg #[.int .u64 ((g 0 : Nat) : Int), .int .u64 ((g 1 : Nat) : Int), .int .u64 ((g 2 : Nat) : Int), .int .u64 ((g 3 : Nat) : Int), .int .u64 ((g 4 : Nat) : Int)]) (.int .i64 1)).run Tryd.prog w = .ok (.int .u64 ((g 1 : Nat) : Int)) w := fun _ => by kernel_rfl
  have i2 : ∀ w, (Instr.index 82 (.agg #[.int .u64 ((g 0 : Nat) : Int), .int .u64 ((g 1 : Nat) : Int), .int .u64 ((g 2 : Nat) : Int), .int .u64 ((g 3 : Nat) : Int), .int .u64 ((g 4 : Nat) : Int)]) (.int .i64 2)).run Tryd.prog w = .ok (.int .u64 ((g 2 : Nat) : Int)) w := fun _ => by kernel_rfl
  have i3 : ∀ w, (Instr.index 82 (.agg #[.int .u64 ((g 0 : Nat) : Int), .int .u64 ((g 1 : Nat) : Int), .int .u64 ((g 2 : Nat) : Int), .int .u64 ((g 3 : Nat) : Int), .int .u64 ((g 4 : Nat) : Int)]) (.int .i64 3)).run Tryd.prog w = .ok (.int .u64 ((g 3 : Nat) : Int)) w := fun _ => by kernel_rfl
  have i4 : ∀ w, (Instr.index 82 (.agg #[.int .u64 ((g 0 : Nat) : Int), .int .u64 ((g 1 : Nat) : Int), .int .u64 ((g 2 : Nat) : Int), .int .u64 ((g 3 : Nat) : Int), .int .u64 ((g 4 : Nat) : Int)]) (.int .i64 4)).run Tryd.prog w = .ok (.int .u64 ((g 4 : Nat) : Int)) w := fun _ => by kernel_rfl
  have b0 : (((g 0 : Nat) : Int) != 0) = false := by rw [z0]; rfl
  have Z0 := Lib.hid z0
  clear z0
  have b1 : (((g 1 : Nat) : Int) != 0) = false := by rw [z1]; rfl
  have Z1 := Lib.hid z1
  clear z1
  have b2 : (((g 2 : Nat) : Int) != 0) = false := by rw [z2]; rfl
  have Z2 := Lib.hid z2
  clear z2
  have b3 : (((g 3 : Nat) : Int) != 0) = false := by rw [z3]; rfl
  have Z3 := Lib.hid z3
  clear z3
  have b4 : (((g 4 : Nat) : Int) != 0) = false := by rw [z4]; rfl
  have Z4 := Lib.hid z4
  clear z4
  go_enter Tryd.func53, Tryd.ntmps53
  go_wp2_with fail
  refine wp_loop_rounds 6 ?_
  rw [rounds_succ]
  go_wp2_with fail
  rw [rounds_succ]
  go_wp2_with fail
  rw [rounds_succ]
  go_wp2_with fail
  rw [rounds_succ]
  go_wp2_with fail
  rw [rounds_succ]
  go_wp2_with fail
  rw [rounds_succ]
  go_wp2_with fail
  go_ret
  exact ⟨rfl, (Below.refl _ _).alloc (Nat.le_refl _) _⟩

set_option maxRecDepth 100000 in
set_option maxHeartbeats 2000000 in
theorem greatest_0 (g : Nat → Nat) (w : World) (hn : g 4 ≠ 0) (hl : g 4 < 2 ^ 64) :
    Calls Tryd.prog 54 #[.agg #[.int .u64 ((g 0 : Nat) : Int), .int .u64 ((g 1 : Nat) : Int), .int .u64 ((g 2 : Nat) : Int), .int .u64 ((g 3 : Nat) : Int), .int .u64 ((g 4 : Nat) : Int)]] w fun e w' => e = .returned (.int .i64 ((256 + Lib.bitLen (g 4) - 1 : Nat) : Int)) ∧ Below w.heap.size w w' := by
  have b4 : (((g 4 : Nat) : Int) != 0) = true := by rw [bne_iff_ne]; omega
  have hc := bl_bd (g 4) hn hl
  have HN := Lib.hid hn
  have HL := Lib.hid hl
  clear hn hl
  go_enter Tryd.func54, Tryd.ntmps54
  go_wp2_with fail
  refine wp_loop_rounds 1 ?_
  rw [rounds_succ]
  go_wp2_with fail
  refine (len_any ((g 4 : Nat) : Int) _ (by omega) (by have := HL.out; omega)).mono ?_
  rintro e w2 ⟨rfl, rfl⟩
  rw [Int.toNat_natCast]
  obtain ⟨c, hcE⟩ : ∃ c, Hid (c = Lib.bitLen (g 4)) := ⟨_, Lib.hid rfl⟩
  rw [← hcE.out] at hc ⊢
  go_wp2_with fail
  go_ret
  exact ⟨congrArg Ending.returned (congrArg (Value.int .i64) (by rw [← hcE.out]; simp; omega)), (Below.refl _ _).alloc (Nat.le_refl _) _⟩

set_option maxRecDepth 100000 in
set_option maxHeartbeats 2000000 in
theorem greatest_1 (g : Nat → Nat) (w : World) (z4 : g 4 = 0) (hn : g 3 ≠ 0) (hl : g 3 < 2 ^ 64) :
    Calls Tryd.prog 54 #[.agg #[.int .u64 ((g 0 : Nat) : Int), .int .u64 ((g 1 : Nat) : Int), .int .u64 ((g 2 : Nat) : Int), .int .u64 ((g 3 : Nat) : Int), .int .u64 ((g 4 : Nat) : Int)]] w fun e w' => e = .returned (.int .i64 ((192 + Lib.bitLen (g 3) - 1 : Nat) : Int)) ∧ Below w.heap.size w w' := by
  have b4 : (((g 4 : Nat) : Int) != 0) = false := by rw [z4]; rfl
  have Z4 := Lib.hid z4
  clear z4
  have b3 : (((g 3 : Nat) : Int) != 0) = true := by rw [bne_iff_ne]; omega
  have hc := bl_bd (g 3) hn hl
  have HN := Lib.hid hn
  have HL := Lib.hid hl
  clear hn hl
  go_enter Tryd.func54, Tryd.ntmps54
  go_wp2_with fail
  refine wp_loop_rounds 2 ?_
  rw [rounds_succ]
  go_wp2_with fail
  rw [rounds_succ]
  go_wp2_with fail
  refine (len_any ((g 3 : Nat) : Int) _ (by omega) (by have := HL.out; omega)).mono ?_
  rintro e w2 ⟨rfl, rfl⟩
  rw [Int.toNat_natCast]
  obtain ⟨c, hcE⟩ : ∃ c, Hid (c = Lib.bitLen (g 3)) := ⟨_, Lib.hid rfl⟩
  rw [← hcE.out] at hc ⊢
  go_wp2_with fail
  go_ret
  exact ⟨congrArg Ending.returned (congrArg (Value.int .i64) (by rw [← hcE.out]; simp; omega)), (Below.refl _ _).alloc (Nat.le_refl _) _⟩

set_option maxRecDepth 100000 in
set_option maxHeartbeats 2000000 in
theorem greatest_2 (g : Nat → Nat) (w : World) (z4 : g 4 = 0) (z3 : g 3 = 0) (hn : g 2 ≠ 0) (hl : g 2 < 2 ^ 64) :
    Calls Tryd.prog 54 #[.agg #[.int .u64 ((g 0 : Nat) : Int), .int .u64 ((g 1 : Nat) : Int), .int .u64 ((g 2 : Nat) : Int), .int .u64 ((g 3 : Nat) : Int), .int .u64 ((g 4 : Nat) : Int)]] w fun e w' => e = .returned (.int .i64 ((128 + Lib.bitLen (g 2) - 1 : Nat) : Int)) ∧ Below w.heap.size w w' := by
  have b4 : (((g 4 : Nat) : Int) != 0) = false := by rw [z4]; rfl
  have Z4 := Lib.hid z4
  clear z4
  have b3 : (((g 3 : Nat) : Int) != 0) = false := by rw [z3]; rfl
  have Z3 := Lib.hid z3
  clear z3
  have b2 : (((g 2 : Nat) : Int) != 0) = true := by rw [bne_iff_ne]; omega
  have hc := bl_bd (g 2) hn hl
  have HN := Lib.hid hn
  have HL := Lib.hid hl
  clear hn hl
  go_enter Tryd.func54, Tryd.ntmps54
  go_wp2_with fail
  refine wp_loop_rounds 3 ?_
  rw [rounds_succ]
  go_wp2_with fail
  rw [rounds_succ]
  go_wp2_with fail
  rw [rounds_succ]
  go_wp2_with fail
  refine (len_any ((g 2 : Nat) : Int) _ (by omega) (by have := HL.out; omega)).mono ?_
  rintro e w2 ⟨rfl, rfl⟩
  rw [Int.toNat_natCast]
  obtain ⟨c, hcE⟩ : ∃ c, Hid (c = Lib.bitLen (g 2)) := ⟨_, Lib.hid rfl⟩
  rw [← hcE.out] at hc ⊢
  go_wp2_with fail
  go_ret
  exact ⟨congrArg Ending.returned (congrArg (Value.int .i64) (by rw [← hcE.out]; simp; omega)), (Below.refl _ _).alloc (Nat.le_refl _) _⟩

set_option maxRecDepth 100000 in
set_option maxHeartbeats 2000000 in
theorem greatest_3 (g : Nat → Nat) (w : World) (z4 : g 4 = 0) (z3 : g 3 = 0) (z2 : g 2 = 0) (hn : g 1 ≠ 0) (hl : g 1 < 2 ^ 64) :
    Calls Tryd.prog 54 #[.agg #[.int .u64 ((g 0 : Nat) : Int), .int .u64 ((g 1 : Nat) : Int), .int .u64 ((g 2 : Nat) : Int), .int .u64 ((g 3 : Nat) : Int), .int .u64 ((g 4 : Nat) : Int)]] w fun e w' => e = .returned (.int .i64 ((64 + Lib.bitLen (g 1) - 1 : Nat) : Int)) ∧ Below w.heap.size w w' := by
  have b4 : (((g 4 : Nat) : Int) != 0) = false := by rw [z4]; rfl
  have Z4 := Lib.hid z4
  clear z4
  have b3 : (((g 3 : Nat) : Int) != 0) = false := by rw [z3]; rfl
  have Z3 := Lib.hid z3
  clear z3
  have b2 : (((g 2 : Nat) : Int) != 0) = false := by rw [z2]; rfl
  have Z2 := Lib.hid z2
  clear z2
  have b1 : (((g 1 : Nat) : Int) != 0) = true := by rw [bne_iff_ne]; omega
  have hc := bl_bd (g 1) hn hl
  have HN := Lib.hid hn
  have HL := Lib.hid hl
  clear hn hl
  go_enter Tryd.func54, Tryd.ntmps54
  go_wp2_with fail
  refine wp_loop_rounds 4 ?_
  rw [rounds_succ]
  go_wp2_with fail
  rw [rounds_succ]
  go_wp2_with fail
  rw [rounds_succ]
  go_wp2_with fail
  rw [rounds_succ]
  go_wp2_with fail
  refine (len_any ((g 1 : Nat) : Int) _ (by omega) (by have := HL.out; omega)).mono ?_
  rintro e w2 ⟨rfl, rfl⟩
  rw [Int.toNat_natCast]
  obtain ⟨c, hcE⟩ : ∃ c, Hid (c = Lib.bitLen (g 1)) := ⟨_, Lib.hid rfl⟩
  rw [← hcE.out] at hc ⊢
  go_wp2_with fail
  go_ret
  exact ⟨congrArg Ending.returned (congrArg (Value.int .i64) (by rw [← hcE.out]; simp; omega)), (Below.refl _ _).alloc (Nat.le_refl _) _⟩

set_option maxRecDepth 100000 in
set_option maxHeartbeats 2000000 in
theorem greatest_4 (g : Nat → Nat) (w : World) (z4 : g 4 = 0) (z3 : g 3 = 0) (z2 : g 2 = 0) (z1 : g 1 = 0) (hn : g 0 ≠ 0) (hl : g 0 < 2 ^ 64) :
    Calls Tryd.prog 54 #[.agg #[.int .u64 ((g 0 : Nat) : Int), .int .u64 ((g 1 : Nat) : Int), .int .u64 ((g 2 : Nat) : Int), .int .u64 ((g 3 : Nat) : Int), .int .u64 ((g 4 : Nat) : Int)]] w fun e w' => e = .returned (.int .i64 ((0 + Lib.bitLen (g 0) - 1 : Nat) : Int)) ∧ Below w.heap.size w w' := by
  have b4 : (((g 4 : Nat) : Int) != 0) = false := by rw [z4]; rfl
  have Z4 := Lib.hid z4
  clear z4
  have b3 : (((g 3 : Nat) : Int) != 0) = false := by rw [z3]; rfl
  have Z3 := Lib.hid z3
  clear z3
  have b2 : (((g 2 : Nat) : Int) != 0) = false := by rw [z2]; rfl
  have Z2 := Lib.hid z2
  clear z2
  have b1 : (((g 1 : Nat) : Int) != 0) = false := by rw [z1]; rfl
  have Z1 := Lib.hid z1
  clear z1
  have b0 : (((g 0 : Nat) : Int) != 0) = true := by rw [bne_iff_ne]; omega
  have hc := bl_bd (g 0) hn hl
  have HN := Lib.hid hn
  have HL := Lib.hid hl
  clear hn hl
  go_enter Tryd.func54, Tryd.ntmps54
  go_wp2_with fail
  refine wp_loop_rounds 5 ?_
  rw [rounds_succ]
  go_wp2_with fail
  rw [rounds_succ]
  go_wp2_with fail
  rw [rounds_succ]
  go_wp2_with fail
  rw [rounds_succ]
  go_wp2_with fail
  rw [rounds_succ]
  go_wp2_with fail
  refine (len_any ((g 0 : Nat) : Int) _ (by omega) (by have := HL.out; omega)).mono ?_
  rintro e w2 ⟨rfl, rfl⟩
  rw [Int.toNat_natCast]
  obtain ⟨c, hcE⟩ : ∃ c, Hid (c = Lib.bitLen (g 0)) := ⟨_, Lib.hid rfl⟩
  rw [← hcE.out] at hc ⊢
  go_wp2_with fail
  go_ret
  exact ⟨congrArg Ending.returned (congrArg (Value.int .i64) (by rw [← hcE.out]; simp; omega)), (Below.refl _ _).alloc (Nat.le_refl _) _⟩

set_option maxRecDepth 100000 in
set_option maxHeartbeats 2000000 in
theorem greatest_5 (g : Nat → Nat) (w : World) (z4 : g 4 = 0) (z3 : g 3 = 0) (z2 : g 2 = 0) (z1 : g 1 = 0) (z0 : g 0 = 0) :
    Calls Tryd.prog 54 #[.agg #[.int .u64 ((g 0 : Nat) : Int), .int .u64 ((g 1 : Nat) : Int), .int .u64 ((g 2 : Nat) : Int), .int .u64 ((g 3 : Nat) : Int), .int .u64 ((g 4 : Nat) : Int)]] w fun e w' => e = .returned (.int .i64 0) ∧ Below w.heap.size w w' := by
  have b4 : (((g 4 : Nat) : Int) != 0) = false := by rw [z4]; rfl
  have Z4 := Lib.hid z4
  clear z4
  have b3 : (((g 3 : Nat) : Int) != 0) = false := by rw [z3]; rfl
  have Z3 := Lib.hid z3
  clear z3
  have b2 : (((g 2 : Nat) : Int) != 0) = false := by rw [z2]; rfl
  have Z2 := Lib.hid z2
  clear z2
  have b1 : (((g 1 : Nat) : Int) != 0) = false := by rw [z1]; rfl
  have Z1 := Lib.hid z1
  clear z1
  have b0 : (((g 0 : Nat) : Int) != 0) = false := by rw [z0]; rfl
  have Z0 := Lib.hid z0
  clear z0
  go_enter Tryd.func54, Tryd.ntmps54
  go_wp2_with fail
  refine wp_loop_rounds 6 ?_
  rw [rounds_succ]
  go_wp2_with fail
  rw [rounds_succ]
  go_wp2_with fail
  rw [rounds_succ]
  go_wp2_with fail
  rw [rounds_succ]
  go_wp2_with fail
  rw [rounds_succ]
  go_wp2_with fail
  rw [rounds_succ]
  go_wp2_with fail
  go_ret
  exact ⟨rfl, (Below.refl _ _).alloc (Nat.le_refl _) _⟩

theorem least_any (g : Nat → Nat) (hg : ∀ i, g i < 2 ^ 64) (w : World) (hT : TabOK w) :
    Calls Tryd.prog 53 #[tval fun i => ((g i : Nat) : Int)] w fun e w' => e = .returned (.int .i64 ((loW g : Nat) : Int)) ∧ Below w.heap.size w w' := by
  unfold loW
  by_cases h0 : g 0 = 0
  · by_cases h1 : g 1 = 0
    · by_cases h2 : g 2 = 0
      · by_cases h3 : g 3 = 0
        · by_cases h4 : g 4 = 0
          · simpa [h0, h1, h2, h3, h4, tval] using least_5 g w h0 h1 h2 h3 h4 hT
          · simpa [h0, h1, h2, h3, h4, tval] using least_4 g w h0 h1 h2 h3 h4 (hg 4) hT
        · simpa [h0, h1, h2, h3, tval] using least_3 g w h0 h1 h2 h3 (hg 3) hT
      · simpa [h0, h1, h2, tval] using least_2 g w h0 h1 h2 (hg 2) hT
    · simpa [h0, h1, tval] using least_1 g w h0 h1 (hg 1) hT
  · simpa [h0, tval] using least_0 g w h0 (hg 0) hT

theorem greatest_any (g : Nat → Nat) (hg : ∀ i, g i < 2 ^ 64) (w : World) :
    Calls Tryd.prog 54 #[tval fun i => ((g i : Nat) : Int)] w fun e w' => e = .returned (.int .i64 ((hiW g : Nat) : Int)) ∧ Below w.heap.size w w' := by
  unfold hiW
  by_cases h4 : g 4 = 0
  · by_cases h3 : g 3 = 0
    · by_cases h2 : g 2 = 0
      · by_cases h1 : g 1 = 0
        · by_cases h0 : g 0 = 0
          · simpa [h0, h1, h2, h3, h4, tval] using greatest_5 g w h4 h3 h2 h1 h0
          · simpa [h0, h1, h2, h3, h4, tval] using greatest_4 g w h4 h3 h2 h1 h0 (hg 0)
        · simpa [h1, h2, h3, h4, tval] using greatest_3 g w h4 h3 h2 h1 (hg 1)
      · simpa [h2, h3, h4, tval] using greatest_2 g w h4 h3 h2 (hg 2)
    · simpa [h3, h4, tval] using greatest_1 g w h4 h3 (hg 3)
  · simpa [h4, tval] using greatest_0 g w h4 (hg 4)

end Go.Proofs.YtmjbidnlknmcgabDoor
