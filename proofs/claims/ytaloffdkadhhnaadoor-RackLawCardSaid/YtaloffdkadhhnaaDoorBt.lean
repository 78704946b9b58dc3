/- The contracts of the least element of a set, and of its size. -/
import Derived.Test.YtaloffdkadhhnaaDoorPb
import Derived.Lib.TrailingZeros
import Derived.Lib.BitFns
import Derived.RegionTactic
set_option linter.unusedVariables false
set_option linter.unusedSimpArgs false
namespace Go.Proofs.YtaloffdkadhhnaaDoor
open Go.RowKit

/-- The library's table in its variable. -/
def TabOK (w : World) : Prop := ∀ j, j < Lib.deBruijn32tab.length → w.cell? ⟨0, j, none⟩ = some (.int .u8 (Lib.deBruijn32tab.getD j 0))
theorem TabOK.lo {w W : World} (h : TabOK w) (hb : Below w.heap.size w W) : TabOK W := fun j hj => cell_lo hb (h j hj)
theorem TabOK.alt {w W : World} {p : Nat → Prop} (h : TabOK w) (hb : Alt p w W) (hp : ¬ p 0) : TabOK W := fun j hj =>
  (World.cell?_of_block (hb.blk 0 (cell_lt (h j hj)) hp)).trans (h j hj)

set_option maxRecDepth 100000 in
set_option maxHeartbeats 1000000 in
theorem tz_core (x k idx : Nat) (w : World) (hx0 : ((x : Int) == 0) = false)
    (key : bits BinOp.and IntKind.u16 (x : Int) (IntKind.u16.wrap (-(x : Int))) % 4294967296 * 125613361 % 4294967296 / 134217728 = (idx : Int))
    (hi : idx < 32) (hcell : w.cell? ⟨0, idx, none⟩ = some (.int .u8 k)) (hk : k < 32) :
    Calls Tryd.prog 118 #[.int .u16 x] w fun e w' => e = .returned (.int .i64 k) ∧ w = w' := by
  go_enter Tryd.func118, Tryd.ntmps118
  go_wp2_with fail
  go_ret
  exact ⟨rfl, rfl⟩

theorem tz_any (x : Nat) (w : World) (h0 : x ≠ 0) (hx : x < 65536) (hT : TabOK w) :
    Calls Tryd.prog 118 #[.int .u16 x] w fun e w' => e = .returned (.int .i64 (Lib.ctz 16 x)) ∧ w = w' := by
  obtain ⟨hlow, hk⟩ := Lib.lowest_bit 16 x h0 hx
  obtain ⟨hi, htab⟩ := Lib.deBruijn32_at (Lib.ctz 16 x) (by omega)
  have hcell := hT _ hi
  rw [htab] at hcell
  refine tz_core x _ _ w (by simp; omega) ?_ hi hcell (by omega)
  have e1 : IntKind.u16.wrap (-(x : Int)) = ((65536 - x : Nat) : Int) := by unfold IntKind.wrap; simp [IntKind.bits, IntKind.signed]; omega
  have e2 : 2 ^ Lib.ctz 16 x < 65536 := Nat.pow_lt_pow_right (by omega) hk
  rw [e1, and16 hx (by omega), hlow]
  clear hlow hk hi htab hcell e1
  generalize 2 ^ Lib.ctz 16 x = P at *
  omega

theorem tz_bit {x : Nat} (h0 : x ≠ 0) (hx : x < 65536) : Lib.ctz 16 x < 16 ∧ x.testBit (Lib.ctz 16 x) = true ∧ ∀ j, j < Lib.ctz 16 x → x.testBit j = false := by
  obtain ⟨m, hm, hk⟩ := Lib.ctzFrom_spec 16 x (by omega) hx
  have e : Lib.ctz 16 x = Lib.ctzFrom 16 x := by simp [Lib.ctz, h0]
  rw [e]
  generalize Lib.ctzFrom 16 x = r at *
  subst hm
  refine ⟨hk, ?_, fun j hj => ?_⟩
  · rw [Nat.mul_comm, Nat.testBit_mul_two_pow]; simp [Nat.testBit_zero]
  · rw [Nat.mul_comm, Nat.testBit_mul_two_pow]; simp; omega

theorem first_any (x : Nat) (w : World) (h0 : x ≠ 0) (hx : x < 65536) (hT : TabOK w) :
    Calls Tryd.prog 107 #[.int .u16 x] w fun e w' => e = .returned (.int .i64 (Lib.ctz 16 x)) ∧ w = w' := by
  have C := Lib.hid (tz_any x w h0 hx hT)
  clear hT h0 hx
  go_enter Tryd.func107, Tryd.ntmps107
  go_wp2_with fail
  refine C.out.mono ?_
  rintro e w1 ⟨rfl, rfl⟩
  go_wp2_with fail
  go_ret
  exact ⟨rfl, rfl⟩

theorem elsF_len : ∀ (f k k' N : Nat), (elsF f k N).length = (elsF f k' N).length
  | 0, _, _, _ => rfl
  | f + 1, k, k', N => by
    rw [elsF, elsF]
    split
    · simp [elsF_len f (k + 1) (k' + 1)]
    · exact elsF_len f _ _ _
theorem elsF_split (g : Nat) : ∀ (f k N : Nat), (elsF (f + g) k N).length = (elsF f k (N % 2 ^ f)).length + (elsF g 0 (N / 2 ^ f)).length
  | 0, k, N => by simp [elsF, elsF_len g k 0]
  | f + 1, k, N => by
    have ih := elsF_split g f (k + 1) (N / 2)
    have e1 : N % 2 ^ (f + 1) % 2 = N % 2 := by rw [Nat.pow_succ, Nat.mul_comm, Nat.mod_mul_right_mod]
    have e2 : N % 2 ^ (f + 1) / 2 = N / 2 % 2 ^ f := by rw [Nat.pow_succ, Nat.mul_comm, Nat.mod_mul_right_div_self]
    have e3 : N / 2 ^ (f + 1) = N / 2 / 2 ^ f := by rw [Nat.pow_succ, Nat.mul_comm, Nat.div_div_eq_div_mul]
    rw [show f + 1 + g = (f + g) + 1 from by omega, elsF, elsF, e1, e2, e3]
    split
    · simp [ih]; omega
    · exact ih
theorem pop8_els : ∀ n : Fin 256, Lib.pop8 (n.val : Int) = ((elsF 8 0 n.val).length : Int) := by decide +kernel
def sizeN (N : Nat) : Nat := (els N).length
theorem size_pop {x : Nat} (hx : x < 65536) : (Lib.pop8 ((x : Int) / 256) + Lib.pop8 ((x : Int) % 256)) % 256 = (sizeN x : Int) := by
  have e1 := pop8_els ⟨x / 256, by omega⟩
  have e2 := pop8_els ⟨x % 256, by omega⟩
  have e3 := elsF_split 8 8 0 x
  have l1 : ∀ f k N, (elsF f k N).length ≤ f := fun f => by
    induction f with
    | zero => intro k N; simp [elsF]
    | succ f ih => intro k N; rw [elsF]; split
                   · simp; exact ih _ _
                   · exact Nat.le_succ_of_le (ih _ _)
  have a := l1 8 0 (x / 256); have b := l1 8 0 (x % 256)
  simp only at e1 e2
  rw [show ((x / 256 : Nat) : Int) = (x : Int) / 256 from by omega] at e1
  rw [show ((x % 256 : Nat) : Int) = (x : Int) % 256 from by omega] at e2
  rw [e1, e2]
  unfold sizeN els
  rw [show (16 : Nat) = 8 + 8 from rfl, e3]
  simp only [Nat.reducePow] at *
  omega

set_option maxRecDepth 100000 in
set_option maxHeartbeats 1000000 in
theorem ones_any (x : Nat) (w : World) (hx : x < 65536) :
    Calls Tryd.prog 100 #[.int .u16 x] w fun e w' => e = .returned (.int .i64 (sizeN x : Nat)) ∧ ∃ n, w' = w.drewN n := by
  have a1 : (0 : Int) ≤ (x : Int) / 256 := by omega
  have a2 : (x : Int) / 256 ≤ 255 := by omega
  have a3 : bits BinOp.and IntKind.u16 (x : Int) 255 = (x : Int) % 256 := by
    rw [show (255 : Int) = ((255 : Nat) : Int) from rfl, and16 hx (by decide), show (255 : Nat) = 2 ^ 8 - 1 from rfl, Nat.and_two_pow_sub_one_eq_mod]; rfl
  have a4 : (0 : Int) ≤ (x : Int) % 256 := by omega
  have a5 : (x : Int) % 256 ≤ 255 := by omega
  have E := Lib.hid (size_pop hx)
  clear hx
  go_enter Tryd.func100, Tryd.ntmps100
  go_wp2_with fail
  go_quiet (fail)
  go_wp2_with fail
  go_ret
  exact ⟨by rw [← E.out]; rfl, _, rfl⟩

set_option maxHeartbeats 400000 in
theorem size_any (x : Nat) (w : World) (hx : x < 65536) :
    Calls Tryd.prog 73 #[.int .u16 x] w fun e w' => e = .returned (.int .i64 (sizeN x : Nat)) ∧ ∃ n, w' = w.drewN n := by
  have C := Lib.hid (ones_any x w hx)
  clear hx
  generalize sizeN x = S at *
  go_enter Tryd.func73, Tryd.ntmps73
  go_wp2_with fail
  refine C.out.mono ?_
  rintro e w1 ⟨rfl, n, rfl⟩
  go_wp2_with fail
  go_ret
  exact ⟨rfl, n, rfl⟩

end Go.Proofs.YtaloffdkadhhnaaDoor
