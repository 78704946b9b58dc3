/- The contracts of the document's lane, and of wakes. -/
import Derived.Test.YtbbndcfnpfedpaaSv
set_option linter.unusedVariables false
set_option linter.unusedSimpArgs false
namespace Go.Proofs.Ytbbndcfnpfedpaa
open Go.RowKit Go.Shelf Go.Maps

attribute [local go_sem] Oper.semAt_some

theorem ints_newS (w : World) (xs : List Int) (t : TypeId) : IntsAt (w.alloc (.cells (xs.map (Value.int .i64)).toArray t)) (some ⟨w.heap.size, 0, none⟩) xs := fun i v hv =>
  ⟨w.heap.size, 0, rfl, new_cell w (by rw [Nat.zero_add, List.getElem?_toArray, List.getElem?_map, hv]; rfl)⟩

set_option maxHeartbeats 1000000 in
theorem word_any (f b t l m : Int) (w : World) : Calls Try.prog 42 #[.int .i64 f, .int .i64 b, .int .i64 t, .int .i64 l, .int .i64 m] w fun e w' => e = .returned (.agg #[.int .i64 f, .int .i64 b, .int .i64 t, .int .i64 l, .int .i64 m]) ∧ Below w.heap.size w w' := by
  have R0 := Lib.hid (fun o => below_al w o)
  go_enter Try.func42, Try.ntmps42
  go_wp2_with fail
  go_returns
  exact ⟨rfl, R0.out _⟩

def nightW : List Wd := [⟨0, 0, 0, 3, 3⟩, ⟨0, 1, 0, 0, 2⟩, ⟨0, 0, 1, 2, 4⟩, ⟨1, 0, 1, 6, 6⟩, ⟨1, 0, 2, 0, 1⟩]
def nightL (a : Option Addr) (c : Nat) : Lan := ⟨2, a, c, nightW⟩
def NightR (w : World) (e : Ending) (w' : World) : Prop := ∃ a c, e = .returned (nightL a c).val ∧ WdsAt w' a nightW ∧ (∀ g o, a = some ⟨g, o, none⟩ → g < w'.heap.size) ∧ Below w.heap.size w w'

set_option maxHeartbeats 4000000 in
theorem night_any (w : World) : Calls Try.prog 41 #[] w (NightR w) := by
  have WO := Lib.hid (fun f b t l m W => word_any f b t l m W)
  have R0 := Lib.hid (below_al w (.cells #[.int .i64 0, .slice none 0 0] 32))
  have T0 := Lib.hid (Blk.new w #[.int .i64 0, .slice none 0 0] 32)
  have NW := Lib.hid (fun W => wds_new W nightW 70)
  have HC : Hid (wdCells nightW = [.int .i64 0, .int .i64 0, .int .i64 0, .int .i64 3, .int .i64 3, .int .i64 0, .int .i64 1, .int .i64 0, .int .i64 0, .int .i64 2, .int .i64 0, .int .i64 0, .int .i64 1, .int .i64 2, .int .i64 4, .int .i64 1, .int .i64 0, .int .i64 1, .int .i64 6, .int .i64 6, .int .i64 1, .int .i64 0, .int .i64 2, .int .i64 0, .int .i64 1]) := Lib.hid rfl
  rw [HC.out] at NW
  go_enter Try.func41, Try.ntmps41
  go_wp2_with fail
  generalize w.alloc _ = W0 at R0 T0 ⊢
  refine (WO.out _ _ _ _ _ _).mono ?_
  rintro e w1 ⟨rfl, h1⟩
  have R1 := Lib.hid (below_go R0.out h1)
  have T1 := Lib.hid (Blk.alt (p := fun _ => False) T0.out (Alt.of_below h1 (fun k hk e => by omega)) id)
  clear h1 R0 T0
  go_wp2_with fail
  refine (WO.out _ _ _ _ _ _).mono ?_
  rintro e w2 ⟨rfl, h1⟩
  have R2 := Lib.hid (below_go R1.out h1)
  have T2 := Lib.hid (Blk.alt (p := fun _ => False) T1.out (Alt.of_below h1 (fun k hk e => by omega)) id)
  clear h1 R1 T1
  go_wp2_with fail
  refine (WO.out _ _ _ _ _ _).mono ?_
  rintro e w3 ⟨rfl, h1⟩
  have R3 := Lib.hid (below_go R2.out h1)
  have T3 := Lib.hid (Blk.alt (p := fun _ => False) T2.out (Alt.of_below h1 (fun k hk e => by omega)) id)
  clear h1 R2 T2
  go_wp2_with fail
  refine (WO.out _ _ _ _ _ _).mono ?_
  rintro e w4 ⟨rfl, h1⟩
  have R4 := Lib.hid (below_go R3.out h1)
  have T4 := Lib.hid (Blk.alt (p := fun _ => False) T3.out (Alt.of_below h1 (fun k hk e => by omega)) id)
  clear h1 R3 T3
  go_wp2_with fail
  refine (WO.out _ _ _ _ _ _).mono ?_
  rintro e w5 ⟨rfl, h1⟩
  have R5 := Lib.hid (below_go R4.out h1)
  have T5 := Lib.hid (Blk.alt (p := fun _ => False) T4.out (Alt.of_below h1 (fun k hk e => by omega)) id)
  clear h1 R4 T4
  have N5 := Lib.hid (NW.out w5)
  have T6 := Lib.hid (Blk.alt (p := fun _ => False) T5.out ((Alt.refl _ _).alloc (.cells #[.int .i64 0, .int .i64 0, .int .i64 0, .int .i64 3, .int .i64 3, .int .i64 0, .int .i64 1, .int .i64 0, .int .i64 0, .int .i64 2, .int .i64 0, .int .i64 0, .int .i64 1, .int .i64 2, .int .i64 4, .int .i64 1, .int .i64 0, .int .i64 1, .int .i64 6, .int .i64 6, .int .i64 1, .int .i64 0, .int .i64 2, .int .i64 0, .int .i64 1] 70)) id)
  have R6 := Lib.hid (below_al2 R5.out (.cells #[.int .i64 0, .int .i64 0, .int .i64 0, .int .i64 3, .int .i64 3, .int .i64 0, .int .i64 1, .int .i64 0, .int .i64 0, .int .i64 2, .int .i64 0, .int .i64 0, .int .i64 1, .int .i64 2, .int .i64 4, .int .i64 1, .int .i64 0, .int .i64 1, .int .i64 6, .int .i64 6, .int .i64 1, .int .i64 0, .int .i64 2, .int .i64 0, .int .i64 1] 70))
  have t0 := T6.out.cell 0 rfl
  have t1 := T6.out.cell 1 rfl
  have z0 := T6.out.fr 0
  have z1 := T6.out.fr 1
  have PT := Lib.hid (T6.out.put2 (.int .i64 2) (.slice (some ⟨w5.heap.size, 0, none⟩) 5 5))
  have LT := Lib.hid (show w.heap.size ≠ w5.heap.size by have := T5.out.lt; omega)
  have NE := LT.out
  have LT5 := Lib.hid T5.out.lt
  clear T5
  go_wp2_with fail
  have pt := PT.out
  clear t0 t1 z0 z1
  generalize World.setCell _ _ _ = X at pt ⊢
  have h0 := pt.1.cell 0 (show _ = some (Value.int .i64 2) from rfl)
  have h1 := pt.1.cell 1 (show _ = some (Value.slice (some ⟨w5.heap.size, 0, none⟩) 5 5) from rfl)
  have hN : NightR w (.returned (.agg #[.int .i64 2, .slice (some ⟨w5.heap.size, 0, none⟩) 5 5])) X := by
    refine ⟨some ⟨w5.heap.size, 0, none⟩, 5, rfl, N5.out.alt pt.2 (fun g o e => by cases e; exact fun e => LT.out e.symm), fun g o e => ?_, ?_⟩
    · cases e
      have h9 := pt.2.size
      simp at h9
      omega
    · exact ((Alt.of_below (p := fun k => w.heap.size ≤ k) R6.out (fun k hk e => e)).trans (pt.2.mono fun k _ e => by omega)).below (Nat.le_refl _) fun _ e => e
  exact bodyPost_ret (v := .agg #[.int .i64 2, .slice (some ⟨w5.heap.size, 0, none⟩) 5 5]) (by simp [results, Try.results41, go_sem, h0, h1]) rfl hN

theorem v_chk0 (a : Option Addr) (c : Nat) : chkE (nightL a c) [] = 0 := by kernel_rfl
theorem v_chk1 (a : Option Addr) (c : Nat) : chkE (nightL a c) [1] = 0 := by kernel_rfl
theorem v_exp0 (a : Option Addr) (c : Nat) : explB (nightL a c) [] = false := by kernel_rfl
theorem v_exp1 (a : Option Addr) (c : Nat) : explB (nightL a c) [1] = true := by kernel_rfl
theorem v_gof1 (a : Option Addr) (c : Nat) : gofE (nightL a c) [1] = 0 := by kernel_rfl
theorem v_rng1 (a : Option Addr) (c : Nat) : rngsL (nightL a c) [1] = [(3, 3), (0, 2), (0, 1), (0, 1)] := by kernel_rfl
theorem v_cnt1 (a : Option Addr) (c : Nat) : cntL (gofL (nightL a c) [1]) = (17, 20) := by kernel_rfl
theorem v_many1 (a : Option Addr) (c : Nat) : manyN (nightL a c) [1] = 9 := by kernel_rfl
theorem v_fault (a : Option Addr) (c : Nat) : faultW (nightL a c) = 0 := by kernel_rfl
theorem v_least (a : Option Addr) (c : Nat) : leastL (nightL a c) = [1] := by kernel_rfl

end Go.Proofs.Ytbbndcfnpfedpaa
