/- SeenNames: night's words, whole. -/
import Derived.Test.YtbbndcfnpfedpaaNa
import Derived.Test.YtbbndcfnpfedpaaYa
set_option linter.unusedVariables false
set_option linter.unusedSimpArgs false
namespace Go.Proofs.Ytbbndcfnpfedpaa
open Go.RowKit Go.Shelf Go.Maps

attribute [local go_sem] Oper.semAt_some

def nightC : Array Value := #[.int .i64 0, .int .i64 0, .int .i64 0, .int .i64 3, .int .i64 3, .int .i64 0, .int .i64 1, .int .i64 0, .int .i64 0, .int .i64 2, .int .i64 0, .int .i64 0, .int .i64 1, .int .i64 2, .int .i64 4, .int .i64 1, .int .i64 0, .int .i64 1, .int .i64 6, .int .i64 6, .int .i64 1, .int .i64 0, .int .i64 2, .int .i64 0, .int .i64 1]
def Night2 (w : World) (e : Ending) (w' : World) : Prop := ∃ g, e = .returned (.agg #[.int .i64 2, .slice (some ⟨g, 0, none⟩) 5 5]) ∧ Blk w' g nightC 70 ∧ w.heap.size ≤ g ∧ Below w.heap.size w w'

set_option maxHeartbeats 4000000 in
theorem night2_any (w : World) : Calls Try.prog 41 #[] w (Night2 w) := by
  have WO := Lib.hid (fun f b t l m W => word_any f b t l m W)
  have R0 := Lib.hid (below_al w (.cells #[.int .i64 0, .slice none 0 0] 32))
  have T0 := Lib.hid (Blk.new w #[.int .i64 0, .slice none 0 0] 32)
  have NW := Lib.hid (fun W => wds_new W nightW 70)
  have HC : Hid (wdCells nightW = [.int .i64 0, .int .i64 0, .int .i64 0, .int .i64 3, .int .i64 3, .int .i64 0, .int .i64 1, .int .i64 0, .int .i64 0, .int .i64 2, .int .i64 0, .int .i64 0, .int .i64 1, .int .i64 2, .int .i64 4, .int .i64 1, .int .i64 0, .int .i64 1, .int .i64 6, .int .i64 6, .int .i64 1, .int .i64 0, .int .i64 2, .int .i64 0, .int .i64 1]) := Lib.hid rfl
  rw [HC.out] at NW
  go_enter Try.func41, Try.ntmps41
  go_wp2_with fail
  generalize w.alloc _ = W0 at R0 T0 ⊢
  refine (WO.out _ _ _ _ _ _).mono ?_
  rintro e w1 ⟨rfl, h1⟩
  have R1 := Lib.hid (below_go R0.out h1)
  have T1 := Lib.hid (Blk.alt (p := fun _ => False) T0.out (Alt.of_below h1 (fun k hk e => by omega)) id)
  clear h1 R0 T0
  go_wp2_with fail
  refine (WO.out _ _ _ _ _ _).mono ?_
  rintro e w2 ⟨rfl, h1⟩
  have R2 := Lib.hid (below_go R1.out h1)
  have T2 := Lib.hid (Blk.alt (p := fun _ => False) T1.out (Alt.of_below h1 (fun k hk e => by omega)) id)
  clear h1 R1 T1
  go_wp2_with fail
  refine (WO.out _ _ _ _ _ _).mono ?_
  rintro e w3 ⟨rfl, h1⟩
  have R3 := Lib.hid (below_go R2.out h1)
  have T3 := Lib.hid (Blk.alt (p := fun _ => False) T2.out (Alt.of_below h1 (fun k hk e => by omega)) id)
  clear h1 R2 T2
  go_wp2_with fail
  refine (WO.out _ _ _ _ _ _).mono ?_
  rintro e w4 ⟨rfl, h1⟩
  have R4 := Lib.hid (below_go R3.out h1)
  have T4 := Lib.hid (Blk.alt (p := fun _ => False) T3.out (Alt.of_below h1 (fun k hk e => by omega)) id)
  clear h1 R3 T3
  go_wp2_with fail
  refine (WO.out _ _ _ _ _ _).mono ?_
  rintro e w5 ⟨rfl, h1⟩
  have R5 := Lib.hid (below_go R4.out h1)
  have T5 := Lib.hid (Blk.alt (p := fun _ => False) T4.out (Alt.of_below h1 (fun k hk e => by omega)) id)
  clear h1 R4 T4
  have N5 := Lib.hid (Blk.new w5 #[.int .i64 0, .int .i64 0, .int .i64 0, .int .i64 3, .int .i64 3, .int .i64 0, .int .i64 1, .int .i64 0, .int .i64 0, .int .i64 2, .int .i64 0, .int .i64 0, .int .i64 1, .int .i64 2, .int .i64 4, .int .i64 1, .int .i64 0, .int .i64 1, .int .i64 6, .int .i64 6, .int .i64 1, .int .i64 0, .int .i64 2, .int .i64 0, .int .i64 1] 70)
  have T6 := Lib.hid (Blk.alt (p := fun _ => False) T5.out ((Alt.refl _ _).alloc (.cells #[.int .i64 0, .int .i64 0, .int .i64 0, .int .i64 3, .int .i64 3, .int .i64 0, .int .i64 1, .int .i64 0, .int .i64 0, .int .i64 2, .int .i64 0, .int .i64 0, .int .i64 1, .int .i64 2, .int .i64 4, .int .i64 1, .int .i64 0, .int .i64 1, .int .i64 6, .int .i64 6, .int .i64 1, .int .i64 0, .int .i64 2, .int .i64 0, .int .i64 1] 70)) id)
  have R6 := Lib.hid (below_al2 R5.out (.cells #[.int .i64 0, .int .i64 0, .int .i64 0, .int .i64 3, .int .i64 3, .int .i64 0, .int .i64 1, .int .i64 0, .int .i64 0, .int .i64 2, .int .i64 0, .int .i64 0, .int .i64 1, .int .i64 2, .int .i64 4, .int .i64 1, .int .i64 0, .int .i64 1, .int .i64 6, .int .i64 6, .int .i64 1, .int .i64 0, .int .i64 2, .int .i64 0, .int .i64 1] 70))
  have t0 := T6.out.cell 0 rfl
  have t1 := T6.out.cell 1 rfl
  have z0 := T6.out.fr 0
  have z1 := T6.out.fr 1
  have PT := Lib.hid (T6.out.put2 (.int .i64 2) (.slice (some ⟨w5.heap.size, 0, none⟩) 5 5))
  have LT := Lib.hid (show w.heap.size ≠ w5.heap.size by have := T5.out.lt; omega)
  have NE := LT.out
  have LT5 := Lib.hid T5.out.lt
  clear T5
  go_wp2_with fail
  have pt := PT.out
  clear t0 t1 z0 z1
  generalize World.setCell _ _ _ = X at pt ⊢
  have h0 := pt.1.cell 0 (show _ = some (Value.int .i64 2) from rfl)
  have h1 := pt.1.cell 1 (show _ = some (Value.slice (some ⟨w5.heap.size, 0, none⟩) 5 5) from rfl)
  have hN : Night2 w (.returned (.agg #[.int .i64 2, .slice (some ⟨w5.heap.size, 0, none⟩) 5 5])) X := by
    refine ⟨w5.heap.size, rfl, Blk.alt (p := fun k => k = w.heap.size) N5.out pt.2 (fun e => LT.out e.symm), ?_, ?_⟩
    · have := LT5.out; omega
    · exact ((Alt.of_below (p := fun k => w.heap.size ≤ k) R6.out (fun k hk e => e)).trans (pt.2.mono fun k _ e => by omega)).below (Nat.le_refl _) fun _ e => e
  exact bodyPost_ret (v := .agg #[.int .i64 2, .slice (some ⟨w5.heap.size, 0, none⟩) 5 5]) (by simp [results, Try.results41, go_sem, h0, h1]) rfl hN


theorem wds_blk {W : World} {g : Nat} {cs : Array Value} {L : List Wd} (h : Blk W g cs 70) (hc : cs.toList = wdCells L) : WdsAt W (some ⟨g, 0, none⟩) L := by
  intro i l hi
  obtain ⟨k1, k2, k3, k4, k5⟩ := wdCells_at L i l hi
  have hk : ∀ j u, (wdCells L)[j]? = some u → W.cell? ⟨g, j, none⟩ = some u := fun j u hj => h.cell j (by rw [← hc] at hj; simpa using hj)
  exact ⟨g, 0, rfl, by rw [Nat.zero_add]; exact hk _ _ k1, by rw [Nat.zero_add]; exact hk _ _ k2, by rw [Nat.zero_add]; exact hk _ _ k3, by rw [Nat.zero_add]; exact hk _ _ k4, by rw [Nat.zero_add]; exact hk _ _ k5⟩

end Go.Proofs.Ytbbndcfnpfedpaa
