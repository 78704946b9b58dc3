/- The contracts of ten, all, thrown. -/
import Derived.Test.YtaloffdkadhhnaaDoorVa
set_option linter.unusedVariables false
set_option linter.unusedSimpArgs false
namespace Go.Proofs.YtaloffdkadhhnaaDoor
open Go.RowKit Go.Shelf

attribute [local go_sem] Oper.semAt_some

theorem ints_new (w : World) (xs : List Int) : IntsAt (w.alloc (.cells (xs.map (Value.int .i64)).toArray 3)) (some ⟨w.heap.size, 0, none⟩) xs := fun i v hv =>
  ⟨w.heap.size, 0, rfl, new_cell w (by rw [Nat.zero_add, List.getElem?_toArray, List.getElem?_map, hv]; rfl)⟩
def rgCells (L : List Rg) : List Value := L.flatMap fun b => [.int .i64 b.lo, .int .i64 b.hi]
theorem rgCells_at : ∀ (L : List Rg) (i : Nat) (b : Rg), L[i]? = some b → (rgCells L)[i * 2]? = some (.int .i64 b.lo) ∧ (rgCells L)[i * 2 + 1]? = some (.int .i64 b.hi)
  | x :: L, 0, b, h => by simp at h; subst h; exact ⟨rfl, rfl⟩
  | x :: L, i + 1, b, h => by
    have := rgCells_at L i b (by simpa using h)
    have e : rgCells (x :: L) = .int .i64 x.lo :: .int .i64 x.hi :: rgCells L := rfl
    rw [e, show (i + 1) * 2 = i * 2 + 1 + 1 by omega]
    exact this
theorem rgs_new (w : World) (L : List Rg) : RgsAt (w.alloc (.cells (rgCells L).toArray 63)) (some ⟨w.heap.size, 0, none⟩) L := fun i b hb =>
  ⟨w.heap.size, 0, rfl, new_cell w (by rw [Nat.zero_add, List.getElem?_toArray]; exact (rgCells_at L i b hb).1), new_cell w (by rw [Nat.zero_add, List.getElem?_toArray]; exact (rgCells_at L i b hb).2)⟩
def lkCells (L : List Lk) : List Value := L.flatMap fun l => [.int .i64 l.fr, .int .i64 l.to, .bool l.sr]
theorem lkCells_at : ∀ (L : List Lk) (i : Nat) (b : Lk), L[i]? = some b → (lkCells L)[i * 3]? = some (.int .i64 b.fr) ∧ (lkCells L)[i * 3 + 1]? = some (.int .i64 b.to) ∧ (lkCells L)[i * 3 + 2]? = some (.bool b.sr)
  | x :: L, 0, b, h => by simp at h; subst h; exact ⟨rfl, rfl, rfl⟩
  | x :: L, i + 1, b, h => by
    have := lkCells_at L i b (by simpa using h)
    have e : lkCells (x :: L) = .int .i64 x.fr :: .int .i64 x.to :: .bool x.sr :: lkCells L := rfl
    rw [e, show (i + 1) * 3 = i * 3 + 1 + 1 + 1 by omega]
    exact this
theorem links_new (w : World) (L : List Lk) : LinksAt (w.alloc (.cells (lkCells L).toArray 86)) (some ⟨w.heap.size, 0, none⟩) L := fun i b hb =>
  ⟨w.heap.size, 0, rfl, new_cell w (by rw [Nat.zero_add, List.getElem?_toArray]; exact (lkCells_at L i b hb).1), new_cell w (by rw [Nat.zero_add, List.getElem?_toArray]; exact (lkCells_at L i b hb).2.1), new_cell w (by rw [Nat.zero_add, List.getElem?_toArray]; exact (lkCells_at L i b hb).2.2)⟩

set_option maxRecDepth 100000 in
set_option maxHeartbeats 2000000 in
theorem ten_any (w : World) :
    Calls Tryd.prog 45 #[] w fun e w' => ∃ g c, e = .returned (tenR (some ⟨g, 0, none⟩) c).val ∧ LinksAt w' (some ⟨g, 0, none⟩) (tenR (some ⟨g, 0, none⟩) c).ls ∧ g < w'.heap.size ∧ Below w.heap.size w w' := by
  go_enter Tryd.func45, Tryd.ntmps45
  go_wp2_with fail
  have hz : (w.alloc (.cells #[.int .i64 4, .int .i64 20, .int .i64 3, .int .i64 2, .slice (some ⟨w.heap.size + 1, 0, none⟩) 3 3] 32)).heap.size = w.heap.size + 1 := by simp
  have K := Blk.new w #[.int .i64 4, .int .i64 20, .int .i64 3, .int .i64 2, .slice (some ⟨w.heap.size + 1, 0, none⟩) 3 3] 32
  have B1 := below_al w (.cells #[.int .i64 4, .int .i64 20, .int .i64 3, .int .i64 2, .slice (some ⟨w.heap.size + 1, 0, none⟩) 3 3] 32)
  generalize w.alloc _ = W at *
  have L := links_new W [⟨0, 1, true⟩, ⟨1, 3, false⟩, ⟨3, 6, true⟩]
  have B2 := below_go B1 (below_al W (.cells (lkCells [⟨0, 1, true⟩, ⟨1, 3, false⟩, ⟨3, 6, true⟩]).toArray 86))
  have K2 := Blk.alt (p := fun _ => False) K ((Alt.refl _ W).alloc (.cells (lkCells [⟨0, 1, true⟩, ⟨1, 3, false⟩, ⟨3, 6, true⟩]).toArray 86)) id
  have z2 : w.heap.size + 1 < (W.alloc (.cells (lkCells [⟨0, 1, true⟩, ⟨1, 3, false⟩, ⟨3, 6, true⟩]).toArray 86)).heap.size := by rw [World.size_alloc, hz]; omega
  rw [hz] at L
  change bodyPost _ _ _ _ _ (W.alloc (.cells (lkCells [⟨0, 1, true⟩, ⟨1, 3, false⟩, ⟨3, 6, true⟩]).toArray 86))
  generalize W.alloc _ = X at *
  have h0 := K2.cell 0 (show _ = some (Value.int .i64 4) from rfl)
  have h1 := K2.cell 1 (show _ = some (Value.int .i64 20) from rfl)
  have h2 := K2.cell 2 (show _ = some (Value.int .i64 3) from rfl)
  have h3 := K2.cell 3 (show _ = some (Value.int .i64 2) from rfl)
  have h4 := K2.cell 4 (show _ = some (Value.slice (some ⟨w.heap.size + 1, 0, none⟩) 3 3) from rfl)
  refine bodyPost_ret (v := .agg #[.int .i64 4, .int .i64 20, .int .i64 3, .int .i64 2, .slice (some ⟨w.heap.size + 1, 0, none⟩) 3 3]) (by simp [results, Tryd.results45, go_sem, h0, h1, h2, h3, h4]) rfl ?_
  exact ⟨w.heap.size + 1, 3, rfl, L, z2, B2⟩

set_option maxRecDepth 100000 in
set_option maxHeartbeats 2000000 in
theorem all_any (w : World) :
    Calls Tryd.prog 46 #[] w fun e w' => ∃ g c, e = .returned (.slice (some ⟨g, 0, none⟩) allL.length c) ∧ IntsAt w' (some ⟨g, 0, none⟩) allL ∧ g < w'.heap.size ∧ Below w.heap.size w w' := by
  go_enter Tryd.func46, Tryd.ntmps46
  go_wp2_with fail
  refine bodyPost_ret (results_tmp rfl _ _ _) rfl ⟨w.heap.size, 10, rfl, ints_new w allL, by simp, below_al w _⟩

set_option maxRecDepth 100000 in
set_option maxHeartbeats 2000000 in
theorem thrown_any (w : World) :
    Calls Tryd.prog 47 #[] w fun e w' => ∃ g c, e = .returned (.slice (some ⟨g, 0, none⟩) thrownL.length c) ∧ RgsAt w' (some ⟨g, 0, none⟩) thrownL ∧ g < w'.heap.size ∧ Below w.heap.size w w' := by
  go_enter Tryd.func47, Tryd.ntmps47
  go_wp2_with fail
  refine bodyPost_ret (results_tmp rfl _ _ _) rfl ⟨w.heap.size, 4, rfl, rgs_new w thrownL, by simp, below_al w _⟩

end Go.Proofs.YtaloffdkadhhnaaDoor
