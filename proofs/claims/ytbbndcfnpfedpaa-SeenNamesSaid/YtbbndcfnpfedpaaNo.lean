/- SeenNames: rows, and words that are changed. -/
import Derived.Test.YtbbndcfnpfedpaaNd
set_option linter.unusedVariables false
set_option linter.unusedSimpArgs false
namespace Go.Proofs.Ytbbndcfnpfedpaa
open Go.RowKit Go.Shelf Go.Maps

theorem ints_at {W : World} {g : Nat} {xs : List Int} {cs : Array Value} (h : Blk W g cs 3) (hc : cs.toList = xs.map (Value.int .i64)) : IntsAt W (some ⟨g, 0, none⟩) xs := by
  intro i v hi
  have hk : cs[i]? = some (.int .i64 v) := by
    have : (xs.map (Value.int .i64))[i]? = some (.int .i64 v) := by rw [List.getElem?_map, hi]; rfl
    rw [← hc] at this; simpa using this
  exact ⟨g, 0, rfl, by rw [Nat.zero_add]; exact h.cell i hk⟩
theorem rows_two {W : World} {r g1 g2 : Nat} {x1 x2 : List Int} {c1 c2 : Nat} {cs1 cs2 : Array Value} (hr : Blk W r #[.slice (some ⟨g1, 0, none⟩) x1.length c1, .slice (some ⟨g2, 0, none⟩) x2.length c2] 25) (h1 : Blk W g1 cs1 3) (h2 : Blk W g2 cs2 3) (e1 : cs1.toList = x1.map (Value.int .i64)) (e2 : cs2.toList = x2.map (Value.int .i64)) : GAt W (some ⟨r, 0, none⟩) [x1, x2] := by
  intro i row hi
  match i, hi with
  | 0, hi => cases hi; exact ⟨r, 0, _, c1, rfl, hr.cell 0 rfl, ints_at h1 e1⟩
  | 1, hi => cases hi; exact ⟨r, 0, _, c2, rfl, hr.cell 1 rfl, ints_at h2 e2⟩
theorem odd_at {W : World} {g : Nat} (h : Blk W g nightC 70) : Blk (W.setCell ⟨g, 4, none⟩ (.int .i64 11)) g (nightC.setIfInBounds 4 (.int .i64 11)) 70 ∧ WdsAt (W.setCell ⟨g, 4, none⟩ (.int .i64 11)) (some ⟨g, 0, none⟩) oddW :=
  ⟨h.setAt 4 _, wds_blk (h.setAt 4 (.int .i64 11)) rfl⟩
theorem far_at {W : World} {g : Nat} (h : Blk W g nightC 70) : Blk (W.setCell ⟨g, 0, none⟩ (.int .i64 2)) g (nightC.setIfInBounds 0 (.int .i64 2)) 70 ∧ WdsAt (W.setCell ⟨g, 0, none⟩ (.int .i64 2)) (some ⟨g, 0, none⟩) farW :=
  ⟨h.setAt 0 _, wds_blk (h.setAt 0 (.int .i64 2)) rfl⟩
theorem many_at {W : World} {g : Nat} (h : Blk W g (Array.replicate 155 (.int .i64 0)) 70) : WdsAt W (some ⟨g, 0, none⟩) manyW := wds_blk h (by kernel_rfl)
theorem Blk.nw3 (W : World) (o o2 o3 : Obj) (cs : Array Value) (t : TypeId) : Blk ((((W.alloc o).alloc o2).alloc o3).alloc (.cells cs t)) (W.heap.size + 3) cs t := by
  have := Blk.new (((W.alloc o).alloc o2).alloc o3) cs t
  rwa [World.size_alloc, World.size_alloc, World.size_alloc] at this
theorem pg1 (a : Option Addr) (c : Nat) (W : World) (hL : WdsAt W a nightW) (hg : ∀ g o, a = some ⟨g, o, none⟩ → g < W.heap.size) : Calls Try.prog 39 #[.agg #[.int .i64 2, .slice a 5 c], .slice (some ⟨W.heap.size, 0, none⟩) 1 1, .slice (some ⟨W.heap.size + 3, 0, none⟩) 2 2] ((((W.alloc (.cells #[.int .i64 1] 3)).alloc (.cells #[.int .i64 7, .int .i64 1] 3)).alloc (.cells #[.int .i64 10] 3)).alloc (.cells #[.slice (some ⟨W.heap.size + 1, 0, none⟩) 2 2, .slice (some ⟨W.heap.size + 2, 0, none⟩) 1 1] 25)) fun e w' => e = .returned (.bool true) ∧ Below W.heap.size W w' := by
  have BA : Below W.heap.size W ((((W.alloc (.cells #[.int .i64 1] 3)).alloc (.cells #[.int .i64 7, .int .i64 1] 3)).alloc (.cells #[.int .i64 10] 3)).alloc (.cells #[.slice (some ⟨W.heap.size + 1, 0, none⟩) 2 2, .slice (some ⟨W.heap.size + 2, 0, none⟩) 1 1] 25)) := below_al2 (below_al2 (below_al2 (below_al W _) _) _) _
  refine (nc_pr1 a c W.heap.size (W.heap.size + 3) _ (hL.lo BA) (fun g o e => Nat.lt_of_lt_of_le (hg g o e) BA.size) (ints_at (Blk.al (Blk.al (Blk.al (Blk.new W _ _) _) _) _) rfl) (rows_two (x1 := [7, 1]) (x2 := [10]) (Blk.nw3 W _ _ _ _ _) (Blk.al (Blk.al (Blk.nw1 W _ _ _) _) _) (Blk.al (Blk.nw2 W _ _ _ _) _) rfl rfl)).mono ?_
  rintro e w' ⟨h, hb⟩
  exact ⟨h, below_go BA hb⟩
theorem pg2 (a : Option Addr) (c : Nat) (W : World) (hL : WdsAt W a nightW) (hg : ∀ g o, a = some ⟨g, o, none⟩ → g < W.heap.size) : Calls Try.prog 39 #[.agg #[.int .i64 2, .slice a 5 c], .slice (some ⟨W.heap.size, 0, none⟩) 1 1, .slice (some ⟨W.heap.size + 3, 0, none⟩) 2 2] ((((W.alloc (.cells #[.int .i64 1] 3)).alloc (.cells #[.int .i64 7, .int .i64 0] 3)).alloc (.cells #[.int .i64 10] 3)).alloc (.cells #[.slice (some ⟨W.heap.size + 1, 0, none⟩) 2 2, .slice (some ⟨W.heap.size + 2, 0, none⟩) 1 1] 25)) fun e w' => e = .returned (.bool false) ∧ Below W.heap.size W w' := by
  have BA : Below W.heap.size W ((((W.alloc (.cells #[.int .i64 1] 3)).alloc (.cells #[.int .i64 7, .int .i64 0] 3)).alloc (.cells #[.int .i64 10] 3)).alloc (.cells #[.slice (some ⟨W.heap.size + 1, 0, none⟩) 2 2, .slice (some ⟨W.heap.size + 2, 0, none⟩) 1 1] 25)) := below_al2 (below_al2 (below_al2 (below_al W _) _) _) _
  refine (nc_pr2 a c W.heap.size (W.heap.size + 3) _ (hL.lo BA) (fun g o e => Nat.lt_of_lt_of_le (hg g o e) BA.size) (ints_at (Blk.al (Blk.al (Blk.al (Blk.new W _ _) _) _) _) rfl) (rows_two (x1 := [7, 0]) (x2 := [10]) (Blk.nw3 W _ _ _ _ _) (Blk.al (Blk.al (Blk.nw1 W _ _ _) _) _) (Blk.al (Blk.nw2 W _ _ _ _) _) rfl rfl)).mono ?_
  rintro e w' ⟨h, hb⟩
  exact ⟨h, below_go BA hb⟩
theorem pg3 (a : Option Addr) (c : Nat) (W : World) (hL : WdsAt W a nightW) (hg : ∀ g o, a = some ⟨g, o, none⟩ → g < W.heap.size) : Calls Try.prog 39 #[.agg #[.int .i64 2, .slice a 5 c], .slice (some ⟨W.heap.size, 0, none⟩) 1 1, .slice (some ⟨W.heap.size + 3, 0, none⟩) 2 2] ((((W.alloc (.cells #[.int .i64 1] 3)).alloc (.cells #[.int .i64 7, .int .i64 1] 3)).alloc (.cells #[.int .i64 10, .int .i64 0] 3)).alloc (.cells #[.slice (some ⟨W.heap.size + 1, 0, none⟩) 2 2, .slice (some ⟨W.heap.size + 2, 0, none⟩) 2 2] 25)) fun e w' => e = .returned (.bool false) ∧ Below W.heap.size W w' := by
  have BA : Below W.heap.size W ((((W.alloc (.cells #[.int .i64 1] 3)).alloc (.cells #[.int .i64 7, .int .i64 1] 3)).alloc (.cells #[.int .i64 10, .int .i64 0] 3)).alloc (.cells #[.slice (some ⟨W.heap.size + 1, 0, none⟩) 2 2, .slice (some ⟨W.heap.size + 2, 0, none⟩) 2 2] 25)) := below_al2 (below_al2 (below_al2 (below_al W _) _) _) _
  refine (nc_pr3 a c W.heap.size (W.heap.size + 3) _ (hL.lo BA) (fun g o e => Nat.lt_of_lt_of_le (hg g o e) BA.size) (ints_at (Blk.al (Blk.al (Blk.al (Blk.new W _ _) _) _) _) rfl) (rows_two (x1 := [7, 1]) (x2 := [10, 0]) (Blk.nw3 W _ _ _ _ _) (Blk.al (Blk.al (Blk.nw1 W _ _ _) _) _) (Blk.al (Blk.nw2 W _ _ _ _) _) rfl rfl)).mono ?_
  rintro e w' ⟨h, hb⟩
  exact ⟨h, below_go BA hb⟩
theorem pg4 (a : Option Addr) (c : Nat) (W : World) (hL : WdsAt W a nightW) (hg : ∀ g o, a = some ⟨g, o, none⟩ → g < W.heap.size) : Calls Try.prog 39 #[.agg #[.int .i64 2, .slice a 5 c], .slice none 0 0, .slice (some ⟨W.heap.size + 2, 0, none⟩) 2 2] (((W.alloc (.cells #[.int .i64 7, .int .i64 1] 3)).alloc (.cells #[.int .i64 10] 3)).alloc (.cells #[.slice (some ⟨W.heap.size, 0, none⟩) 2 2, .slice (some ⟨W.heap.size + 1, 0, none⟩) 1 1] 25)) fun e w' => e = .returned (.bool false) ∧ Below W.heap.size W w' := by
  have BA : Below W.heap.size W (((W.alloc (.cells #[.int .i64 7, .int .i64 1] 3)).alloc (.cells #[.int .i64 10] 3)).alloc (.cells #[.slice (some ⟨W.heap.size, 0, none⟩) 2 2, .slice (some ⟨W.heap.size + 1, 0, none⟩) 1 1] 25)) := below_al2 (below_al2 (below_al W _) _) _
  refine (nc_pr4 a c (W.heap.size + 2) _ (hL.lo BA) (fun g o e => Nat.lt_of_lt_of_le (hg g o e) BA.size) (rows_two (x1 := [7, 1]) (x2 := [10]) (Blk.nw2 W _ _ _ _) (Blk.al (Blk.al (Blk.new W _ _) _) _) (Blk.al (Blk.nw1 W _ _ _) _) rfl rfl)).mono ?_
  rintro e w' ⟨h, hb⟩
  exact ⟨h, below_go BA hb⟩
end Go.Proofs.Ytbbndcfnpfedpaa
