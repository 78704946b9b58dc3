/- What RackNames calls: ten, all and thrown with their memory; the values of its calls. -/
import Derived.Test.YtaloffdkadhhnaaDoorGh
import Derived.Test.YtaloffdkadhhnaaDoorCl
import Derived.Test.YtaloffdkadhhnaaDoorGk
import Derived.Test.YtaloffdkadhhnaaDoorGj
set_option linter.unusedVariables false
set_option linter.unusedSimpArgs false
namespace Go.Proofs.YtaloffdkadhhnaaDoor
open Go.RowKit Go.Shelf

attribute [local go_sem] Oper.semAt_some

def tenLs : List Lk := [⟨0, 1, true⟩, ⟨1, 3, false⟩, ⟨3, 6, true⟩]
theorem links_blk {W : World} {g : Nat} {L : List Lk} (h : Blk W g (lkCells L).toArray 86) : LinksAt W (some ⟨g, 0, none⟩) L := fun i b hb =>
  ⟨g, 0, rfl, h.cell _ (by rw [Nat.zero_add, List.getElem?_toArray]; exact (lkCells_at L i b hb).1), h.cell _ (by rw [Nat.zero_add, List.getElem?_toArray]; exact (lkCells_at L i b hb).2.1), h.cell _ (by rw [Nat.zero_add, List.getElem?_toArray]; exact (lkCells_at L i b hb).2.2)⟩
def bCells (L : List Bool) : List Value := L.map Value.bool
theorem bools_new (w : World) (xs : List Bool) : BoolsAt (w.alloc (.cells (xs.map Value.bool).toArray 4)) (some ⟨w.heap.size, 0, none⟩) xs := fun i v hv =>
  ⟨w.heap.size, 0, rfl, new_cell w (by rw [Nat.zero_add, List.getElem?_toArray, List.getElem?_map, hv]; rfl)⟩

set_option maxRecDepth 100000 in
set_option maxHeartbeats 2000000 in
theorem ten3_any (w : World) :
    Calls Tryd.prog 45 #[] w fun e w' => ∃ g, e = .returned (.agg #[.int .i64 4, .int .i64 20, .int .i64 3, .int .i64 2, .slice (some ⟨g, 0, none⟩) 3 3]) ∧ Blk w' g (lkCells tenLs).toArray 86 ∧ w.heap.size ≤ g ∧ Below w.heap.size w w' := by
  go_enter Tryd.func45, Tryd.ntmps45
  go_wp2_with fail
  have hz : (w.alloc (.cells #[.int .i64 4, .int .i64 20, .int .i64 3, .int .i64 2, .slice (some ⟨w.heap.size + 1, 0, none⟩) 3 3] 32)).heap.size = w.heap.size + 1 := by simp
  have K := Blk.new w #[.int .i64 4, .int .i64 20, .int .i64 3, .int .i64 2, .slice (some ⟨w.heap.size + 1, 0, none⟩) 3 3] 32
  have B1 := below_al w (.cells #[.int .i64 4, .int .i64 20, .int .i64 3, .int .i64 2, .slice (some ⟨w.heap.size + 1, 0, none⟩) 3 3] 32)
  generalize w.alloc _ = W at *
  have L := Blk.new W (lkCells tenLs).toArray 86
  have B2 := below_go B1 (below_al W (.cells (lkCells tenLs).toArray 86))
  have K2 := Blk.alt (p := fun _ => False) K ((Alt.refl _ W).alloc (.cells (lkCells tenLs).toArray 86)) id
  rw [hz] at L
  change bodyPost _ _ _ _ _ (W.alloc (.cells (lkCells tenLs).toArray 86))
  generalize W.alloc _ = X at *
  have h0 := K2.cell 0 (show _ = some (Value.int .i64 4) from rfl)
  have h1 := K2.cell 1 (show _ = some (Value.int .i64 20) from rfl)
  have h2 := K2.cell 2 (show _ = some (Value.int .i64 3) from rfl)
  have h3 := K2.cell 3 (show _ = some (Value.int .i64 2) from rfl)
  have h4 := K2.cell 4 (show _ = some (Value.slice (some ⟨w.heap.size + 1, 0, none⟩) 3 3) from rfl)
  refine bodyPost_ret (v := .agg #[.int .i64 4, .int .i64 20, .int .i64 3, .int .i64 2, .slice (some ⟨w.heap.size + 1, 0, none⟩) 3 3]) (by simp [results, Tryd.results45, go_sem, h0, h1, h2, h3, h4]) rfl ?_
  exact ⟨w.heap.size + 1, rfl, L, by omega, B2⟩

set_option maxRecDepth 100000 in
set_option maxHeartbeats 2000000 in
theorem thrown3_any (w : World) :
    Calls Tryd.prog 47 #[] w fun e w' => ∃ g, e = .returned (.slice (some ⟨g, 0, none⟩) 4 4) ∧ RgsAt w' (some ⟨g, 0, none⟩) thrownL ∧ g < w'.heap.size ∧ Below w.heap.size w w' := by
  go_enter Tryd.func47, Tryd.ntmps47
  go_wp2_with fail
  refine bodyPost_ret (results_tmp rfl _ _ _) rfl ⟨w.heap.size, rfl, rgs_new w thrownL, by simp, below_al w _⟩

/-- Racks of the statement. -/
def rkL (a : Option Addr) (c : Nat) (L : List Lk) : Rk := ⟨4, 20, 3, 2, a, c, L⟩
def loopLs : List Lk := [⟨0, 1, true⟩, ⟨1, 1, false⟩, ⟨3, 6, true⟩]
def freeLs : List Lk := [⟨0, 1, true⟩, ⟨1, 3, false⟩, ⟨3, 10, true⟩]
def manyLs : List Lk := List.replicate 7 ⟨0, 0, false⟩
set_option maxRecDepth 100000
theorem n_kind1 (a : Option Addr) (c : Nat) : (kndN (rkL a c tenLs) [3, 6], chkE (rkL a c tenLs) [3, 6]) = (2, 0) := by kernel_rfl
theorem n_kind2 (a : Option Addr) (c : Nat) : (kndN (rkL a c tenLs) [0, 6], chkE (rkL a c tenLs) [0, 6]) = (4, 0) := by kernel_rfl
theorem n_kind3 (a : Option Addr) (c : Nat) : (kndN (rkL a c tenLs) [6, 6], chkE (rkL a c tenLs) [6, 6]) = (0, 2) := by kernel_rfl
theorem n_hit1 (a : Option Addr) (c : Nat) : (hitL (rkL a c tenLs) allL thrownL [21, 22, 23, 24] [true, true, true], hitE (rkL a c tenLs) allL thrownL [21, 22, 23, 24] [true, true, true]) = ([4, 5, 7, 9], 0) := by kernel_rfl
theorem n_hit2 (a : Option Addr) (c : Nat) : (hitL (rkL a c tenLs) allL thrownL [21, 22, 23, 24] [false, true, true], hitE (rkL a c tenLs) allL thrownL [21, 22, 23, 24] [false, true, true]) = ([], 2) := by kernel_rfl
theorem n_hit3 (a : Option Addr) (c : Nat) : (hitL (rkL a c tenLs) allL thrownL [21, 22, 25, 24] [true, true, true], hitE (rkL a c tenLs) allL thrownL [21, 22, 25, 24] [true, true, true]) = ([], 2) := by kernel_rfl
theorem n_cvt1 (a : Option Addr) (c : Nat) : cvtR (rkL a c tenLs) [1, 3, 6] true = (⟨12, 3⟩, 0) := by kernel_rfl
theorem n_cvt2 (a : Option Addr) (c : Nat) : cvtR (rkL a c tenLs) [6, 9] true = (⟨0, 0⟩, 9) := by kernel_rfl
theorem n_cvt3 (a : Option Addr) (c : Nat) : cvtR (rkL a c tenLs) [] false = (⟨0, -3⟩, 0) := by kernel_rfl
theorem n_can1 (a : Option Addr) (c : Nat) : canB (rkL a c tenLs) allL thrownL [4, 7, 9] = true := by kernel_rfl
theorem n_can2 (a : Option Addr) (c : Nat) : canB (rkL a c tenLs) allL thrownL [7, 9] = false := by kernel_rfl
theorem n_prv1 (a : Option Addr) (c : Nat) : prvB (rkL a c tenLs) [1, 3, 6] ⟨14, 1⟩ = true := by kernel_rfl
theorem n_prv2 (a : Option Addr) (c : Nat) : prvB (rkL a c tenLs) [1, 3, 6] ⟨12, 3⟩ = false := by kernel_rfl
theorem n_bal1 (a : Option Addr) (c : Nat) : balE (rkL a c tenLs) [10] thrownL = 2 := by kernel_rfl
theorem n_bal2 (a : Option Addr) (c : Nat) : (lefV (rkL a c tenLs) allL (thrownL.take 3), balE (rkL a c tenLs) allL (thrownL.take 3)) = (⟨0, 0⟩, 2) := by kernel_rfl
theorem n_many (a : Option Addr) (c : Nat) : faultN (rkL a c manyLs) = 3 := by kernel_rfl
theorem n_loop (a : Option Addr) (c : Nat) : faultN (rkL a c loopLs) = 1 := by kernel_rfl
theorem n_free (a : Option Addr) (c : Nat) : faultN (rkL a c freeLs) = 1 := by kernel_rfl
theorem n_none : faultN ⟨0, 0, 0, 0, none, 0, []⟩ = 1 := by kernel_rfl
theorem n_cen : (cenV ⟨2, 0, 1, 0, none, 0, []⟩, faultN ⟨2, 0, 1, 0, none, 0, []⟩) = (.agg #[.int .i64 1, .int .i64 3, .int .i64 4, .int .i64 0, .int .i64 0], 0) := by kernel_rfl
/- wrappers -/
theorem c_kind1 (g x : Nat) (W : World) (hT : TabOK W) (hK : Blk W g (lkCells tenLs).toArray 86) (hX : IntsAt W (some ⟨x, 0, none⟩) [3, 6]) :
    Calls Tryd.prog 19 #[.agg #[.int .i64 4, .int .i64 20, .int .i64 3, .int .i64 2, .slice (some ⟨g, 0, none⟩) 3 3], .slice (some ⟨x, 0, none⟩) 2 2] W fun e w' => e = .returned (.tuple #[.int .u8 2, .int .i64 0]) ∧ Below W.heap.size W w' := by
  have K := Kind_any (rkL (some ⟨g, 0, none⟩) 3 tenLs) [3, 6] (some ⟨x, 0, none⟩) 2 W (links_blk hK) (Nat.le_of_ble_eq_true rfl) hX (Nat.le_of_ble_eq_true rfl) hT
  have e := Prod.mk.inj (n_kind1 (some ⟨g, 0, none⟩) 3)
  rw [e.1, e.2] at K
  exact K
theorem c_kind2 (g x : Nat) (W : World) (hT : TabOK W) (hK : Blk W g (lkCells tenLs).toArray 86) (hX : IntsAt W (some ⟨x, 0, none⟩) [0, 6]) :
    Calls Tryd.prog 19 #[.agg #[.int .i64 4, .int .i64 20, .int .i64 3, .int .i64 2, .slice (some ⟨g, 0, none⟩) 3 3], .slice (some ⟨x, 0, none⟩) 2 2] W fun e w' => e = .returned (.tuple #[.int .u8 4, .int .i64 0]) ∧ Below W.heap.size W w' := by
  have K := Kind_any (rkL (some ⟨g, 0, none⟩) 3 tenLs) [0, 6] (some ⟨x, 0, none⟩) 2 W (links_blk hK) (Nat.le_of_ble_eq_true rfl) hX (Nat.le_of_ble_eq_true rfl) hT
  have e := Prod.mk.inj (n_kind2 (some ⟨g, 0, none⟩) 3)
  rw [e.1, e.2] at K
  exact K
theorem c_kind3 (g x : Nat) (W : World) (hT : TabOK W) (hK : Blk W g (lkCells tenLs).toArray 86) (hX : IntsAt W (some ⟨x, 0, none⟩) [6, 6]) :
    Calls Tryd.prog 19 #[.agg #[.int .i64 4, .int .i64 20, .int .i64 3, .int .i64 2, .slice (some ⟨g, 0, none⟩) 3 3], .slice (some ⟨x, 0, none⟩) 2 2] W fun e w' => e = .returned (.tuple #[.int .u8 0, .int .i64 2]) ∧ Below W.heap.size W w' := by
  have K := Kind_any (rkL (some ⟨g, 0, none⟩) 3 tenLs) [6, 6] (some ⟨x, 0, none⟩) 2 W (links_blk hK) (Nat.le_of_ble_eq_true rfl) hX (Nat.le_of_ble_eq_true rfl) hT
  have e := Prod.mk.inj (n_kind3 (some ⟨g, 0, none⟩) 3)
  rw [e.1, e.2] at K
  exact K
theorem c_hit1 (g x y b d cx : Nat) (W : World) (hT : TabOK W) (hK : Blk W g (lkCells tenLs).toArray 86) (hX : IntsAt W (some ⟨x, 0, none⟩) allL) (hG : RgsAt W (some ⟨y, 0, none⟩) thrownL) (hB : IntsAt W (some ⟨b, 0, none⟩) [21, 22, 23, 24]) (hC : BoolsAt W (some ⟨d, 0, none⟩) [true, true, true]) :
    Calls Tryd.prog 27 #[.agg #[.int .i64 4, .int .i64 20, .int .i64 3, .int .i64 2, .slice (some ⟨g, 0, none⟩) 3 3], .slice (some ⟨x, 0, none⟩) allL.length cx, .slice (some ⟨y, 0, none⟩) 4 4, .slice (some ⟨b, 0, none⟩) 4 4, .slice (some ⟨d, 0, none⟩) 3 3] W fun e w' => (∃ v c, e = .returned (.tuple #[.slice v 4 c, .int .i64 0]) ∧ IntsAt w' v [4, 5, 7, 9]) ∧ Below W.heap.size W w' := by
  have K := Hit_any (rkL (some ⟨g, 0, none⟩) 3 tenLs) allL (some ⟨x, 0, none⟩) cx thrownL (some ⟨y, 0, none⟩) 4 [21, 22, 23, 24] (some ⟨b, 0, none⟩) 4 [true, true, true] (some ⟨d, 0, none⟩) 3 W (links_blk hK) (Nat.le_of_ble_eq_true rfl) (fun g o e => by cases e; exact hK.lt) hX (Nat.le_of_ble_eq_true rfl) hG (Nat.le_of_ble_eq_true rfl) hB (Nat.le_of_ble_eq_true rfl) hC (Nat.le_of_ble_eq_true rfl) hT
  refine K.mono fun e w' ⟨v, c, h1, h2, h3, _⟩ => ?_
  have e := Prod.mk.inj (n_hit1 (some ⟨g, 0, none⟩) 3)
  rw [e.1, e.2] at h1
  rw [e.1] at h2
  exact ⟨⟨v, c, h1, h2⟩, h3⟩
theorem c_hit2 (g x y b d cx : Nat) (W : World) (hT : TabOK W) (hK : Blk W g (lkCells tenLs).toArray 86) (hX : IntsAt W (some ⟨x, 0, none⟩) allL) (hG : RgsAt W (some ⟨y, 0, none⟩) thrownL) (hB : IntsAt W (some ⟨b, 0, none⟩) [21, 22, 23, 24]) (hC : BoolsAt W (some ⟨d, 0, none⟩) [false, true, true]) :
    Calls Tryd.prog 27 #[.agg #[.int .i64 4, .int .i64 20, .int .i64 3, .int .i64 2, .slice (some ⟨g, 0, none⟩) 3 3], .slice (some ⟨x, 0, none⟩) allL.length cx, .slice (some ⟨y, 0, none⟩) 4 4, .slice (some ⟨b, 0, none⟩) 4 4, .slice (some ⟨d, 0, none⟩) 3 3] W fun e w' => (∃ v c, e = .returned (.tuple #[.slice v 0 c, .int .i64 2])) ∧ Below W.heap.size W w' := by
  have K := Hit_any (rkL (some ⟨g, 0, none⟩) 3 tenLs) allL (some ⟨x, 0, none⟩) cx thrownL (some ⟨y, 0, none⟩) 4 [21, 22, 23, 24] (some ⟨b, 0, none⟩) 4 [false, true, true] (some ⟨d, 0, none⟩) 3 W (links_blk hK) (Nat.le_of_ble_eq_true rfl) (fun g o e => by cases e; exact hK.lt) hX (Nat.le_of_ble_eq_true rfl) hG (Nat.le_of_ble_eq_true rfl) hB (Nat.le_of_ble_eq_true rfl) hC (Nat.le_of_ble_eq_true rfl) hT
  refine K.mono fun e w' ⟨v, c, h1, h2, h3, _⟩ => ?_
  have e := Prod.mk.inj (n_hit2 (some ⟨g, 0, none⟩) 3)
  rw [e.1, e.2] at h1
  rw [e.1] at h2
  exact ⟨⟨v, c, h1⟩, h3⟩
theorem c_hit3 (g x y b d cx : Nat) (W : World) (hT : TabOK W) (hK : Blk W g (lkCells tenLs).toArray 86) (hX : IntsAt W (some ⟨x, 0, none⟩) allL) (hG : RgsAt W (some ⟨y, 0, none⟩) thrownL) (hB : IntsAt W (some ⟨b, 0, none⟩) [21, 22, 25, 24]) (hC : BoolsAt W (some ⟨d, 0, none⟩) [true, true, true]) :
    Calls Tryd.prog 27 #[.agg #[.int .i64 4, .int .i64 20, .int .i64 3, .int .i64 2, .slice (some ⟨g, 0, none⟩) 3 3], .slice (some ⟨x, 0, none⟩) allL.length cx, .slice (some ⟨y, 0, none⟩) 4 4, .slice (some ⟨b, 0, none⟩) 4 4, .slice (some ⟨d, 0, none⟩) 3 3] W fun e w' => (∃ v c, e = .returned (.tuple #[.slice v 0 c, .int .i64 2])) ∧ Below W.heap.size W w' := by
  have K := Hit_any (rkL (some ⟨g, 0, none⟩) 3 tenLs) allL (some ⟨x, 0, none⟩) cx thrownL (some ⟨y, 0, none⟩) 4 [21, 22, 25, 24] (some ⟨b, 0, none⟩) 4 [true, true, true] (some ⟨d, 0, none⟩) 3 W (links_blk hK) (Nat.le_of_ble_eq_true rfl) (fun g o e => by cases e; exact hK.lt) hX (Nat.le_of_ble_eq_true rfl) hG (Nat.le_of_ble_eq_true rfl) hB (Nat.le_of_ble_eq_true rfl) hC (Nat.le_of_ble_eq_true rfl) hT
  refine K.mono fun e w' ⟨v, c, h1, h2, h3, _⟩ => ?_
  have e := Prod.mk.inj (n_hit3 (some ⟨g, 0, none⟩) 3)
  rw [e.1, e.2] at h1
  rw [e.1] at h2
  exact ⟨⟨v, c, h1⟩, h3⟩
theorem c_cvt1 (g x : Nat) (W : World) (hT : TabOK W) (hK : Blk W g (lkCells tenLs).toArray 86) (hX : IntsAt W (some ⟨x, 0, none⟩) ([1, 3, 6] : List Int)) :
    Calls Tryd.prog 40 #[.agg #[.int .i64 4, .int .i64 20, .int .i64 3, .int .i64 2, .slice (some ⟨g, 0, none⟩) 3 3], .slice (some ⟨x, 0, none⟩) 3 3, .bool true] W fun e w' => e = .returned (.tuple #[.agg #[.int .i64 12, .int .i64 3], .int .i64 0]) ∧ Below W.heap.size W w' := by
  have K := convert_any (rkL (some ⟨g, 0, none⟩) 3 tenLs) ([1, 3, 6] : List Int) (some ⟨x, 0, none⟩) 3 true W (links_blk hK) (Nat.le_of_ble_eq_true rfl) (fun g o e => by cases e; exact hK.lt) hX (Nat.le_of_ble_eq_true rfl) hT
  rw [n_cvt1] at K
  exact K
theorem c_cvt2 (g x : Nat) (W : World) (hT : TabOK W) (hK : Blk W g (lkCells tenLs).toArray 86) (hX : IntsAt W (some ⟨x, 0, none⟩) ([6, 9] : List Int)) :
    Calls Tryd.prog 40 #[.agg #[.int .i64 4, .int .i64 20, .int .i64 3, .int .i64 2, .slice (some ⟨g, 0, none⟩) 3 3], .slice (some ⟨x, 0, none⟩) 2 2, .bool true] W fun e w' => e = .returned (.tuple #[.agg #[.int .i64 0, .int .i64 0], .int .i64 9]) ∧ Below W.heap.size W w' := by
  have K := convert_any (rkL (some ⟨g, 0, none⟩) 3 tenLs) ([6, 9] : List Int) (some ⟨x, 0, none⟩) 2 true W (links_blk hK) (Nat.le_of_ble_eq_true rfl) (fun g o e => by cases e; exact hK.lt) hX (Nat.le_of_ble_eq_true rfl) hT
  rw [n_cvt2] at K
  exact K
theorem c_cvt3 (g x : Nat) (W : World) (hT : TabOK W) (hK : Blk W g (lkCells tenLs).toArray 86)  :
    Calls Tryd.prog 40 #[.agg #[.int .i64 4, .int .i64 20, .int .i64 3, .int .i64 2, .slice (some ⟨g, 0, none⟩) 3 3], .slice none 0 0, .bool false] W fun e w' => e = .returned (.tuple #[.agg #[.int .i64 0, .int .i64 (-3)], .int .i64 0]) ∧ Below W.heap.size W w' := by
  have K := convert_any (rkL (some ⟨g, 0, none⟩) 3 tenLs) ([] : List Int) (none) 0 false W (links_blk hK) (Nat.le_of_ble_eq_true rfl) (fun g o e => by cases e; exact hK.lt) (fun i v h => by simp at h) (Nat.le_of_ble_eq_true rfl) hT
  rw [n_cvt3] at K
  exact K
theorem c_can1 (g x y z cx : Nat) (W : World) (hT : TabOK W) (hK : Blk W g (lkCells tenLs).toArray 86) (hX : IntsAt W (some ⟨x, 0, none⟩) allL) (hG : RgsAt W (some ⟨y, 0, none⟩) thrownL) (hy : y < W.heap.size) (hV : IntsAt W (some ⟨z, 0, none⟩) [4, 7, 9]) :
    Calls Tryd.prog 37 #[.agg #[.int .i64 4, .int .i64 20, .int .i64 3, .int .i64 2, .slice (some ⟨g, 0, none⟩) 3 3], .slice (some ⟨x, 0, none⟩) allL.length cx, .slice (some ⟨y, 0, none⟩) 4 4, .slice (some ⟨z, 0, none⟩) 3 3] W fun e w' => e = .returned (.bool true) ∧ Below W.heap.size W w' := by
  have K := CanLeave_any (rkL (some ⟨g, 0, none⟩) 3 tenLs) allL (some ⟨x, 0, none⟩) cx thrownL (some ⟨y, 0, none⟩) 4 [4, 7, 9] (some ⟨z, 0, none⟩) 3 W (links_blk hK) (Nat.le_of_ble_eq_true rfl) (fun g o e => by cases e; exact hK.lt) hX (Nat.le_of_ble_eq_true rfl) hG (Nat.le_of_ble_eq_true rfl) (fun g o e => by cases e; exact hy) hV (Nat.le_of_ble_eq_true rfl) hT
  rw [n_can1] at K
  exact K
theorem c_can2 (g x y z cx : Nat) (W : World) (hT : TabOK W) (hK : Blk W g (lkCells tenLs).toArray 86) (hX : IntsAt W (some ⟨x, 0, none⟩) allL) (hG : RgsAt W (some ⟨y, 0, none⟩) thrownL) (hy : y < W.heap.size) (hV : IntsAt W (some ⟨z, 0, none⟩) [7, 9]) :
    Calls Tryd.prog 37 #[.agg #[.int .i64 4, .int .i64 20, .int .i64 3, .int .i64 2, .slice (some ⟨g, 0, none⟩) 3 3], .slice (some ⟨x, 0, none⟩) allL.length cx, .slice (some ⟨y, 0, none⟩) 4 4, .slice (some ⟨z, 0, none⟩) 2 2] W fun e w' => e = .returned (.bool false) ∧ Below W.heap.size W w' := by
  have K := CanLeave_any (rkL (some ⟨g, 0, none⟩) 3 tenLs) allL (some ⟨x, 0, none⟩) cx thrownL (some ⟨y, 0, none⟩) 4 [7, 9] (some ⟨z, 0, none⟩) 2 W (links_blk hK) (Nat.le_of_ble_eq_true rfl) (fun g o e => by cases e; exact hK.lt) hX (Nat.le_of_ble_eq_true rfl) hG (Nat.le_of_ble_eq_true rfl) (fun g o e => by cases e; exact hy) hV (Nat.le_of_ble_eq_true rfl) hT
  rw [n_can2] at K
  exact K
theorem c_prv1 (g x : Nat) (W : World) (hT : TabOK W) (hK : Blk W g (lkCells tenLs).toArray 86) (hX : IntsAt W (some ⟨x, 0, none⟩) [1, 3, 6]) :
    Calls Tryd.prog 41 #[.agg #[.int .i64 4, .int .i64 20, .int .i64 3, .int .i64 2, .slice (some ⟨g, 0, none⟩) 3 3], .slice (some ⟨x, 0, none⟩) 3 3, .agg #[.int .i64 14, .int .i64 1]] W fun e w' => e = .returned (.bool true) ∧ Below W.heap.size W w' := by
  have K := prove_any (rkL (some ⟨g, 0, none⟩) 3 tenLs) [1, 3, 6] (some ⟨x, 0, none⟩) 3 ⟨14, 1⟩ W (links_blk hK) (Nat.le_of_ble_eq_true rfl) (fun g o e => by cases e; exact hK.lt) hX (Nat.le_of_ble_eq_true rfl) hT
  rw [n_prv1] at K
  exact K
theorem c_prv2 (g x : Nat) (W : World) (hT : TabOK W) (hK : Blk W g (lkCells tenLs).toArray 86) (hX : IntsAt W (some ⟨x, 0, none⟩) [1, 3, 6]) :
    Calls Tryd.prog 41 #[.agg #[.int .i64 4, .int .i64 20, .int .i64 3, .int .i64 2, .slice (some ⟨g, 0, none⟩) 3 3], .slice (some ⟨x, 0, none⟩) 3 3, .agg #[.int .i64 12, .int .i64 3]] W fun e w' => e = .returned (.bool false) ∧ Below W.heap.size W w' := by
  have K := prove_any (rkL (some ⟨g, 0, none⟩) 3 tenLs) [1, 3, 6] (some ⟨x, 0, none⟩) 3 ⟨12, 3⟩ W (links_blk hK) (Nat.le_of_ble_eq_true rfl) (fun g o e => by cases e; exact hK.lt) hX (Nat.le_of_ble_eq_true rfl) hT
  rw [n_prv2] at K
  exact K
theorem c_fall (g x y : Nat) (W : World) (hT : TabOK W) (hK : Blk W g (lkCells tenLs).toArray 86) (hX : IntsAt W (some ⟨x, 0, none⟩) [10]) (hG : RgsAt W (some ⟨y, 0, none⟩) thrownL) (hy : y < W.heap.size) :
    Calls Tryd.prog 35 #[.agg #[.int .i64 4, .int .i64 20, .int .i64 3, .int .i64 2, .slice (some ⟨g, 0, none⟩) 3 3], .slice (some ⟨x, 0, none⟩) 1 1, .slice (some ⟨y, 0, none⟩) 4 4] W fun e w' => (∃ v1 v2, e = .returned (.tuple #[v1, v2, .int .i64 2])) ∧ Below W.heap.size W w' := by
  have K := Falls_any (rkL (some ⟨g, 0, none⟩) 3 tenLs) [10] (some ⟨x, 0, none⟩) 1 thrownL (some ⟨y, 0, none⟩) 4 W (links_blk hK) (Nat.le_of_ble_eq_true rfl) (fun g o e => by cases e; exact hK.lt) hX (Nat.le_of_ble_eq_true rfl) hG (Nat.le_of_ble_eq_true rfl) (fun g o e => by cases e; exact hy) hT
  refine K.mono fun e w' ⟨v1, v2, h⟩ => ?_
  obtain ⟨h1, _, _, h4⟩ := h
  rw [n_bal1] at h1
  exact ⟨⟨v1, v2, h1⟩, h4⟩
theorem c_left (g x y cx : Nat) (W : World) (hT : TabOK W) (hK : Blk W g (lkCells tenLs).toArray 86) (hX : IntsAt W (some ⟨x, 0, none⟩) allL) (hG : RgsAt W (some ⟨y, 0, none⟩) thrownL) (hy : y < W.heap.size) :
    Calls Tryd.prog 36 #[.agg #[.int .i64 4, .int .i64 20, .int .i64 3, .int .i64 2, .slice (some ⟨g, 0, none⟩) 3 3], .slice (some ⟨x, 0, none⟩) allL.length cx, .slice (some ⟨y, 0, none⟩) 3 4] W fun e w' => e = .returned (.tuple #[.agg #[.int .i64 0, .int .i64 0], .int .i64 2]) ∧ Below W.heap.size W w' := by
  have K := Left_any (rkL (some ⟨g, 0, none⟩) 3 tenLs) allL (some ⟨x, 0, none⟩) cx (thrownL.take 3) (some ⟨y, 0, none⟩) 4 W (links_blk hK) (Nat.le_of_ble_eq_true rfl) (fun g o e => by cases e; exact hK.lt) hX (Nat.le_of_ble_eq_true rfl) (fun i b hb => hG i b (by rw [List.getElem?_take] at hb; split at hb <;> simp_all)) (Nat.le_of_ble_eq_true rfl) (fun g o e => by cases e; exact hy) hT
  have e := Prod.mk.inj (n_bal2 (some ⟨g, 0, none⟩) 3)
  rw [e.1, e.2] at K
  exact K
theorem c_many (g : Nat) (W : World) (hK : Blk W g (lkCells manyLs).toArray 86) :
    Calls Tryd.prog 17 #[.agg #[.int .i64 4, .int .i64 20, .int .i64 3, .int .i64 2, .slice (some ⟨g, 0, none⟩) 7 7]] W fun e w' => e = .returned (.int .i64 3) ∧ Below W.heap.size W w' := by
  have K := checkRack_any (rkL (some ⟨g, 0, none⟩) 7 manyLs) W (links_blk hK) (Nat.le_of_ble_eq_true rfl)
  rw [n_many] at K
  exact K
theorem c_loop (g : Nat) (W : World) (hK : Blk W g (lkCells loopLs).toArray 86) :
    Calls Tryd.prog 17 #[.agg #[.int .i64 4, .int .i64 20, .int .i64 3, .int .i64 2, .slice (some ⟨g, 0, none⟩) 3 3]] W fun e w' => e = .returned (.int .i64 1) ∧ Below W.heap.size W w' := by
  have K := checkRack_any (rkL (some ⟨g, 0, none⟩) 3 loopLs) W (links_blk hK) (Nat.le_of_ble_eq_true rfl)
  rw [n_loop] at K
  exact K
theorem c_free (g : Nat) (W : World) (hK : Blk W g (lkCells freeLs).toArray 86) :
    Calls Tryd.prog 17 #[.agg #[.int .i64 4, .int .i64 20, .int .i64 3, .int .i64 2, .slice (some ⟨g, 0, none⟩) 3 3]] W fun e w' => e = .returned (.int .i64 1) ∧ Below W.heap.size W w' := by
  have K := checkRack_any (rkL (some ⟨g, 0, none⟩) 3 freeLs) W (links_blk hK) (Nat.le_of_ble_eq_true rfl)
  rw [n_free] at K
  exact K
theorem c_none (W : World) :
    Calls Tryd.prog 17 #[.agg #[.int .i64 0, .int .i64 0, .int .i64 0, .int .i64 0, .slice none 0 0]] W fun e w' => e = .returned (.int .i64 1) ∧ Below W.heap.size W w' := by
  have K := checkRack_any ⟨0, 0, 0, 0, none, 0, []⟩ W (fun i v h => by simp at h) (Nat.le_of_ble_eq_true rfl)
  rw [n_none] at K
  exact K
theorem c_cen (W : World) (hT : TabOK W) :
    Calls Tryd.prog 21 #[.agg #[.int .i64 2, .int .i64 0, .int .i64 1, .int .i64 0, .slice none 0 0]] W fun e w' => e = .returned (.tuple #[.agg #[.int .i64 1, .int .i64 3, .int .i64 4, .int .i64 0, .int .i64 0], .int .i64 0]) ∧ Below W.heap.size W w' := by
  have K := Census_any ⟨2, 0, 1, 0, none, 0, []⟩ W (fun i v h => by simp at h) (Nat.le_of_ble_eq_true rfl) hT
  have e := Prod.mk.inj n_cen
  rw [e.1, e.2] at K
  exact K
end Go.Proofs.YtaloffdkadhhnaaDoor
