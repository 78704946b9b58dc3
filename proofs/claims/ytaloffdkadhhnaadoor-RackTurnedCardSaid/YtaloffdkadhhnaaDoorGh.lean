/- The values of the chapter's example. The contracts of ten, all, thrown. The contract of the law's ints. The law's awake is true. The contract of the law's list. The contract of the law's Thin. -/
import Derived.Test.YtaloffdkadhhnaaDoorGg
import Derived.Test.YtaloffdkadhhnaaDoorGe
import Derived.Deep.DeepMust
set_option linter.unusedVariables false
set_option linter.unusedSimpArgs false

namespace Go.Proofs.YtaloffdkadhhnaaDoor

def tenR (a : Option Addr) (c : Nat) : Rk := ⟨4, 20, 3, 2, a, c, [⟨0, 1, true⟩, ⟨1, 3, false⟩, ⟨3, 6, true⟩]⟩
def thrownL : List Rg := [⟨21, 21⟩, ⟨22, 22⟩, ⟨22, 24⟩, ⟨23, 25⟩]
def allL : List Int := [0, 1, 2, 3, 4, 5, 6, 7, 8, 9]
set_option maxRecDepth 100000
theorem v_chk (a : Option Addr) (c : Nat) : chkE (tenR a c) [6, 9] = 0 := by kernel_rfl
theorem v_knd (a : Option Addr) (c : Nat) : kndN (tenR a c) [6, 9] = 3 := by kernel_rfl
theorem v_bal (a : Option Addr) (c : Nat) : balE (tenR a c) allL thrownL = 0 := by kernel_rfl
theorem v_sure (a : Option Addr) (c : Nat) : els (sureN (tenR a c) thrownL (setN allL)) = [0, 1, 2, 8] := by kernel_rfl
theorem v_may (a : Option Addr) (c : Nat) : els (dif (setN allL) (stayN (tenR a c) thrownL (setN allL))) = [0, 1, 2, 3, 4, 5, 6, 8] := by kernel_rfl
theorem v_lef (a : Option Addr) (c : Nat) : lefV (tenR a c) allL thrownL = ⟨3, 6⟩ := by kernel_rfl
theorem v_cvt (a : Option Addr) (c : Nat) : cvtR (tenR a c) [1, 3, 6] false = (⟨14, 1⟩, 0) := by kernel_rfl
end Go.Proofs.YtaloffdkadhhnaaDoor

namespace Go.Proofs.YtaloffdkadhhnaaDoor
open Go.RowKit Go.Shelf

attribute [local go_sem] Oper.semAt_some

theorem ints_new (w : World) (xs : List Int) : IntsAt (w.alloc (.cells (xs.map (Value.int .i64)).toArray 3)) (some ⟨w.heap.size, 0, none⟩) xs := fun i v hv =>
  ⟨w.heap.size, 0, rfl, new_cell w (by rw [Nat.zero_add, List.getElem?_toArray, List.getElem?_map, hv]; rfl)⟩
def rgCells (L : List Rg) : List Value := L.flatMap fun b => [.int .i64 b.lo, .int .i64 b.hi]
theorem rgCells_at : ∀ (L : List Rg) (i : Nat) (b : Rg), L[i]? = some b → (rgCells L)[i * 2]? = some (.int .i64 b.lo) ∧ (rgCells L)[i * 2 + 1]? = some (.int .i64 b.hi)
  | x :: L, 0, b, h => by simp at h; subst h; exact ⟨rfl, rfl⟩
  | x :: L, i + 1, b, h => by
    have := rgCells_at L i b (by simpa using h)
    have e : rgCells (x :: L) = .int .i64 x.lo :: .int .i64 x.hi :: rgCells L := rfl
    rw [e, show (i + 1) * 2 = i * 2 + 1 + 1 by omega]
    exact this
theorem rgs_new (w : World) (L : List Rg) : RgsAt (w.alloc (.cells (rgCells L).toArray 63)) (some ⟨w.heap.size, 0, none⟩) L := fun i b hb =>
  ⟨w.heap.size, 0, rfl, new_cell w (by rw [Nat.zero_add, List.getElem?_toArray]; exact (rgCells_at L i b hb).1), new_cell w (by rw [Nat.zero_add, List.getElem?_toArray]; exact (rgCells_at L i b hb).2)⟩
def lkCells (L : List Lk) : List Value := L.flatMap fun l => [.int .i64 l.fr, .int .i64 l.to, .bool l.sr]
theorem lkCells_at : ∀ (L : List Lk) (i : Nat) (b : Lk), L[i]? = some b → (lkCells L)[i * 3]? = some (.int .i64 b.fr) ∧ (lkCells L)[i * 3 + 1]? = some (.int .i64 b.to) ∧ (lkCells L)[i * 3 + 2]? = some (.bool b.sr)
  | x :: L, 0, b, h => by simp at h; subst h; exact ⟨rfl, rfl, rfl⟩
  | x :: L, i + 1, b, h => by
    have := lkCells_at L i b (by simpa using h)
    have e : lkCells (x :: L) = .int .i64 x.fr :: .int .i64 x.to :: .bool x.sr :: lkCells L := rfl
    rw [e, show (i + 1) * 3 = i * 3 + 1 + 1 + 1 by omega]
    exact this
theorem links_new (w : World) (L : List Lk) : LinksAt (w.alloc (.cells (lkCells L).toArray 86)) (some ⟨w.heap.size, 0, none⟩) L := fun i b hb =>
  ⟨w.heap.size, 0, rfl, new_cell w (by rw [Nat.zero_add, List.getElem?_toArray]; exact (lkCells_at L i b hb).1), new_cell w (by rw [Nat.zero_add, List.getElem?_toArray]; exact (lkCells_at L i b hb).2.1), new_cell w (by rw [Nat.zero_add, List.getElem?_toArray]; exact (lkCells_at L i b hb).2.2)⟩

set_option maxRecDepth 100000 in
set_option maxHeartbeats 2000000 in
theorem ten_any (w : World) :
    Calls Tryd.prog 45 #[] w fun e w' => ∃ g c, e = .returned (tenR (some ⟨g, 0, none⟩) c).val ∧ LinksAt w' (some ⟨g, 0, none⟩) (tenR (some ⟨g, 0, none⟩) c).ls ∧ g < w'.heap.size ∧ Below w.heap.size w w' := by
  go_enter Tryd.func45, Tryd.ntmps45
  go_wp2_with fail
  have hz : (w.alloc (.cells #[.int .i64 4, .int .i64 20, .int .i64 3, .int .i64 2, .slice (some ⟨w.heap.size + 1, 0, none⟩) 3 3] 32)).heap.size = w.heap.size + 1 := by simp
  have K := Blk.new w #[.int .i64 4, .int .i64 20, .int .i64 3, .int .i64 2, .slice (some ⟨w.heap.size + 1, 0, none⟩) 3 3] 32
  have B1 := below_al w (.cells #[.int .i64 4, .int .i64 20, .int .i64 3, .int .i64 2, .slice (some ⟨w.heap.size + 1, 0, none⟩) 3 3] 32)
  generalize w.alloc _ = W at *
  have L := links_new W [⟨0, 1, true⟩, ⟨1, 3, false⟩, ⟨3, 6, true⟩]
  have B2 := below_go B1 (below_al W (.cells (lkCells [⟨0, 1, true⟩, ⟨1, 3, false⟩, ⟨3, 6, true⟩]).toArray 86))
  have K2 := Blk.alt (p := fun _ => False) K ((Alt.refl _ W).alloc (.cells (lkCells [⟨0, 1, true⟩, ⟨1, 3, false⟩, ⟨3, 6, true⟩]).toArray 86)) id
  have z2 : w.heap.size + 1 < (W.alloc (.cells (lkCells [⟨0, 1, true⟩, ⟨1, 3, false⟩, ⟨3, 6, true⟩]).toArray 86)).heap.size := by rw [World.size_alloc, hz]; omega
  rw [hz] at L
  change bodyPost _ _ _ _ _ (W.alloc (.cells (lkCells [⟨0, 1, true⟩, ⟨1, 3, false⟩, ⟨3, 6, true⟩]).toArray 86))
  generalize W.alloc _ = X at *
  have h0 := K2.cell 0 (show _ = some (Value.int .i64 4) from rfl)
  have h1 := K2.cell 1 (show _ = some (Value.int .i64 20) from rfl)
  have h2 := K2.cell 2 (show _ = some (Value.int .i64 3) from rfl)
  have h3 := K2.cell 3 (show _ = some (Value.int .i64 2) from rfl)
  have h4 := K2.cell 4 (show _ = some (Value.slice (some ⟨w.heap.size + 1, 0, none⟩) 3 3) from rfl)
  refine bodyPost_ret (v := .agg #[.int .i64 4, .int .i64 20, .int .i64 3, .int .i64 2, .slice (some ⟨w.heap.size + 1, 0, none⟩) 3 3]) (by simp [results, Tryd.results45, go_sem, h0, h1, h2, h3, h4]) rfl ?_
  exact ⟨w.heap.size + 1, 3, rfl, L, z2, B2⟩

set_option maxRecDepth 100000 in
set_option maxHeartbeats 2000000 in
theorem all_any (w : World) :
    Calls Tryd.prog 46 #[] w fun e w' => ∃ g c, e = .returned (.slice (some ⟨g, 0, none⟩) allL.length c) ∧ IntsAt w' (some ⟨g, 0, none⟩) allL ∧ g < w'.heap.size ∧ Below w.heap.size w w' := by
  go_enter Tryd.func46, Tryd.ntmps46
  go_wp2_with fail
  refine bodyPost_ret (results_tmp rfl _ _ _) rfl ⟨w.heap.size, 10, rfl, ints_new w allL, by simp, below_al w _⟩

set_option maxRecDepth 100000 in
set_option maxHeartbeats 2000000 in
theorem thrown_any (w : World) :
    Calls Tryd.prog 47 #[] w fun e w' => ∃ g c, e = .returned (.slice (some ⟨g, 0, none⟩) thrownL.length c) ∧ RgsAt w' (some ⟨g, 0, none⟩) thrownL ∧ g < w'.heap.size ∧ Below w.heap.size w w' := by
  go_enter Tryd.func47, Tryd.ntmps47
  go_wp2_with fail
  refine bodyPost_ret (results_tmp rfl _ _ _) rfl ⟨w.heap.size, 4, rfl, rgs_new w thrownL, by simp, below_al w _⟩

end Go.Proofs.YtaloffdkadhhnaaDoor

namespace Go.Proofs.YtaloffdkadhhnaaDoor
open Go.RowKit

attribute [local go_sem] Oper.semAt_some

theorem grown_drewN {w w' : World} {row : Option Nat} (h : w.grownBy w' row) (n : Nat) : w.grownBy (w'.drewN n) row := by
  cases n <;> exact ⟨h.os, h.tape, h.output, h.size, h.block⟩

set_option maxRecDepth 100000 in
set_option maxHeartbeats 2000000 in
theorem ints_any (xs ys : List Int) (a b : Option Addr) (c d : Nat) (w : World) (hs : IntsAt w a xs) (ht : IntsAt w b ys) (hn : xs.length ≤ 1000) (hm : ys.length ≤ 1000) :
    Calls Tryd.prog 31 #[.slice a xs.length c, .slice b ys.length d] w fun e w' => e = .returned (.bool (decide (xs = ys))) ∧ Hid (w.grownBy w' none) := by
  have HS := Lib.hid hs
  have HT := Lib.hid ht
  clear hs ht
  by_cases hl : xs.length = ys.length
  · have hl1 : ((xs.length : Int) == (ys.length : Int)) = true := by simp [hl]
    have HL := Lib.hid hl
    clear hl
    go_enter Tryd.func31, Tryd.ntmps31
    go_wp2_with fail
    have hne : ((xs.length : Int) != (ys.length : Int)) = false := by simp [HL.out]
    simp only [hne]
    clear hl1
    go_loopw [5] (fun i wr => ∃ k : Nat, k ≤ xs.length ∧ i = .int .i64 k ∧ Hid (xs.take k = ys.take k) ∧ Hid (w.grownBy wr none)) (fun i _ => xs.length - (intOf i).toNat)
    case atStart => exact ⟨0, by omega, rfl, Lib.hid (by simp), Lib.hid (World.grownBy.refl w none)⟩
    case round =>
      obtain ⟨k, hk, rfl, hE, hg⟩ := hrel
      by_cases hlt : k < xs.length
      · obtain ⟨x, hx⟩ : ∃ x, Hid (xs[k]? = some x) := ⟨xs[k]'hlt, Lib.hid (List.getElem?_eq_getElem _)⟩
        obtain ⟨y, hy⟩ : ∃ y, Hid (ys[k]? = some y) := ⟨ys[k]'(by have := HL.out; omega), Lib.hid (List.getElem?_eq_getElem _)⟩
        obtain ⟨g, o, rfl, hc⟩ := HS.out k x hx.out
        obtain ⟨g', o', rfl, hc'⟩ := HT.out k y hy.out
        have cA := hg.out.cell hc (fun e => by cases e)
        have cB := hg.out.cell hc' (fun e => by cases e)
        have hlt1 : (k : Int) < (xs.length : Int) := by omega
        have hlt2 : (k : Int) < (ys.length : Int) := by have := HL.out; omega
        have hk0 : (0 : Int) ≤ (k : Int) := by omega
        have e2 : IntKind.i64.wrap ((k : Int) + 1) = (k : Int) + 1 := IntWalk.i64_in _ (by omega)
        clear hc hc'
        by_cases hxy : x = y
        · have hb : (x == y) = true := by simpa using hxy
          go_wp2
          go_still_tail 8, (by kernel_rfl)
          go_wp2_with fail
          have hn := Lib.hid (show xs.take (k + 1) = ys.take (k + 1) from by rw [List.take_add_one, List.take_add_one, hx.out, hy.out, hE.out, hxy])
          have hg2 := Lib.hid (grown_drewN hg.out 1)
          go_roundw
          case rel => first | exact ⟨k + 1, by omega, by simp, hn, hg2⟩ | ((repeat apply Exists.intro); exact ⟨⟨k + 1, by omega, by simp, hn, hg2⟩, rfl⟩)
          case measure => simp [intOf]; omega
        · have hb : (x == y) = false := by simpa using hxy
          have hD := Lib.hid (show decide (xs = ys) = false from by simp; intro h; apply hxy; have h1 := hx.out; have h2 := hy.out; rw [h, h2] at h1; cases h1; rfl)
          have hg2 := Lib.hid (grown_drewN hg.out 1)
          clear hxy
          go_wp2
          go_still_tail 8, (by kernel_rfl)
          go_wp2_with fail
          go_returns
          exact ⟨by rw [hD.out]; first | done | rfl, hg2⟩
      · have hD := Lib.hid (show decide (xs = ys) = true from by
          have h1 := hE.out
          have h2 := HL.out
          rw [show k = xs.length from by omega, List.take_length, h2, List.take_length] at h1
          simp [h1])
        have hlt1 : ¬ (k : Int) < (xs.length : Int) := by omega
        clear hlt
        go_wp2_with fail
        go_returns
        exact ⟨by rw [hD.out]; first | done | rfl, hg⟩
  · have hl1 : ((xs.length : Int) == (ys.length : Int)) = false := by simpa using fun h => hl (by omega)
    have hE := Lib.hid (show decide (xs = ys) = false from by simp; intro h; exact hl (by rw [h]))
    clear hl
    go_enter Tryd.func31, Tryd.ntmps31
    go_wp2_with fail
    go_returns
    exact ⟨by rw [hE.out]; first | done | rfl, Lib.hid (World.grownBy.refl w none)⟩

theorem ints_lo {w w' : World} (h : w.grownBy w' none) : Below w.heap.size w w' := ((Alt.refl (fun k => w.heap.size ≤ k) w).grown h (fun k e => by cases e)).below (Nat.le_refl _) fun _ h => h

end Go.Proofs.YtaloffdkadhhnaaDoor

namespace Go.Proofs.YtaloffdkadhhnaaDoor
open Go.RowKit Go.Shelf

attribute [local go_sem] Oper.semAt_some

theorem ints_eq (xs : List Int) (a b : Option Addr) (c d n m : Nat) (w : World) (hs : IntsAt w a xs) (ht : IntsAt w b xs) (hn : xs.length ≤ 1000) (h1 : n = xs.length) (h2 : m = xs.length) :
    Calls Tryd.prog 31 #[.slice a n c, .slice b m d] w fun e w' => e = .returned (.bool true) ∧ Below w.heap.size w w' := by
  subst h1 h2
  refine (ints_any xs xs a b c d w hs ht hn hn).mono ?_
  rintro e w' ⟨rfl, h⟩
  exact ⟨by simp, ints_lo h.out⟩

set_option maxRecDepth 100000 in
set_option maxHeartbeats 4000000 in
theorem awake_any (w : World) (hT : TabOK w) : Calls Tryd.prog 16 #[] w fun e w' => e = .returned (.bool true) ∧ Below w.heap.size w w' := by
  have TE := Lib.hid (fun W => ten_any W)
  have AL := Lib.hid (fun W => all_any W)
  have TH := Lib.hid (fun W => thrown_any W)
  have TAB := Lib.hid (fun W (hb : Below w.heap.size w W) => hT.lo hb)
  clear hT
  go_enter Tryd.func16, Tryd.ntmps16
  go_wp2_with fail
  refine (TE.out _).mono ?_
  rintro e w1 ⟨g1, c1, rfl, L1, z1, b1⟩
  go_wp2_with fail
  have B1 := below_go b1 (below_al w1 (.cells (([6, 9] : List Int).map (Value.int .i64)).toArray 3))
  have K := Kind_any (tenR (some ⟨g1, 0, none⟩) c1) [6, 9] (some ⟨w1.heap.size, 0, none⟩) 2 _ (L1.lo (below_al w1 _)) (by show 3 ≤ 1000; omega) (ints_new w1 [6, 9]) (by show 2 ≤ 1000; omega) (TAB.out _ B1)
  rw [v_knd, v_chk] at K
  refine K.mono ?_
  rintro e w2 ⟨rfl, b2⟩
  have B2 := Lib.hid (below_go B1 b2)
  clear K L1 z1 b1 B1 b2
  go_wp2_with fail
  refine (TE.out _).mono ?_
  rintro e w3 ⟨g3, c3, rfl, L3, z3, b3⟩
  have L3' := Lib.hid L3
  have B3 := Lib.hid (below_go B2.out b3)
  clear L3 b3
  go_wp2_with fail
  refine (AL.out _).mono ?_
  rintro e w4 ⟨g4, c4, rfl, X4, z4, b4⟩
  have X4' := Lib.hid X4
  have L4 := Lib.hid (L3'.out.lo b4)
  have B4 := Lib.hid (below_go B3.out b4)
  have Z4 := Lib.hid (Nat.lt_of_lt_of_le z3 b4.size)
  clear X4 b4 L3' B3
  go_wp2_with fail
  refine (TH.out _).mono ?_
  rintro e w5 ⟨g5, c5, rfl, G5, z5, b5⟩
  have F := Falls_any (tenR (some ⟨g3, 0, none⟩) c3) allL (some ⟨g4, 0, none⟩) c4 thrownL (some ⟨g5, 0, none⟩) c5 w5 (L4.out.lo b5) (by show 3 ≤ 1000; omega) (fun g o e => by cases e; exact Nat.lt_of_lt_of_le Z4.out b5.size) (X4'.out.lo b5) (by show 10 ≤ 1000; omega) G5 (by show 4 ≤ 1000; omega) (fun g o e => by cases e; exact z5) (TAB.out _ (below_go B4.out b5))
  have B5 := Lib.hid (below_go B4.out b5)
  clear z3 z4 Z4 L4 X4' G5 z5 b5 B4
  go_wp2_with fail
  refine F.mono ?_
  rintro e w6 ⟨v1, v2, he, hs, hm, b6⟩
  rw [v_bal] at he hs hm
  rw [if_pos rfl] at hs hm
  rw [v_sure] at hs
  rw [v_may] at hm
  subst he
  obtain ⟨a1, d1, rfl, i1⟩ := hs
  obtain ⟨a2, d2, rfl, i2⟩ := hm
  have I1 := Lib.hid i1
  have I2 := Lib.hid i2
  have B6 := Lib.hid (below_go B5.out b6)
  clear i1 i2 b6 F B5
  go_wp2_with fail
  refine (TE.out _).mono ?_
  rintro e w7 ⟨g7, c7, rfl, L7, z7, b7⟩
  have L7' := Lib.hid L7
  have B7 := Lib.hid (below_go B6.out b7)
  have J1 := Lib.hid (I1.out.lo b7)
  have J2 := Lib.hid (I2.out.lo b7)
  clear L7 b7 I1 I2 B6
  go_wp2_with fail
  refine (AL.out _).mono ?_
  rintro e w8 ⟨g8, c8, rfl, X8, z8, b8⟩
  have X8' := Lib.hid X8
  have L8 := Lib.hid (L7'.out.lo b8)
  have B8 := Lib.hid (below_go B7.out b8)
  have Z8 := Lib.hid (Nat.lt_of_lt_of_le z7 b8.size)
  have I1 := Lib.hid (J1.out.lo b8)
  have I2 := Lib.hid (J2.out.lo b8)
  clear X8 b8 L7' B7 J1 J2 z7
  go_wp2_with fail
  refine (TH.out _).mono ?_
  rintro e w9 ⟨g9, c9, rfl, G9, z9, b9⟩
  have F := Left_any (tenR (some ⟨g7, 0, none⟩) c7) allL (some ⟨g8, 0, none⟩) c8 thrownL (some ⟨g9, 0, none⟩) c9 w9 (L8.out.lo b9) (by show 3 ≤ 1000; omega) (fun g o e => by cases e; exact Nat.lt_of_lt_of_le Z8.out b9.size) (X8'.out.lo b9) (by show 10 ≤ 1000; omega) G9 (by show 4 ≤ 1000; omega) (fun g o e => by cases e; exact z9) (TAB.out _ (below_go B8.out b9))
  rw [v_lef, v_bal] at F
  unfold Rg.val at F
  have B9 := Lib.hid (below_go B8.out b9)
  have J1 := Lib.hid (I1.out.lo b9)
  have J2 := Lib.hid (I2.out.lo b9)
  clear z8 Z8 L8 X8' G9 z9 b9 B8 I1 I2
  go_wp2_with fail
  refine F.mono ?_
  rintro e w10 ⟨rfl, b10⟩
  have bA := below_al w10 (.cells #[.int .i64 3, .int .i64 6] 63)
  have E10 := Lib.hid (Blk.new w10 #[.int .i64 3, .int .i64 6] 63)
  have B10 := Lib.hid (below_go (below_go B9.out b10) bA)
  have I1 := Lib.hid ((J1.out.lo b10).lo bA)
  have I2 := Lib.hid ((J2.out.lo b10).lo bA)
  clear F J1 J2 b10 B9 bA
  go_wp2_with fail
  generalize World.alloc w10 _ = wa at *
  refine (TE.out _).mono ?_
  rintro e w11 ⟨g11, c11, rfl, L11, z11, b11⟩
  have bA := below_al w11 (.cells (([1, 3, 6] : List Int).map (Value.int .i64)).toArray 3)
  have B11 := below_go (below_go B10.out b11) bA
  have K := convert_any (tenR (some ⟨g11, 0, none⟩) c11) [1, 3, 6] (some ⟨w11.heap.size, 0, none⟩) 3 false _ (L11.lo bA) (by show 3 ≤ 1000; omega) (fun g o e => by cases e; exact Nat.lt_of_lt_of_le z11 bA.size) (ints_new w11 [1, 3, 6]) (by show 3 ≤ 1000; omega) (TAB.out _ B11)
  rw [v_cvt] at K
  unfold Ln.val at K
  have J1 := Lib.hid ((I1.out.lo b11).lo bA)
  have J2 := Lib.hid ((I2.out.lo b11).lo bA)
  have E11 := Lib.hid (Blk.alt (p := fun _ => False) E10.out (Alt.of_below (below_go b11 bA) (fun k hk h => by omega)) id)
  have B11' := Lib.hid B11
  clear I1 I2 E10 B10 L11 z11 b11 bA B11
  go_wp2_with fail
  refine K.mono ?_
  rintro e w12 ⟨rfl, b12⟩
  have bA := below_al w12 (.cells #[.int .i64 14, .int .i64 1] 73)
  have E12 := Lib.hid (Blk.alt (p := fun _ => False) E11.out (Alt.of_below (below_go b12 bA) (fun k hk h => by omega)) id)
  have D12 := Lib.hid (Blk.new w12 #[.int .i64 14, .int .i64 1] 73)
  have B12 := Lib.hid (below_go (below_go B11'.out b12) bA)
  have I1 := Lib.hid ((J1.out.lo b12).lo bA)
  have I2 := Lib.hid ((J2.out.lo b12).lo bA)
  clear K J1 J2 E11 B11' b12 bA
  go_wp2_with fail
  have hX : (w12.alloc (.cells #[.int .i64 14, .int .i64 1] 73)).heap.size = w12.heap.size + 1 := World.size_alloc ..
  generalize World.alloc w12 _ = X at *
  have N1 := ints_new X [0, 1, 2, 8]
  have bA := below_al X (.cells (([0, 1, 2, 8] : List Int).map (Value.int .i64)).toArray 3)
  rw [hX] at N1
  refine (ints_eq [0, 1, 2, 8] a1 (some ⟨w12.heap.size + 1, 0, none⟩) d1 4 4 4 (X.alloc (.cells (([0, 1, 2, 8] : List Int).map (Value.int .i64)).toArray 3)) (I1.out.lo bA) N1 (by show 4 ≤ 1000; omega) rfl rfl).mono ?_
  rintro e w13 ⟨rfl, b13⟩
  have E13 := Lib.hid (Blk.alt (p := fun _ => False) E12.out (Alt.of_below (below_go bA b13) (fun k hk h => by omega)) id)
  have D13 := Lib.hid (Blk.alt (p := fun _ => False) D12.out (Alt.of_below (below_go bA b13) (fun k hk h => by omega)) id)
  have B13 := Lib.hid (below_go (below_go B12.out bA) b13)
  have J2 := Lib.hid ((I2.out.lo bA).lo b13)
  clear E12 D12 B12 I1 I2 N1 bA b13 hX
  go_wp2_with fail
  have N2 := ints_new w13 [0, 1, 2, 3, 4, 5, 6, 8]
  have bA := below_al w13 (.cells (([0, 1, 2, 3, 4, 5, 6, 8] : List Int).map (Value.int .i64)).toArray 3)
  refine (ints_eq [0, 1, 2, 3, 4, 5, 6, 8] a2 (some ⟨w13.heap.size, 0, none⟩) d2 8 8 8 (w13.alloc (.cells (([0, 1, 2, 3, 4, 5, 6, 8] : List Int).map (Value.int .i64)).toArray 3)) (J2.out.lo bA) N2 (by show 8 ≤ 1000; omega) rfl rfl).mono ?_
  rintro e w14 ⟨rfl, b14⟩
  have E14 := Blk.alt (p := fun _ => False) E13.out (Alt.of_below (below_go bA b14) (fun k hk h => by omega)) id
  have D14 := Blk.alt (p := fun _ => False) D13.out (Alt.of_below (below_go bA b14) (fun k hk h => by omega)) id
  have B14 := Lib.hid (below_go (below_go B13.out bA) b14)
  have e0 : w14.cell? ⟨w10.heap.size, 0, none⟩ = some (.int .i64 3) := E14.cell 0 rfl
  have e1 : w14.cell? ⟨w10.heap.size, 1, none⟩ = some (.int .i64 6) := E14.cell 1 rfl
  have d0 : w14.cell? ⟨w12.heap.size, 0, none⟩ = some (.int .i64 14) := D14.cell 0 rfl
  have d1' : w14.cell? ⟨w12.heap.size, 1, none⟩ = some (.int .i64 1) := D14.cell 1 rfl
  clear E13 D13 B13 J2 N2 bA b14 E14 D14
  go_wp2_with fail
  refine bodyPost_ret (results_tmp rfl _ _ _) rfl ⟨rfl, B14.out⟩

end Go.Proofs.YtaloffdkadhhnaaDoor

namespace Go.Proofs.YtaloffdkadhhnaaDoor
open Go.RowKit

attribute [local go_sem] Oper.semAt_some

theorem below_own {w W W' : World} {v : Value} {n : Nat} {e : TypeId} {xs : List Value} (hB : Below w.heap.size w W) (ho : W.ownsRow w.heap.size e 1 v n xs) (hg : W.grownBy W' v.ownBlock) : Below w.heap.size w W' :=
  hB.grown hg hB.size (fun k e => (ho.lt k e).1)

set_option maxRecDepth 100000 in
set_option maxHeartbeats 2000000 in
theorem lawlist_any (bs : List Int) (a : Option Addr) (c : Nat) (w : World) (hs : IntsAt w a bs) (h0 : a = none → bs = [] ∧ c = 0) (hn : bs.length ≤ 1000) :
    Calls Tryd.prog 20 #[.slice a bs.length c] w fun e w' => ∃ v, e = .returned v ∧ w'.ownsRow w.heap.size 3 1 v bs.length (bs.map (Value.int .i64)) ∧ Below w.heap.size w w' := by
  have HS := Lib.hid hs
  have H0 := Lib.hid h0
  clear hs h0
  obtain ⟨i3, hi3, hy0, hy1, hy2⟩ := info_parts info3
  have O1 : Hid (w.ownsRow w.heap.size 3 1 (.slice none 0 0) 0 []) := Lib.hid ⟨rfl, .inl ⟨rfl, rfl⟩⟩
  have B1 := Lib.hid (Below.refl w.heap.size w)
  cases a with
  | none =>
    obtain ⟨rfl, rfl⟩ := H0.out rfl
    simp only [List.length_nil]
    go_enter Tryd.func20, Tryd.ntmps20
    go_wp2_with (at_builtin; refine wpList_append_none _ rfl _ _ 25 rfl w.heap.size 3 i3 1 Tryd.underlying25 hi3 _ _ _ rfl O1.out rfl ?_)
    go_returns
    exact ⟨_, rfl, O1.out, B1.out⟩
  | some ad =>
    have hnews : ∀ j u, (bs.map (Value.int .i64))[j]? = some u → w.cell? (ad.add j) = some u := by
      intro j u hj
      rw [List.getElem?_map] at hj
      cases hx : bs[j]? with
      | none => rw [hx] at hj; cases hj
      | some x =>
        rw [hx] at hj
        cases hj
        obtain ⟨g', o', e, hc⟩ := HS.out j x hx
        cases e
        have e : (⟨g', o', none⟩ : Addr).add j = ⟨g', o' + j, none⟩ := by unfold Addr.add; split <;> simp_all
        rw [e]
        exact hc
    go_enter Tryd.func20, Tryd.ntmps20
    go_wp2_with (at_builtin; go_must (refine wpList_append_own_at _ rfl _ _ 25 rfl w.heap.size 3 i3 (.int .i64 0) 1 8 Tryd.underlying25 hi3 hy0 hy1 hy2 rfl (by decide) _ _ _ rfl O1.out ad bs.length c (bs.map (Value.int .i64)) rfl (by simp) hnews (by simp [Value.oneCell']) (by unfold maxLen; omega) (by omega) (by simp) ?_); intro v' w1 hown' hgrow hnil hloc; have ho1 := Lib.hid hown'; have hB1 := Lib.hid (below_own B1.out O1.out hgrow); clear hown' hgrow hnil hloc)
    go_returns
    exact ⟨v', rfl, by have := ho1.out; rwa [Nat.zero_add, List.nil_append] at this, hB1.out⟩

end Go.Proofs.YtaloffdkadhhnaaDoor

namespace Go.Proofs.YtaloffdkadhhnaaDoor
open Go.RowKit

attribute [local go_sem] Oper.semAt_some

def thinB (r : Rk) (n m : Nat) : Bool := decide (r.ls.length ≤ 16) && (decide (n ≤ 15) && decide (m ≤ 8))

set_option maxRecDepth 100000 in
set_option maxHeartbeats 4000000 in
theorem thin_any (r : Rk) (a b : Option Addr) (n c m d : Nat) (w : World) :
    Calls Tryd.prog 15 #[r.val, .slice a n c, .slice b m d] w fun e w' => e = .returned (.bool (thinB r n m)) ∧ Below w.heap.size w w' := by
  have HR : Hid (thinB r n m = (decide (r.ls.length ≤ 16) && (decide (n ≤ 15) && decide (m ≤ 8)))) := Lib.hid rfl
  generalize thinB r n m = R at *
  have B0 := Lib.hid (below_al w (.cells (rCells r) 32))
  have B1 := Lib.hid (below_al w (.cells #[.int .i64 r.rows, .int .i64 r.mid, .int .i64 r.gap, .int .i64 r.reach, .slice r.la r.ls.length r.lc] 24))
  unfold Rk.val
  by_cases h1 : r.ls.length ≤ 16
  · have e1 : (r.ls.length : Int) ≤ 16 := by omega
    by_cases h2 : n ≤ 15
    · have e2 : (n : Int) ≤ 15 := by omega
      by_cases h3 : m ≤ 8
      · have e3 : (m : Int) ≤ 8 := by omega
        have HV := Lib.hid (show R = true by rw [HR.out]; simp [h1, h2, h3])
        clear h1 h2 h3 HR
        go_enter Tryd.func15, Tryd.ntmps15
        go_wp2_with fail
        go_ret
        exact ⟨by rw [HV.out]; first | done | rfl, B1.out⟩
      · have e3 : ¬ (m : Int) ≤ 8 := by omega
        have HV := Lib.hid (show R = false by rw [HR.out]; simp [h1, h2, h3])
        clear h1 h2 h3 HR
        go_enter Tryd.func15, Tryd.ntmps15
        go_wp2_with fail
        go_ret
        exact ⟨by rw [HV.out]; first | done | rfl, B1.out⟩
    · have e2 : ¬ (n : Int) ≤ 15 := by omega
      have HV := Lib.hid (show R = false by rw [HR.out]; simp [h1, h2])
      clear h1 h2 HR
      go_enter Tryd.func15, Tryd.ntmps15
      go_wp2_with fail
      go_ret
      exact ⟨by rw [HV.out]; first | done | rfl, B1.out⟩
  · have e1 : ¬ (r.ls.length : Int) ≤ 16 := by omega
    have HV := Lib.hid (show R = false by rw [HR.out]; simp [h1])
    clear h1 HR
    go_enter Tryd.func15, Tryd.ntmps15
    go_wp2_with fail
    go_ret
    exact ⟨by rw [HV.out]; first | done | rfl, B1.out⟩

end Go.Proofs.YtaloffdkadhhnaaDoor
