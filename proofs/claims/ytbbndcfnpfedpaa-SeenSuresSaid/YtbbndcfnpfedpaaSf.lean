/- The contract of with: a set of tellers, some more put in. -/
import Derived.Test.YtbbndcfnpfedpaaSe
set_option linter.unusedVariables false
set_option linter.unusedSimpArgs false
namespace Go.Proofs.Ytbbndcfnpfedpaa
open Go.RowKit

attribute [local go_sem] Oper.semAt_some

/-- A set of tellers, in memory and as a value. -/
def fCells (s : Int → Bool) : Array Value := #[.bool (s 0), .bool (s 1), .bool (s 2), .bool (s 3)]
def fVal (s : Int → Bool) : Value := .agg (fCells s)
def withS (s : Int → Bool) (ts : List Int) : Int → Bool := fun t => s t || hasI ts t
theorem withS_nil (s : Int → Bool) : withS s [] = s := by funext t; simp [withS, hasI]
theorem withS_snoc (s : Int → Bool) (ts : List Int) (x : Int) : withS s (ts ++ [x]) = fun t => withS s ts t || (x == t) := by funext t; unfold withS; rw [hasI_snoc]; simp [Bool.or_assoc]

theorem fSet {W : World} {b : Nat} {s : Int → Bool} {x : Int} (h : Blk W b (fCells s) 88) (h0 : 0 ≤ x) (h3 : x ≤ 3) : Blk (W.setCell ⟨b, x.toNat, none⟩ (.bool true)) b (fCells fun t => s t || (x == t)) 88 := by
  have := Blk.setAt h x.toNat (.bool true)
  have e : (fCells s).setIfInBounds x.toNat (.bool true) = fCells (fun t => s t || (x == t)) := by
    obtain rfl | rfl | rfl | rfl : x = 0 ∨ x = 1 ∨ x = 2 ∨ x = 3 := by omega
    all_goals (unfold fCells; simp)
  rwa [e] at this

set_option maxRecDepth 100000 in
set_option maxHeartbeats 4000000 in
theorem with_any (s : Int → Bool) (ts : List Int) (a : Option Addr) (c : Nat) (w : World) (hT : IntsAt w a ts) (hB : ∀ x ∈ ts, 0 ≤ x ∧ x ≤ 3) (hn : ts.length ≤ 1000) :
    Calls Try.prog 64 #[fVal s, .slice a ts.length c] w fun e w' => e = .returned (fVal (withS s ts)) ∧ Below w.heap.size w w' := by
  have HT := Lib.hid hT
  have HB := Lib.hid hB
  have K0 := Lib.hid (show Blk ((w.alloc (.cells (fCells s) 88)).alloc (.cells #[.bool false, .bool false, .bool false, .bool false] 88)) w.heap.size (fCells s) 88 from Blk.alt (p := fun _ => False) (Blk.new w _ _) ((Alt.refl _ _).alloc _) id)
  have R0 := Lib.hid (show Blk ((w.alloc (.cells (fCells s) 88)).alloc (.cells #[.bool false, .bool false, .bool false, .bool false] 88)) (w.heap.size + 1) #[.bool false, .bool false, .bool false, .bool false] 88 from by
    have := Blk.new (w.alloc (.cells (fCells s) 88)) #[.bool false, .bool false, .bool false, .bool false] 88
    rwa [World.size_alloc] at this)
  have B0 := Lib.hid (below_al2 (below_al w (.cells (fCells s) 88)) (.cells #[.bool false, .bool false, .bool false, .bool false] 88))
  unfold fVal
  unfold fCells at B0 K0 R0 ⊢
  clear hT hB
  go_enter Try.func64, Try.ntmps64
  go_wp2_with fail
  generalize (w.alloc _).alloc _ = W0 at K0 B0 R0 ⊢
  go_loopg [9] ts.length (fun g s9 wx => ∃ (i : Nat), i ≤ ts.length ∧ g = ts.length - i ∧ s9 = .int .i64 (i : Int) ∧ Hid (Blk wx w.heap.size (fCells (withS s (ts.take i))) 88) ∧ Hid (Blk wx (w.heap.size + 1) #[.bool false, .bool false, .bool false, .bool false] 88) ∧ Hid (Below w.heap.size w wx))
  case atStart => exact ⟨0, by omega, by omega, rfl, by rw [List.take_zero, withS_nil]; exact K0, R0, B0⟩
  case round =>
    obtain ⟨i, hi', rfl, rfl, hK, hR, hB⟩ := hrel
    clear K0 R0 B0
    by_cases hlt : i < ts.length
    · have hz0 : (0 : Int) ≤ (i : Int) := by omega
      have hz1 : (i : Int) < (ts.length : Int) := by omega
      obtain ⟨x, hx⟩ : ∃ x, ts[i]? = some x := ⟨ts[i]'hlt, List.getElem?_eq_getElem _⟩
      obtain ⟨g, o, rfl, k1⟩ := HT.out _ _ hx
      have c1 := cell_lo hB.out k1
      have hx0 := (HB.out x (List.mem_of_getElem? hx)).1
      have hx3 := (HB.out x (List.mem_of_getElem? hx)).2
      have hx4 : x < 4 := by omega
      have AX := Lib.hid ((Alt.refl (fun k => k = w.heap.size) wr).setCell (q := ⟨w.heap.size, x.toNat, none⟩) rfl (.bool true))
      have KN := Lib.hid (show Blk (wr.setCell ⟨w.heap.size, x.toNat, none⟩ (.bool true)) w.heap.size (fCells (withS s (ts.take (i + 1)))) 88 from by
        rw [take_next hx, withS_snoc]; exact fSet hK.out hx0 hx3)
      have RN := Lib.hid (hR.out.alt AX.out (by omega))
      have BN := Lib.hid (show Below w.heap.size w (wr.setCell ⟨w.heap.size, x.toNat, none⟩ (.bool true)) from ((Alt.of_below (p := fun k => w.heap.size ≤ k) hB.out (fun k _ e => e)).trans (AX.out.mono fun k _ e => by omega)).below (Nat.le_refl _) fun _ e => e)
      have fx := hK.out.fr x.toNat
      have lx : x.toNat < (fCells (withS s (ts.take i))).size := by unfold fCells; simp; omega
      obtain ⟨u, hu⟩ : ∃ u, (fCells (withS s (ts.take i)))[x.toNat]? = some (.bool u) := ⟨withS s (ts.take i) x, by
        obtain rfl | rfl | rfl | rfl : x = 0 ∨ x = 1 ∨ x = 2 ∨ x = 3 := by omega
        all_goals rfl⟩
      have cx := hK.out.cell x.toNat hu
      clear hu lx hx k1 hK AX
      go_wp2_with fail
      generalize World.setCell _ _ _ = w2 at KN RN BN ⊢
      clear c1 cx fx
      go_wp2_with fail
      go_roundg (ts.length - (i + 1))
      case measure => omega
      case rel => exact ⟨i + 1, by omega, rfl, by simp, KN, RN, BN⟩
    · have hz1 : ¬ (i : Int) < (ts.length : Int) := by omega
      have hK2 := hK.out
      rw [List.take_of_length_le (by omega)] at hK2
      have HK := Lib.hid hK2
      clear hK hK2 hlt
      obtain ⟨S, hS⟩ : ∃ S, S = withS s ts := ⟨_, rfl⟩
      rw [← hS] at HK
      have HSS := Lib.hid hS
      clear hS
      have q0 := HK.out.cell 0 (show _ = some (Value.bool (S 0)) from rfl)
      have q1 := HK.out.cell 1 (show _ = some (Value.bool (S 1)) from rfl)
      have q2 := HK.out.cell 2 (show _ = some (Value.bool (S 2)) from rfl)
      have q3 := HK.out.cell 3 (show _ = some (Value.bool (S 3)) from rfl)
      have t0 := hR.out.cell 0 (show _ = some (Value.bool false) from rfl)
      have t1 := hR.out.cell 1 (show _ = some (Value.bool false) from rfl)
      have t2 := hR.out.cell 2 (show _ = some (Value.bool false) from rfl)
      have t3 := hR.out.cell 3 (show _ = some (Value.bool false) from rfl)
      have f0 := hR.out.fr 0
      have f1 := hR.out.fr 1
      have f2 := hR.out.fr 2
      have f3 := hR.out.fr 3
      have AX := Lib.hid (((((Alt.refl (fun k => k = w.heap.size + 1) wr).setCell (q := ⟨w.heap.size + 1, 0, none⟩) rfl (.bool (S 0))).setCell (q := ⟨w.heap.size + 1, 1, none⟩) rfl (.bool (S 1))).setCell (q := ⟨w.heap.size + 1, 2, none⟩) rfl (.bool (S 2))).setCell (q := ⟨w.heap.size + 1, 3, none⟩) rfl (.bool (S 3)))
      have TX := Lib.hid (Blk.setAt (Blk.setAt (Blk.setAt (Blk.setAt hR.out 0 (.bool (S 0))) 1 (.bool (S 1))) 2 (.bool (S 2))) 3 (.bool (S 3)))
      clear hR
      go_wp2_with fail
      have tx := TX.out
      have ax := AX.out
      generalize World.setCell _ _ _ = X at tx ax ⊢
      have h0 : X.cell? ⟨w.heap.size + 1, 0, none⟩ = some (.bool (S 0)) := tx.cell 0 rfl
      have h1 : X.cell? ⟨w.heap.size + 1, 1, none⟩ = some (.bool (S 1)) := tx.cell 1 rfl
      have h2 : X.cell? ⟨w.heap.size + 1, 2, none⟩ = some (.bool (S 2)) := tx.cell 2 rfl
      have h3 : X.cell? ⟨w.heap.size + 1, 3, none⟩ = some (.bool (S 3)) := tx.cell 3 rfl
      clear tx
      refine bodyPost_ret (v := .agg #[.bool (S 0), .bool (S 1), .bool (S 2), .bool (S 3)]) (by simp [results, Try.results64, go_sem, h0, h1, h2, h3]) rfl ⟨by rw [HSS.out], ?_⟩
      exact ((Alt.of_below (p := fun k => w.heap.size ≤ k) hB.out (fun k _ e => e)).trans (ax.mono fun k _ e => by omega)).below (Nat.le_refl _) fun _ e => e

end Go.Proofs.Ytbbndcfnpfedpaa
