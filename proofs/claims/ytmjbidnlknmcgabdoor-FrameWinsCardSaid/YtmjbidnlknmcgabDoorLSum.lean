/- The contract of a sum. The contract of a sum, once more: it leaves the world alone. The contracts of the law's own small functions: ints, ten, evening. The contract of many. -/
import Derived.Test.YtmjbidnlknmcgabDoorLQ
set_option linter.unusedVariables false
set_option linter.unusedSimpArgs false
namespace Go.Proofs.YtmjbidnlknmcgabDoor
open Go.RowKit

theorem sum_bd : ∀ (xs : List Int), (∀ x ∈ xs, 0 ≤ x ∧ x ≤ 1000) → 0 ≤ xs.sum ∧ xs.sum ≤ 1000 * xs.length
  | [], _ => by simp
  | x :: xs, h => by
    have h1 := h x (by simp)
    have h2 := sum_bd xs (fun y hy => h y (by simp [hy]))
    simp only [List.sum_cons, List.length_cons]
    omega

theorem sum_take (xs : List Int) (k : Nat) (x : Int) (h : xs[k]? = some x) : (xs.take (k + 1)).sum = (xs.take k).sum + x := by
  rw [List.take_add_one, h]
  simp

set_option maxRecDepth 100000 in
set_option maxHeartbeats 2000000 in
theorem sum_any (xs : List Int) (a : Option Addr) (c : Nat) (w : World) (hs : BallsAt w a xs) (hb : ∀ x ∈ xs, 0 ≤ x ∧ x ≤ 1000) (hn : xs.length ≤ 100) :
    Calls Tryd.prog 44 #[.slice a xs.length c] w fun e w' => e = .returned (.int .i64 xs.sum) ∧ Hid (w.grownBy w' none) := by
  have HS := Lib.hid hs
  have HB := Lib.hid hb
  clear hs hb
  go_enter Tryd.func44, Tryd.ntmps44
  go_wp2_with fail
  go_loopw [3, 8] (fun t i wr => ∃ (k : Nat) (s : Int), k ≤ xs.length ∧ i = .int .i64 k ∧ t = .int .i64 s ∧ Hid (s = (xs.take k).sum) ∧ Hid (w.grownBy wr none)) (fun _ i _ => xs.length - (intOf i).toNat)
  case atStart => exact ⟨0, 0, by omega, rfl, rfl, Lib.hid (by simp), Lib.hid (World.grownBy.refl w none)⟩
  case round =>
    obtain ⟨k, s, hk, rfl, rfl, hs, hg⟩ := hrel
    by_cases hlt : k < xs.length
    · obtain ⟨x, hx⟩ : ∃ x, Hid (xs[k]? = some x) := ⟨xs[k]'hlt, Lib.hid (List.getElem?_eq_getElem _)⟩
      obtain ⟨g, o, rfl, hc⟩ := HS.out k x hx.out
      have cB := hg.out.cell hc (fun e => by cases e)
      have hbs := sum_bd (xs.take k) (fun y hy => HB.out y (List.mem_of_mem_take hy))
      have hbx := HB.out x (List.mem_of_getElem? hx.out)
      have hlk : (xs.take k).length ≤ 100 := by simp; omega
      have hs0 : s ≤ 100000 ∧ 0 ≤ s := by rw [hs.out]; omega
      have e1 : IntKind.i64.wrap (s + x) = s + x := IntWalk.i64_in _ (by omega)
      have e2 : IntKind.i64.wrap ((k : Int) + 1) = (k : Int) + 1 := IntWalk.i64_in _ (by omega)
      have hlt1 : (k : Int) < (xs.length : Int) := by omega
      have hn1 := Lib.hid (sum_take xs k x hx.out)
      clear hc hbs hbx hlk hs0
      go_wp2_with fail
      go_roundw
      case rel => exact ⟨k + 1, s + x, by omega, by simp, rfl, Lib.hid (by rw [hn1.out, hs.out]), hg⟩
      case measure => simp [intOf]; omega
    · have hke : k = xs.length := by omega
      have hS := Lib.hid (show s = xs.sum from by rw [hs.out, hke, List.take_length])
      have hlt1 : ¬ (k : Int) < (xs.length : Int) := by omega
      clear hke hlt
      go_wp2_with fail
      go_returns
      exact ⟨by rw [← hS.out]; first | done | rfl, hg⟩

end Go.Proofs.YtmjbidnlknmcgabDoor

namespace Go.Proofs.YtmjbidnlknmcgabDoor
open Go.RowKit

theorem sum_bd2 : ∀ (xs : List Int), (∀ x ∈ xs, 0 ≤ x ∧ x ≤ 100000) → 0 ≤ xs.sum ∧ xs.sum ≤ 100000 * xs.length
  | [], _ => by simp
  | x :: xs, h => by
    have h1 := h x (by simp)
    have h2 := sum_bd2 xs (fun y hy => h y (by simp [hy]))
    simp only [List.sum_cons, List.length_cons]
    omega

set_option maxRecDepth 100000 in
set_option maxHeartbeats 2000000 in
theorem sum_same (xs : List Int) (a : Option Addr) (c : Nat) (w : World) (hs : BallsAt w a xs) (hb : ∀ x ∈ xs, 0 ≤ x ∧ x ≤ 100000) (hn : xs.length ≤ 100) :
    Calls Tryd.prog 44 #[.slice a xs.length c] w fun e w' => e = .returned (.int .i64 xs.sum) ∧ w' = w := by
  have HS := Lib.hid hs
  have HB := Lib.hid hb
  clear hs hb
  go_enter Tryd.func44, Tryd.ntmps44
  go_wp2_with fail
  go_loopw [3, 8] (fun t i wr => ∃ (k : Nat) (s : Int), k ≤ xs.length ∧ i = .int .i64 k ∧ t = .int .i64 s ∧ Hid (s = (xs.take k).sum) ∧ wr = w) (fun _ i _ => xs.length - (intOf i).toNat)
  case atStart => exact ⟨0, 0, by omega, rfl, rfl, Lib.hid (by simp), by first | rfl | trivial⟩
  case round =>
    obtain ⟨k, s, hk, rfl, rfl, hs, rfl⟩ := hrel
    by_cases hlt : k < xs.length
    · obtain ⟨x, hx⟩ : ∃ x, Hid (xs[k]? = some x) := ⟨xs[k]'hlt, Lib.hid (List.getElem?_eq_getElem _)⟩
      obtain ⟨g, o, rfl, cB⟩ := HS.out k x hx.out
      have hbs := sum_bd2 (xs.take k) (fun y hy => HB.out y (List.mem_of_mem_take hy))
      have hbx := HB.out x (List.mem_of_getElem? hx.out)
      have hlk : (xs.take k).length ≤ 100 := by simp; omega
      have hs0 : s ≤ 10000000 ∧ 0 ≤ s := by rw [hs.out]; omega
      have e1 : IntKind.i64.wrap (s + x) = s + x := IntWalk.i64_in _ (by omega)
      have e2 : IntKind.i64.wrap ((k : Int) + 1) = (k : Int) + 1 := IntWalk.i64_in _ (by omega)
      have hlt1 : (k : Int) < (xs.length : Int) := by omega
      have hn1 := Lib.hid (sum_take xs k x hx.out)
      clear hbs hbx hlk hs0
      go_wp2_with fail
      go_roundw
      case rel => exact ⟨k + 1, s + x, by omega, by simp, rfl, Lib.hid (by rw [hn1.out, hs.out]), by first | rfl | trivial⟩
      case measure => simp [intOf]; omega
    · have hke : k = xs.length := by omega
      have hS := Lib.hid (show s = xs.sum from by rw [hs.out, hke, List.take_length])
      have hlt1 : ¬ (k : Int) < (xs.length : Int) := by omega
      clear hke hlt
      go_wp2_with fail
      go_returns
      exact ⟨by rw [← hS.out]; first | done | rfl, by first | rfl | trivial⟩

end Go.Proofs.YtmjbidnlknmcgabDoor

namespace Go.Proofs.YtmjbidnlknmcgabDoor
open Go.RowKit

def tenL : Lw := ⟨10, 10, 2, 10⟩

set_option maxRecDepth 100000 in
set_option maxHeartbeats 1000000 in
theorem ten_any (w : World) : Calls Tryd.prog 13 #[] w fun e w' => e = .returned tenL.val ∧ Below w.heap.size w w' := by
  unfold Lw.val
  go_enter Tryd.func13, Tryd.ntmps13
  go_wp2_with fail
  first
    | (go_ret; exact ⟨rfl, (Below.refl _ _).alloc (Nat.le_refl _) _⟩)
    | (refine bodyPost_ret (v := .agg #[.int .i64 10, .int .i64 10, .int .i64 2, .int .i64 10]) (by simp [results, Tryd.results13, go_sem]) rfl ?_; exact ⟨rfl, (Below.refl _ _).alloc (Nat.le_refl _) _⟩)

set_option maxRecDepth 100000 in
set_option maxHeartbeats 1000000 in
theorem eve_any (w : World) : Calls Tryd.prog 14 #[] w fun e w' => e = .returned (.slice (some ⟨w.heap.size, 0, none⟩) 6 6) ∧ BallsAt w' (some ⟨w.heap.size, 0, none⟩) [10, 7, 3, 9, -1, 4] ∧ Below w.heap.size w w' := by
  go_enter Tryd.func14, Tryd.ntmps14
  go_wp2_with fail
  go_ret
  refine ⟨rfl, ?_, (Below.refl _ _).alloc (Nat.le_refl _) _⟩
  have h := heap_alloc_new w (.cells #[.int .i64 10, .int .i64 7, .int .i64 3, .int .i64 9, .int .i64 (-1), .int .i64 4] 3)
  intro i v hv
  refine ⟨w.heap.size, 0, rfl, ?_⟩
  show (w.alloc (.cells #[.int .i64 10, .int .i64 7, .int .i64 3, .int .i64 9, .int .i64 (-1), .int .i64 4] 3)).cell? ⟨w.heap.size, 0 + i, none⟩ = _
  generalize w.alloc _ = w1 at h ⊢
  unfold World.cell?
  simp only [h]
  match i, hv with
  | 0, hv => cases hv; rfl
  | 1, hv => cases hv; rfl
  | 2, hv => cases hv; rfl
  | 3, hv => cases hv; rfl
  | 4, hv => cases hv; rfl
  | 5, hv => cases hv; rfl
  | n + 6, hv => simp at hv

set_option maxRecDepth 100000 in
set_option maxHeartbeats 2000000 in
theorem ints_any (xs ys : List Int) (a b : Option Addr) (c d : Nat) (w : World) (hs : BallsAt w a xs) (ht : BallsAt w b ys) (hn : xs.length ≤ 1000) (hm : ys.length ≤ 1000) :
    Calls Tryd.prog 11 #[.slice a xs.length c, .slice b ys.length d] w fun e w' => e = .returned (.bool (decide (xs = ys))) ∧ Hid (w.grownBy w' none) := by
  have HS := Lib.hid hs
  have HT := Lib.hid ht
  clear hs ht
  by_cases hl : xs.length = ys.length
  · have hl1 : ((xs.length : Int) == (ys.length : Int)) = true := by simp [hl]
    have HL := Lib.hid hl
    clear hl
    go_enter Tryd.func11, Tryd.ntmps11
    go_wp2_with fail
    have hne : ((xs.length : Int) != (ys.length : Int)) = false := by simp [HL.out]
    simp only [hne]
    clear hl1
    go_loopw [5] (fun i wr => ∃ k : Nat, k ≤ xs.length ∧ i = .int .i64 k ∧ Hid (xs.take k = ys.take k) ∧ Hid (w.grownBy wr none)) (fun i _ => xs.length - (intOf i).toNat)
    case atStart => exact ⟨0, by omega, rfl, Lib.hid (by simp), Lib.hid (World.grownBy.refl w none)⟩
    case round =>
      obtain ⟨k, hk, rfl, hE, hg⟩ := hrel
      by_cases hlt : k < xs.length
      · obtain ⟨x, hx⟩ : ∃ x, Hid (xs[k]? = some x) := ⟨xs[k]'hlt, Lib.hid (List.getElem?_eq_getElem _)⟩
        obtain ⟨y, hy⟩ : ∃ y, Hid (ys[k]? = some y) := ⟨ys[k]'(by have := HL.out; omega), Lib.hid (List.getElem?_eq_getElem _)⟩
        obtain ⟨g, o, rfl, hc⟩ := HS.out k x hx.out
        obtain ⟨g', o', rfl, hc'⟩ := HT.out k y hy.out
        have cA := hg.out.cell hc (fun e => by cases e)
        have cB := hg.out.cell hc' (fun e => by cases e)
        have hlt1 : (k : Int) < (xs.length : Int) := by omega
        have hlt2 : (k : Int) < (ys.length : Int) := by have := HL.out; omega
        have hk0 : (0 : Int) ≤ (k : Int) := by omega
        have e2 : IntKind.i64.wrap ((k : Int) + 1) = (k : Int) + 1 := IntWalk.i64_in _ (by omega)
        clear hc hc'
        by_cases hxy : x = y
        · have hb : (x == y) = true := by simpa using hxy
          go_wp2
          go_still_tail 8, (by kernel_rfl)
          go_wp2_with fail
          have hn := Lib.hid (show xs.take (k + 1) = ys.take (k + 1) from by rw [List.take_add_one, List.take_add_one, hx.out, hy.out, hE.out, hxy])
          have hg2 := Lib.hid (grown_drewN hg.out 1)
          go_roundw
          case rel => first | exact ⟨k + 1, by omega, by simp, hn, hg2⟩ | ((repeat apply Exists.intro); exact ⟨⟨k + 1, by omega, by simp, hn, hg2⟩, rfl⟩)
          case measure => simp [intOf]; omega
        · have hb : (x == y) = false := by simpa using hxy
          have hD := Lib.hid (show decide (xs = ys) = false from by simp; intro h; apply hxy; have h1 := hx.out; have h2 := hy.out; rw [h, h2] at h1; cases h1; rfl)
          have hg2 := Lib.hid (grown_drewN hg.out 1)
          clear hxy
          go_wp2
          go_still_tail 8, (by kernel_rfl)
          go_wp2_with fail
          go_returns
          exact ⟨by rw [hD.out]; first | done | rfl, hg2⟩
      · have hD := Lib.hid (show decide (xs = ys) = true from by
          have h1 := hE.out
          have h2 := HL.out
          rw [show k = xs.length from by omega, List.take_length, h2, List.take_length] at h1
          simp [h1])
        have hlt1 : ¬ (k : Int) < (xs.length : Int) := by omega
        clear hlt
        go_wp2_with fail
        go_returns
        exact ⟨by rw [hD.out]; first | done | rfl, hg⟩
  · have hl1 : ((xs.length : Int) == (ys.length : Int)) = false := by simpa using fun h => hl (by omega)
    have hE := Lib.hid (show decide (xs = ys) = false from by simp; intro h; exact hl (by rw [h]))
    clear hl
    go_enter Tryd.func11, Tryd.ntmps11
    go_wp2_with fail
    go_returns
    exact ⟨by rw [hE.out]; first | done | rfl, Lib.hid (World.grownBy.refl w none)⟩

end Go.Proofs.YtmjbidnlknmcgabDoor

namespace Go.Proofs.YtmjbidnlknmcgabDoor
open Go.RowKit

theorem below_own {w W W' : World} {v : Value} {n : Nat} {e : TypeId} {xs : List Value} (hB : Below w.heap.size w W) (ho : W.ownsRow w.heap.size e 1 v n xs) (hg : W.grownBy W' v.ownBlock) : Below w.heap.size w W' :=
  hB.grown hg hB.size (fun k e => (ho.lt k e).1)

set_option maxRecDepth 100000 in
set_option maxHeartbeats 2000000 in
theorem many_some (ball : Int) (times : Nat) (xs : List Int) (g o c : Nat) (w : World) (ht : times ≤ 100) (hn : xs.length ≤ 100) (hs : BallsAt w (some ⟨g, o, none⟩) xs) (h0 : 0 < xs.length) :
    Calls Tryd.prog 18 #[.int .i64 ball, .int .i64 (times : Int), .slice (some ⟨g, o, none⟩) xs.length c] w fun e w' => ∃ v, e = .returned v ∧
      w'.ownsRow w.heap.size 3 1 v (times + xs.length) ((List.replicate times ball ++ xs).map (Value.int .i64)) ∧ Below w.heap.size w w' := by
  have HS := Lib.hid hs
  clear hs
  obtain ⟨i3, hi3, hy0, hy1, hy2⟩ := info_parts info3
  go_enter Tryd.func18, Tryd.ntmps18
  go_wp2_with fail
  go_loopw [7, 8] (fun v i wr => ∃ k : Nat, k ≤ times ∧ i = .int .i64 k ∧ Hid (wr.ownsRow w.heap.size 3 1 v k ((List.replicate k ball).map (Value.int .i64))) ∧ Hid (Below w.heap.size w wr)) (fun _ i _ => times - (intOf i).toNat)
  case atStart => exact ⟨0, by omega, rfl, Lib.hid (World.ownsRow_nil _ _ _ _), Lib.hid (Below.refl _ _)⟩
  case round =>
    obtain ⟨k, hk, rfl, how, hB⟩ := hrel
    by_cases hlt : k < times
    · have hlt1 : (k : Int) < (times : Int) := by omega
      have e2 : IntKind.i64.wrap ((k : Int) + 1) = (k : Int) + 1 := IntWalk.i64_in _ (by omega)
      have hsz := hB.out.size
      have how0 := how.out
      go_wp2_with (at_builtin; refine wpList_append_own_at _ rfl _ _ 28 rfl w.heap.size 3 i3 (.int .i64 0) 1 8 Tryd.underlying28 hi3 hy0 hy1 hy2 rfl (by decide) _ _ _ rfl (how0.alloc _) ⟨wr.heap.size, 0, none⟩ 1 1 [.int .i64 ball] rfl rfl (cell_one_new _ _ _) (by simp [Value.oneCell']) (by unfold maxLen; omega) (by omega) (by simp; omega) ?_; intro v' w1 hown' hgrow hnil hloc; have ho1 := Lib.hid hown'; have hB1 := Lib.hid (below_own (hB.out.alloc hsz _) (how0.alloc _) hgrow); clear hown' hgrow hnil hloc)
      refine ⟨⟨k + 1, by omega, by simp, Lib.hid ?_, hB1⟩, by simp [intOf]; omega⟩
      have h := ho1.out
      rw [List.replicate_succ', List.map_append]
      exact h
    · have hlt1 : ¬ (k : Int) < (times : Int) := by omega
      have hke : k = times := by omega
      subst hke
      have hsz := hB.out.size
      have how0 := how.out
      have hnews : ∀ j u, (xs.map (Value.int .i64))[j]? = some u → wr.cell? ((⟨g, o, none⟩ : Addr).add j) = some u := by
        intro j u hj
        rw [List.getElem?_map] at hj
        cases hx : xs[j]? with
        | none => rw [hx] at hj; cases hj
        | some x =>
          rw [hx] at hj
          cases hj
          obtain ⟨g', o', e, hc⟩ := HS.out j x hx
          cases e
          have e : (⟨g, o, none⟩ : Addr).add j = ⟨g, o + j, none⟩ := by unfold Addr.add; split <;> simp_all
          rw [e, hB.out.cell (p := ⟨g, o + j, none⟩) (World.block_lt_of_cell? w _ hc)]
          exact hc
      go_wp2_with (at_builtin; refine wpList_append_own_at _ rfl _ _ 28 rfl w.heap.size 3 i3 (.int .i64 0) 1 8 Tryd.underlying28 hi3 hy0 hy1 hy2 rfl (by decide) _ _ _ rfl how0 ⟨g, o, none⟩ xs.length c (xs.map (Value.int .i64)) rfl (by simp) hnews (by simp [Value.oneCell']) (by unfold maxLen; omega) (by omega) hsz ?_; intro v' w1 hown' hgrow hnil hloc; have ho1 := Lib.hid hown'; have hB1 := Lib.hid (below_own hB.out how0 hgrow); clear hown' hgrow hnil hloc)
      go_returns
      exact ⟨v', rfl, by have h := ho1.out; rw [List.map_replicate] at h; exact h, hB1.out⟩

end Go.Proofs.YtmjbidnlknmcgabDoor
