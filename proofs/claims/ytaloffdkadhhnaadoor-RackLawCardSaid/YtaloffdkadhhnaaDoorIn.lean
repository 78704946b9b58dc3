/- The contract of the law's ints. -/
import Derived.Test.YtaloffdkadhhnaaDoorTn
set_option linter.unusedVariables false
set_option linter.unusedSimpArgs false
namespace Go.Proofs.YtaloffdkadhhnaaDoor
open Go.RowKit

attribute [local go_sem] Oper.semAt_some

theorem grown_drewN {w w' : World} {row : Option Nat} (h : w.grownBy w' row) (n : Nat) : w.grownBy (w'.drewN n) row := by
  cases n <;> exact ⟨h.os, h.tape, h.output, h.size, h.block⟩

set_option maxRecDepth 100000 in
set_option maxHeartbeats 2000000 in
theorem ints_any (xs ys : List Int) (a b : Option Addr) (c d : Nat) (w : World) (hs : IntsAt w a xs) (ht : IntsAt w b ys) (hn : xs.length ≤ 1000) (hm : ys.length ≤ 1000) :
    Calls Tryd.prog 31 #[.slice a xs.length c, .slice b ys.length d] w fun e w' => e = .returned (.bool (decide (xs = ys))) ∧ Hid (w.grownBy w' none) := by
  have HS := Lib.hid hs
  have HT := Lib.hid ht
  clear hs ht
  by_cases hl : xs.length = ys.length
  · have hl1 : ((xs.length : Int) == (ys.length : Int)) = true := by simp [hl]
    have HL := Lib.hid hl
    clear hl
    go_enter Tryd.func31, Tryd.ntmps31
    go_wp2_with fail
    have hne : ((xs.length : Int) != (ys.length : Int)) = false := by simp [HL.out]
    simp only [hne]
    clear hl1
    go_loopw [5] (fun i wr => ∃ k : Nat, k ≤ xs.length ∧ i = .int .i64 k ∧ Hid (xs.take k = ys.take k) ∧ Hid (w.grownBy wr none)) (fun i _ => xs.length - (intOf i).toNat)
    case atStart => exact ⟨0, by omega, rfl, Lib.hid (by simp), Lib.hid (World.grownBy.refl w none)⟩
    case round =>
      obtain ⟨k, hk, rfl, hE, hg⟩ := hrel
      by_cases hlt : k < xs.length
      · obtain ⟨x, hx⟩ : ∃ x, Hid (xs[k]? = some x) := ⟨xs[k]'hlt, Lib.hid (List.getElem?_eq_getElem _)⟩
        obtain ⟨y, hy⟩ : ∃ y, Hid (ys[k]? = some y) := ⟨ys[k]'(by have := HL.out; omega), Lib.hid (List.getElem?_eq_getElem _)⟩
        obtain ⟨g, o, rfl, hc⟩ := HS.out k x hx.out
        obtain ⟨g', o', rfl, hc'⟩ := HT.out k y hy.out
        have cA := hg.out.cell hc (fun e => by cases e)
        have cB := hg.out.cell hc' (fun e => by cases e)
        have hlt1 : (k : Int) < (xs.length : Int) := by omega
        have hlt2 : (k : Int) < (ys.length : Int) := by have := HL.out; omega
        have hk0 : (0 : Int) ≤ (k : Int) := by omega
        have e2 : IntKind.i64.wrap ((k : Int) + 1) = (k : Int) + 1 := IntWalk.i64_in _ (by omega)
        clear hc hc'
        by_cases hxy : x = y
        · have hb : (x == y) = true := by simpa using hxy
          go_wp2
          go_still_tail 8, (by kernel_rfl)
          go_wp2_with fail
          have hn := Lib.hid (show xs.take (k + 1) = ys.take (k + 1) from by rw [List.take_add_one, List.take_add_one, hx.out, hy.out, hE.out, hxy])
          have hg2 := Lib.hid (grown_drewN hg.out 1)
          go_roundw
          case rel => first | exact ⟨k + 1, by omega, by simp, hn, hg2⟩ | ((repeat apply Exists.intro); exact ⟨⟨k + 1, by omega, by simp, hn, hg2⟩, rfl⟩)
          case measure => simp [intOf]; omega
        · have hb : (x == y) = false := by simpa using hxy
          have hD := Lib.hid (show decide (xs = ys) = false from by simp; intro h; apply hxy; have h1 := hx.out; have h2 := hy.out; rw [h, h2] at h1; cases h1; rfl)
          have hg2 := Lib.hid (grown_drewN hg.out 1)
          clear hxy
          go_wp2
          go_still_tail 8, (by kernel_rfl)
          go_wp2_with fail
          go_returns
          exact ⟨by rw [hD.out]; first | done | rfl, hg2⟩
      · have hD := Lib.hid (show decide (xs = ys) = true from by
          have h1 := hE.out
          have h2 := HL.out
          rw [show k = xs.length from by omega, List.take_length, h2, List.take_length] at h1
          simp [h1])
        have hlt1 : ¬ (k : Int) < (xs.length : Int) := by omega
        clear hlt
        go_wp2_with fail
        go_returns
        exact ⟨by rw [hD.out]; first | done | rfl, hg⟩
  · have hl1 : ((xs.length : Int) == (ys.length : Int)) = false := by simpa using fun h => hl (by omega)
    have hE := Lib.hid (show decide (xs = ys) = false from by simp; intro h; exact hl (by rw [h]))
    clear hl
    go_enter Tryd.func31, Tryd.ntmps31
    go_wp2_with fail
    go_returns
    exact ⟨by rw [hE.out]; first | done | rfl, Lib.hid (World.grownBy.refl w none)⟩

theorem ints_lo {w w' : World} (h : w.grownBy w' none) : Below w.heap.size w w' := ((Alt.refl (fun k => w.heap.size ≤ k) w).grown h (fun k e => by cases e)).below (Nat.le_refl _) fun _ h => h

end Go.Proofs.YtaloffdkadhhnaaDoor
