/- The contract of the search for a straight ball. -/
import Derived.Test.YtaloffdkadhhnaaDoorCv
import Derived.ScopeJumps
import Derived.WalkMore
set_option linter.unusedVariables false
set_option linter.unusedSimpArgs false
namespace Go.Proofs.YtaloffdkadhhnaaDoor
open Go.RowKit

def lnAt (t : Nat) : Ln := ⟨((t / 7 : Nat) : Int), ((t % 7 : Nat) : Int) - 3⟩
/-- The first straight ball that is as asked. -/
def fstL (P : Ln → Bool) : Option Ln := ((List.range 427).find? fun t => P (lnAt t)).map lnAt

theorem fstL_some {P : Ln → Bool} {t : Nat} (h : t < 427) (hn : ∀ j, j < t → P (lnAt j) = false) (hp : P (lnAt t) = true) : fstL P = some (lnAt t) := by
  have e : (List.range 427).find? (fun t => P (lnAt t)) = some t := by
    rw [List.find?_range_eq_some]
    exact ⟨hp, by simpa using h, fun j hj => by simp [hn j hj]⟩
  rw [fstL, e]; rfl
theorem fstL_none {P : Ln → Bool} (hn : ∀ j, j < 427 → P (lnAt j) = false) : fstL P = none := by
  have e : (List.range 427).find? (fun t => P (lnAt t)) = none := by
    rw [List.find?_eq_none]
    intro j hj
    simp [hn j (by simpa using hj)]
  rw [fstL, e]; rfl
theorem lnAt_of {s d : Int} (s1 : 0 ≤ s) (d1 : -3 ≤ d) (d2 : d ≤ 3) : lnAt (7 * s.toNat + (d + 3).toNat) = ⟨s, d⟩ := by
  unfold lnAt
  congr 1 <;> omega

theorem Blk.fr {W : World} {b : Nat} {cs : Array Value} {t : TypeId} (h : Blk W b cs t) (i : Nat) : W.frozen? ⟨b, i, none⟩ = false := by
  unfold World.frozen?
  simp only [show W.heap[b]? = _ from h]
  simp
theorem Blk.set2 {W : World} {b : Nat} {x y : Value} {t : TypeId} (h : Blk W b #[x, y] t) (x' y' : Value) : Blk ((W.setCell ⟨b, 0, none⟩ x').setCell ⟨b, 1, none⟩ y') b #[x', y'] t := by
  have key : ∀ {W : World} {cs : Array Value} (h : Blk W b cs t) (i : Nat) (v : Value), Blk (W.setCell ⟨b, i, none⟩ v) b (cs.setIfInBounds i v) t := fun {W cs} h i v => by
    obtain ⟨hlt, hk⟩ := Array.getElem?_eq_some_iff.1 (show W.heap[b]? = _ from h)
    show (W.heap.modify b _)[b]? = _
    rw [Array.getElem?_eq_getElem (by rw [Array.size_modify]; exact hlt), Array.getElem_modify_self, hk]
    rfl
  exact key (key h 0 x') 1 y'

structure FLIs (P : Ln → Bool) (w : World) (e : Ending) (w' : World) (l : Ln) (b : Bool) : Prop where
  e : e = .returned (.tuple #[l.val, .bool b])
  y : b = true → fstL P = some l
  n : b = false → fstL P = none
  b : Below w.heap.size w w'
def FLPost (P : Ln → Bool) (w : World) (e : Ending) (w' : World) : Prop := ∃ l b, FLIs P w e w' l b

set_option maxRecDepth 100000 in
set_option maxHeartbeats 8000000 in
theorem firstLine_any (kf : Nat) (capf : Array Value) (P : Ln → Bool) (K : World → Prop) (w : World) (hK : ∀ A B, K A → Alt (fun k => w.heap.size ≤ k) A B → K B) (hK0 : K w)
    (ek : ∀ args w, (callFunc kf args).run Tryd.prog w = .ok (.enter kf args) w)
    (CF : ∀ l : Ln, ∀ W, 0 ≤ l.st → l.st ≤ 60 → -3 ≤ l.dr → l.dr ≤ 3 → K W → Calls Tryd.prog kf (#[l.val] ++ capf) W fun e W' => e = .returned (.bool (P l)) ∧ Below W.heap.size W W') :
    Calls Tryd.prog 81 #[.func (.func kf) #[] capf] w (FLPost P w) := by
  have HCF := Lib.hid CF
  clear CF
  have hb0 := Lib.hid (below_al w (.cells #[.int .i64 0, .int .i64 0] 73))
  have b0 := Lib.hid (Blk.new w #[.int .i64 0, .int .i64 0] 73)
  go_enter Tryd.func81, Tryd.ntmps81
  go_wp2_with fail
  go_step3
  go_wp2_with fail
  go_step3
  go_wp2_with fail
  generalize World.alloc w _ = W1 at hb0 b0 ⊢
  go_loopg [3, 6] 61 (fun g s3 s6 wx => ∃ (i : Nat) (c d : Int), i ≤ 61 ∧ g = 61 - i ∧ s6 = .int .i64 (i : Int) ∧ s3 = .bool false ∧ Hid (∀ j, j < 7 * i → P (lnAt j) = false) ∧ Hid (Blk wx w.heap.size #[.int .i64 c, .int .i64 d] 73) ∧ Hid (Below w.heap.size w wx))
  case atStart => exact ⟨0, 0, 0, by omega, rfl, rfl, rfl, Lib.hid (fun j hj => by omega), b0, hb0⟩
  case round =>
    obtain ⟨i, c, d, hi, rfl, rfl, rfl, hN, hB, hW⟩ := hrel
    by_cases hlt : i < 61
    · have hz1 : (i : Int) < 61 := by omega
      obtain ⟨wo, rfl⟩ : ∃ wo : World, wo = wr := ⟨_, rfl⟩
      clear hb0 b0
      go_wp2_with fail
      go_loopg [3, 5] 7 (fun g s3 s5 wx => ∃ (j : Nat) (c d : Int), j ≤ 7 ∧ g = 7 - j ∧ s5 = .int .i64 ((j : Int) - 3) ∧ s3 = .bool false ∧ Hid (∀ m, m < 7 * i + j → P (lnAt m) = false) ∧ Hid (Blk wx w.heap.size #[.int .i64 c, .int .i64 d] 73) ∧ Hid (Below w.heap.size w wx))
      case atStart => exact ⟨0, c, d, by omega, rfl, rfl, rfl, hN, hB, hW⟩
      case round =>
        obtain ⟨j, c1, d1, hj, rfl, rfl, rfl, hN1, hB1, hW1⟩ := hrel
        clear hB hW hN
        have f0 := hB1.out.fr 0
        have f1 := hB1.out.fr 1
        have k0 : wr.cell? ⟨w.heap.size, 0, none⟩ = some (.int .i64 c1) := hB1.out.cell 0 rfl
        have k1 : wr.cell? ⟨w.heap.size, 1, none⟩ = some (.int .i64 d1) := hB1.out.cell 1 rfl
        by_cases hjt : j < 7
        · have hz2 : (j : Int) - 3 ≤ 3 := by omega
          have B2 := Lib.hid (hB1.out.set2 (.int .i64 (i : Int)) (.int .i64 ((j : Int) - 3)))
          have W2 := Lib.hid ((hW1.out.setCell (p := ⟨w.heap.size, 0, none⟩) (Nat.le_refl _) (.int .i64 (i : Int))).setCell (p := ⟨w.heap.size, 1, none⟩) (Nat.le_refl _) (.int .i64 ((j : Int) - 3)))
          have CX := Lib.hid (HCF.out ⟨(i : Int), (j : Int) - 3⟩ _ (by simp) (by simp; omega) (by simp only; omega) (by simp only; omega) (hK _ _ hK0 (Alt.of_below W2.out (fun _ _ h => h))))
          have hln : lnAt (7 * i + j) = ⟨(i : Int), (j : Int) - 3⟩ := by
            have := lnAt_of (s := (i : Int)) (d := (j : Int) - 3) (by omega) (by omega) (by omega)
            rw [← this]; congr 1; omega
          have HLN := Lib.hid hln
          clear hln
          unfold Ln.val at CX
          simp only at CX
          go_wp2_with fail
          refine CX.out.mono ?_
          rintro e w3 ⟨rfl, hb⟩
          have W3 := Lib.hid (below_go W2.out hb)
          have hlt3 := B2.out.lt
          have B3 := Lib.hid (Blk.alt B2.out (Alt.of_below (p := fun _ => False) hb (fun k hk h => by omega)) id)
          clear hb f0 f1 k0 k1 CX hlt3
          have k0 : w3.cell? ⟨w.heap.size, 0, none⟩ = some (.int .i64 (i : Int)) := B3.out.cell 0 rfl
          have k1 : w3.cell? ⟨w.heap.size, 1, none⟩ = some (.int .i64 ((j : Int) - 3)) := B3.out.cell 1 rfl
          have f0 := B3.out.fr 0
          have f1 := B3.out.fr 1
          cases hq : P ⟨(i : Int), (j : Int) - 3⟩
          · have HQ := Lib.hid hq
            clear hq
            go_wp2_with fail
            go_roundg (7 - (j + 1))
            case measure => omega
            case rel =>
              refine ⟨j + 1, _, _, by omega, rfl, by simp; omega, rfl, Lib.hid (fun m hm => ?_), B3, W3⟩
              by_cases hme : m = 7 * i + j
              · rw [hme, HLN.out]; exact HQ.out
              · exact hN1.out m (by omega)
          · have HQ := Lib.hid hq
            clear hq
            have B4 := Lib.hid (B3.out.set2 (.int .i64 (i : Int)) (.int .i64 ((j : Int) - 3)))
            have W4 := Lib.hid ((W3.out.setCell (p := ⟨w.heap.size, 0, none⟩) (Nat.le_refl _) (.int .i64 (i : Int))).setCell (p := ⟨w.heap.size, 1, none⟩) (Nat.le_refl _) (.int .i64 ((j : Int) - 3)))
            go_wp2_with fail
            generalize World.setCell (World.setCell _ _ _) _ _ = W9 at B4 W4 ⊢
            have h0 : W9.cell? ⟨w.heap.size, 0, none⟩ = some (.int .i64 (i : Int)) := B4.out.cell 0 rfl
            have h1 : W9.cell? ⟨w.heap.size, 1, none⟩ = some (.int .i64 ((j : Int) - 3)) := B4.out.cell 1 rfl
            rw [Exit.noGoto_ret]
            show bodyPost Tryd.prog Tryd.f81 _ Exit.ret _ _
            refine bodyPost_ret (v := .tuple #[.agg #[.int .i64 (i : Int), .int .i64 ((j : Int) - 3)], .bool true]) (by simp [results, Tryd.results81, go_sem, h0, h1]) rfl ⟨⟨(i : Int), (j : Int) - 3⟩, true, rfl, fun _ => ?_, fun h => (by cases h), W4.out⟩
            rw [← HLN.out]
            exact fstL_some (by omega) hN1.out (by rw [HLN.out]; exact HQ.out)
        · have hz2 : ¬ (j : Int) - 3 ≤ 3 := by omega
          go_wp2_with fail
          go_roundg (61 - (i + 1))
          case measure => omega
          case rel => exact ⟨i + 1, _, _, by omega, rfl, by simp, rfl, Lib.hid (fun m hm => hN1.out m (by omega)), hB1, hW1⟩
    · have hz1 : ¬ (i : Int) < 61 := by omega
      have k0 : wr.cell? ⟨w.heap.size, 0, none⟩ = some (.int .i64 c) := hB.out.cell 0 rfl
      have k1 : wr.cell? ⟨w.heap.size, 1, none⟩ = some (.int .i64 d) := hB.out.cell 1 rfl
      have f0 := hB.out.fr 0
      have f1 := hB.out.fr 1
      have B4 := Lib.hid (hB.out.set2 (.int .i64 c) (.int .i64 d))
      have W4 := Lib.hid ((hW.out.setCell (p := ⟨w.heap.size, 0, none⟩) (Nat.le_refl _) (.int .i64 c)).setCell (p := ⟨w.heap.size, 1, none⟩) (Nat.le_refl _) (.int .i64 d))
      go_wp2_with fail
      generalize World.setCell (World.setCell _ _ _) _ _ = W9 at B4 W4 ⊢
      have h0 : W9.cell? ⟨w.heap.size, 0, none⟩ = some (.int .i64 c) := B4.out.cell 0 rfl
      have h1 : W9.cell? ⟨w.heap.size, 1, none⟩ = some (.int .i64 d) := B4.out.cell 1 rfl
      refine bodyPost_ret (v := .tuple #[.agg #[.int .i64 c, .int .i64 d], .bool false]) (by simp [results, Tryd.results81, go_sem, h0, h1]) rfl ⟨⟨c, d⟩, false, rfl, fun h => (by cases h), fun _ => ?_, W4.out⟩
      exact fstL_none (fun j hj => hN.out j (by omega))

end Go.Proofs.YtaloffdkadhhnaaDoor
