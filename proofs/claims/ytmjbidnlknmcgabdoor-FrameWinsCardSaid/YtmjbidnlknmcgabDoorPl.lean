/- The reference's Play, as mathematics. -/
import Derived.Test.YtmjbidnlknmcgabDoorRf3
set_option linter.unusedVariables false
set_option linter.unusedSimpArgs false
namespace Go.Proofs.YtmjbidnlknmcgabDoor
open Go.RowKit

/-- The balls that may follow, each with its frame and its count. -/
def playL (l : Lw) : Sd → List Int → List (Int × Int)
  | _, [] => []
  | s, k :: ks => if okT l s k = true then (s.f, cnt l s k) :: playL l (behS l s k) ks else []
def playS (l : Lw) : Sd → List Int → Sd
  | s, [] => s
  | s, k :: ks => if okT l s k = true then playS l (behS l s k) ks else s

theorem play_fol (l : Lw) : ∀ (bs : List Int) (r : Rc), (fol l r bs).2 = (playL l r.s bs).length ∧ (fol l r bs).1.s = playS l r.s bs ∧ (fol l r bs).1.cs = r.cs ++ (playL l r.s bs).map (·.2)
  | [], r => by simp [fol, playL, playS]
  | k :: ks, r => by
    rw [fol, playL, playS]
    split
    · have h := play_fol l ks (noteR l r k)
      have hs : (noteR l r k).s = behS l r.s k := rfl
      have hc : (noteR l r k).cs = r.cs ++ [cnt l r.s k] := rfl
      rw [hs, hc] at h
      refine ⟨?_, h.2.1, ?_⟩
      · simp [h.1]
      · rw [h.2.2]; simp
    · simp

theorem fits_ok {l : Lw} {s : Sd} (v : Vd l s) (k : Int) : (decide ((refS l s).f < l.fr) && (decide (-1 ≤ k) && decide (k ≤ (refS l s).s))) = okT l s k := by
  have h2 := v.f2
  unfold refS okT
  by_cases h : s.f = l.fr
  · simp [h]
  · have h3 : s.f < l.fr := by omega
    simp [h, h3, Bool.and_assoc]

theorem nr_cnt {l : Lw} {s : Sd} {k : Int} (ok : l.Ok) (hf : s.f ≠ l.fr) (hk : -1 ≤ k) : nR l (refS l s) k = cnt l s k := by
  have t1 := ok.t1
  unfold nR cnt refS
  rw [if_neg hf]
  simp only
  by_cases h : k = -1
  · subst h
    have : ¬ l.tp ≤ 0 := by omega
    simp [this]
  · have h0 : ¬ k < 0 := by omega
    simp [h, h0]

theorem playL_step {l : Lw} {s : Sd} {bs : List Int} {i : Nat} {k : Int} (h : bs[i]? = some k) (ht : okT l s k = true) : playL l s (bs.drop i) = (s.f, cnt l s k) :: playL l (behS l s k) (bs.drop (i + 1)) ∧ playS l s (bs.drop i) = playS l (behS l s k) (bs.drop (i + 1)) := by
  obtain ⟨hlt, he⟩ := List.getElem?_eq_some_iff.1 h
  rw [List.drop_eq_getElem_cons hlt, he, playL, playS, if_pos ht, if_pos ht]
  exact ⟨rfl, rfl⟩

theorem playL_stop {l : Lw} {s : Sd} {bs : List Int} {i : Nat} {k : Int} (h : bs[i]? = some k) (ht : okT l s k = false) : playL l s (bs.drop i) = [] ∧ playS l s (bs.drop i) = s := by
  obtain ⟨hlt, he⟩ := List.getElem?_eq_some_iff.1 h
  rw [List.drop_eq_getElem_cons hlt, he, playL, playS, ht]
  exact ⟨rfl, rfl⟩

theorem playL_le (l : Lw) : ∀ (bs : List Int) (s : Sd), (playL l s bs).length ≤ bs.length
  | [], s => by simp [playL]
  | k :: ks, s => by
    rw [playL]
    split
    · have := playL_le l ks (behS l s k); simp; omega
    · simp

/-- The cells of balls. -/
def ballC (L : List (Int × Int)) : List Value := L.flatMap fun p => [.int .i64 p.1, .int .i64 p.2]
theorem ballC_snoc (L : List (Int × Int)) (p : Int × Int) : ballC (L ++ [p]) = ballC L ++ [.int .i64 p.1, .int .i64 p.2] := by simp [ballC]
theorem ballC_len (L : List (Int × Int)) : (ballC L).length = L.length * 2 := by
  induction L with
  | nil => rfl
  | cons p L ih => simp only [ballC, List.flatMap_cons, List.length_append, List.length_cons, List.length_nil] at ih ⊢; omega

theorem info90 : (Tryd.prog.info? 93).map (fun i => (i.zero, i.size, i.bytes)) = some (some (.agg #[.int .i64 0, .int .i64 0]), 2, 16) := by kernel_rfl

theorem cell_two_new (w : World) (x y : Value) (t : TypeId) : ∀ j u, [x, y][j]? = some u → (w.alloc (.cells #[x, y] t)).cell? ((⟨w.heap.size, 0, none⟩ : Addr).add j) = some u := by
  intro j u hj
  have e : ((⟨w.heap.size, 0, none⟩ : Addr).add j) = ⟨w.heap.size, j, none⟩ := by unfold Addr.add; split <;> simp_all
  rw [e]
  have h := heap_alloc_new w (.cells #[x, y] t)
  generalize w.alloc _ = w1 at h ⊢
  unfold World.cell?
  simp only [h]
  match j, hj with
  | 0, hj => cases hj; rfl
  | 1, hj => cases hj; rfl
  | n + 2, hj => simp at hj

/-- What Play has in memory. -/
structure PI (w W : World) (l : Lw) (s : Sd) (b6 : Nat) (v : Value) (pre : List (Int × Int)) : Prop where
  lb : W.heap[w.heap.size]? = some (.cells #[.int .i64 l.fr, .int .i64 l.pn, .int .i64 l.bl, .int .i64 l.tp] 23 (0, 0))
  zb : W.heap[w.heap.size + 1]? = some (.cells #[.int .i64 0, .int .i64 0, .int .i64 0, .bool false, .int .i64 0] 56 (0, 0))
  sb : W.heap[b6]? = some (.cells #[.int .i64 (refS l s).f, .int .i64 (refS l s).b, .int .i64 (refS l s).s, .bool (refS l s).set, .int .i64 (refS l s).has] 56 (0, 0))
  b1 : w.heap.size + 2 ≤ b6
  ow : W.ownsRow (b6 + 1) 93 2 v pre.length (ballC pre)
  bl : Below w.heap.size w W

theorem PI.lo {w W W' : World} {l : Lw} {s : Sd} {b6 : Nat} {v : Value} {pre : List (Int × Int)} (h : Hid (PI w W l s b6 v pre)) (hb : Below W.heap.size W W') : Hid (PI w W' l s b6 v pre) :=
  Lib.hid ⟨(hb.block _ (lt_of_block h.out.lb)).trans h.out.lb, (hb.block _ (lt_of_block h.out.zb)).trans h.out.zb, (hb.block _ (lt_of_block h.out.sb)).trans h.out.sb, h.out.b1, h.out.ow.kept (below_row hb) (by cases hk : v.ownBlock with | none => exact .inl rfl | some k => exact .inr (fun e => by cases e)), h.out.bl.trans (hb.mono h.out.bl.size)⟩

/-- A stand's cells, of a block. -/
structure S5 (W : World) (b : Nat) (t : St) : Prop where
  c0 : W.cell? ⟨b, 0, none⟩ = some (.int .i64 t.f)
  c1 : W.cell? ⟨b, 1, none⟩ = some (.int .i64 t.b)
  c2 : W.cell? ⟨b, 2, none⟩ = some (.int .i64 t.s)
  c3 : W.cell? ⟨b, 3, none⟩ = some (.bool t.set)
  c4 : W.cell? ⟨b, 4, none⟩ = some (.int .i64 t.has)

theorem s5_of {W : World} {b : Nat} {t : St} (h : W.heap[b]? = some (.cells #[.int .i64 t.f, .int .i64 t.b, .int .i64 t.s, .bool t.set, .int .i64 t.has] 56 (0, 0))) : S5 W b t ∧ (∀ i, W.frozen? ⟨b, i, none⟩ = false) := by
  exact ⟨⟨by simp [World.cell?, h], by simp [World.cell?, h], by simp [World.cell?, h], by simp [World.cell?, h], by simp [World.cell?, h]⟩, fun i => by simp [World.frozen?, h]⟩

theorem l4_of {W : World} {b : Nat} {l : Lw} (h : W.heap[b]? = some (.cells #[.int .i64 l.fr, .int .i64 l.pn, .int .i64 l.bl, .int .i64 l.tp] 23 (0, 0))) :
    W.cell? ⟨b, 0, none⟩ = some (.int .i64 l.fr) ∧ W.cell? ⟨b, 1, none⟩ = some (.int .i64 l.pn) ∧ W.cell? ⟨b, 2, none⟩ = some (.int .i64 l.bl) ∧ W.cell? ⟨b, 3, none⟩ = some (.int .i64 l.tp) :=
  ⟨by simp [World.cell?, h], by simp [World.cell?, h], by simp [World.cell?, h], by simp [World.cell?, h]⟩

/-- Behind a ball: the stand is written anew, the row has one ball more. -/
theorem PI.next {w W W2 W3 : World} {l : Lw} {s s' : Sd} {b6 : Nat} {v v' : Value} {pre : List (Int × Int)} {p : Int × Int} (h : Hid (PI w W l s b6 v pre)) (hg : Hid (W.grownBy W2 v.ownBlock)) (ho : Hid (W2.ownsRow (b6 + 1) 93 2 v' (pre.length + 1) (ballC pre ++ [.int .i64 p.1, .int .i64 p.2])))
    (hW : W3 = ((((W2.setCell ⟨b6, 0, none⟩ (.int .i64 (refS l s').f)).setCell ⟨b6, 1, none⟩ (.int .i64 (refS l s').b)).setCell ⟨b6, 2, none⟩ (.int .i64 (refS l s').s)).setCell ⟨b6, 3, none⟩ (.bool (refS l s').set)).setCell ⟨b6, 4, none⟩ (.int .i64 (refS l s').has)) :
    Hid (PI w W3 l s' b6 v' (pre ++ [p])) := by
  have hgr : W2.grownBy W3 (some b6) := by
    rw [hW]
    exact grown_set (grown_set (grown_set (grown_set (grown_set (World.grownBy.refl W2 (some b6)) 0 _) 1 _) 2 _) 3 _) 4 _
  have hlt : ∀ k, v.ownBlock = some k → b6 + 1 ≤ k := fun k e => (h.out.ow.lt k e).1
  have hlt' : ∀ k, v'.ownBlock = some k → b6 + 1 ≤ k := fun k e => (ho.out.lt k e).1
  have hb1 := h.out.b1
  have k0 : ∀ b, b < b6 → b < W.heap.size → W3.heap[b]? = W.heap[b]? := fun b hb hs => (hgr.block b (Nat.lt_of_lt_of_le hs hg.out.size) (fun e => by simp at e; omega)).trans (hg.out.block b hs (fun e => by have := hlt b e.symm; omega))
  have hsb2 := (hg.out.block b6 (lt_of_block h.out.sb) (fun e => by have := hlt b6 e.symm; omega)).trans h.out.sb
  refine Lib.hid ⟨(k0 _ (by omega) (lt_of_block h.out.lb)).trans h.out.lb, (k0 _ (by omega) (lt_of_block h.out.zb)).trans h.out.zb, ?_, hb1, ?_, ?_⟩
  · rw [hW]
    simpa using blk_setCell (blk_setCell (blk_setCell (blk_setCell (blk_setCell hsb2 0 (.int .i64 (refS l s').f)) 1 (.int .i64 (refS l s').b)) 2 (.int .i64 (refS l s').s)) 3 (.bool (refS l s').set)) 4 (.int .i64 (refS l s').has)
  · rw [ballC_snoc, List.length_append]
    refine ho.out.kept hgr ?_
    cases hk : v'.ownBlock with
    | none => exact .inl rfl
    | some k => exact .inr (fun e => by have := hlt' k hk; simp at e; omega)
  · exact (h.out.bl.grown hg.out h.out.bl.size (fun k e => by have := hlt k e; omega)).grown hgr (Nat.le_trans h.out.bl.size hg.out.size) (fun k e => by cases e; omega)

end Go.Proofs.YtmjbidnlknmcgabDoor
