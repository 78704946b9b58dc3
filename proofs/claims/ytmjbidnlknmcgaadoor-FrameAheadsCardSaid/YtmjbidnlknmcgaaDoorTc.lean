/- Rows of bits that grow; what the reference's Rest leaves as it was. -/
import Derived.Test.YtmjbidnlknmcgaaDoorTb
set_option linter.unusedVariables false
set_option linter.unusedSimpArgs false
namespace Go.Proofs.YtmjbidnlknmcgaaDoor
open Go.RowKit Go.Maps

def bitsL (L N : Nat) : List Value := (List.range L).map fun j => Value.bool (N.testBit j)
theorem bitsL_len (L N : Nat) : (bitsL L N).length = L := by simp [bitsL]
theorem bitsL_get {L N j : Nat} (h : j < L) : (bitsL L N)[j]? = some (.bool (N.testBit j)) := by simp [bitsL, h]
theorem bitsL_snoc {L N : Nat} (h : N < 2 ^ L) : bitsL L N ++ [.bool false] = bitsL (L + 1) N := by
  have e : N.testBit L = false := Nat.testBit_lt_two_pow h
  simp [bitsL, List.range_succ, e]

/-- With so many bits of M, made greater by a. -/
def NK (N M a k : Nat) : Nat := N ||| ((M % 2 ^ k) <<< a)
theorem NK_bit (N M a k j : Nat) : (NK N M a k).testBit j = (N.testBit j || (decide (a ≤ j) && (decide (j - a < k) && M.testBit (j - a)))) := by
  simp [NK, Nat.testBit_or, Nat.testBit_shiftLeft, Nat.testBit_mod_two_pow]
theorem NK_zero (N M a : Nat) : NK N M a 0 = N := by simp [NK, Nat.mod_one]
theorem NK_all {N M a n : Nat} (h : M < 2 ^ n) : NK N M a n = N ||| (M <<< a) := by rw [NK, Nat.mod_eq_of_lt h]
theorem NK_lt {N M a k L : Nat} (hN : N < 2 ^ L) (hk : a + k ≤ L) : NK N M a k < 2 ^ L := by
  refine Nat.lt_pow_two_of_testBit _ (fun j hj => ?_)
  rw [NK_bit]
  have h1 : N.testBit j = false := Nat.testBit_lt_two_pow (Nat.lt_of_lt_of_le hN (Nat.pow_le_pow_right (by omega) hj))
  have h2 : ¬ j - a < k := by omega
  simp [h1, h2]
theorem NK_set {N M a k L : Nat} (hk : a + k < L) : (bitsL L (NK N M a k)).set (a + k) (.bool ((NK N M a k).testBit (a + k) || M.testBit k)) = bitsL L (NK N M a (k + 1)) := by
  apply List.ext_getElem?
  intro j
  rw [List.getElem?_set]
  by_cases h : a + k = j
  · subst h
    rw [if_pos rfl, if_pos (by rw [bitsL_len]; exact hk), bitsL_get hk]
    congr 2
    rw [NK_bit, NK_bit]
    have e1 : a + k - a = k := by omega
    have e2 : a ≤ a + k := by omega
    simp [e1, e2]
  · rw [if_neg h]
    by_cases hj : j < L
    · rw [bitsL_get hj, bitsL_get hj]
      congr 2
      rw [NK_bit, NK_bit]
      by_cases ha : a ≤ j
      · have e : (j - a < k) ↔ (j - a < k + 1) := by omega
        simp [ha, e]
      · simp [ha]
    · rw [List.getElem?_eq_none (by rw [bitsL_len]; omega), List.getElem?_eq_none (by rw [bitsL_len]; omega)]

/-- No bit is farther than this. -/
theorem Rs_far {l : Lw} (ok : l.Ok) : ∀ (n : Nat) (s : Sd), mu l s < n → Vd l s → ∀ j : Nat, (Rs l s).testBit j = true → j ≤ 30 * mu l s := by
  intro n
  induction n with
  | zero => intro s h; omega
  | succ n ih =>
    intro s hn v j hj
    rw [Rs_bit ok s v] at hj
    rcases hj with ⟨hf, rfl⟩ | ⟨k, hk, ha, hb⟩
    · omega
    · obtain ⟨hf, h0, h1⟩ := mem_allB hk
      have hs := v.s1
      have b := beh_vd (k := k) ok v (by have := v.f2; omega) (by omega) (by omega)
      have h2 := ih _ (by omega) b.1 _ hb
      have h3 : ad l s k ≤ 30 := by
        have hc := cnt_le ok v (by omega : -1 ≤ k) (by omega)
        have : cnt l s k * (1 + s.x) ≤ 10 * 3 := Int.mul_le_mul (by have := v.s2; have := ok.p2; omega) (by have := v.x2; omega) (by have := v.x1; omega) (by omega)
        unfold ad; omega
      have h4 := b.2
      omega

theorem muT_le {l : Lw} {s : Sd} (ok : l.Ok) (v : Vd l s) : mu l s ≤ 30 := by
  have := ok.f2
  have := v.f1
  have := v.b1
  unfold mu
  omega

/-- A row of bits: its last one is set. -/
structure Top (L N : Nat) : Prop where
  lt : N < 2 ^ L
  top : 0 < L → N.testBit (L - 1) = true

theorem Top.le {l : Lw} {s : Sd} {L N : Nat} (h : Top L N) (ok : l.Ok) (v : Vd l s) (hsub : ∀ j, N.testBit j = true → (Rs l s).testBit j = true) : L ≤ 901 := by
  by_cases h0 : 0 < L
  · have h1 := Rs_far ok _ s (Nat.lt_succ_self _) v _ (hsub _ (h.top h0))
    have := muT_le ok v
    omega
  · omega

theorem Top.join {L N M a n : Nat} (h : Top L N) (hM : Top n M) (hn : 0 < n) : Top (max L (a + n)) (NK N M a n) := by
  refine ⟨NK_lt (Nat.lt_of_lt_of_le h.lt (Nat.pow_le_pow_right (by omega) (Nat.le_max_left _ _))) (Nat.le_max_right _ _), fun _ => ?_⟩
  rw [NK_bit]
  by_cases hc : L ≤ a + n
  · have e : max L (a + n) = a + n := Nat.max_eq_right hc
    rw [e]
    have h1 := hM.top hn
    have e1 : a + n - 1 - a = n - 1 := by omega
    have e2 : a ≤ a + n - 1 := by omega
    have e3 : n - 1 < n := by omega
    simp [e1, e2, e3, h1]
  · have e : max L (a + n) = L := Nat.max_eq_left (by omega)
    rw [e, h.top (by omega)]
    simp

/-- The bits of a part are the whole's. -/
theorem part_sub {l : Lw} {s : Sd} (ok : l.Ok) (v : Vd l s) (hf : s.f ≠ l.fr) {i : Nat} (hi : i ≤ s.s.toNat + 1) (j : Nat) (h : (part l s (upTo i)).testBit j = true) : (Rs l s).testBit j = true := by
  rw [part, fold_bit] at h
  rw [Rs_bit ok s v]
  rcases h with h | ⟨k, hk, h1, h2⟩
  · rw [if_neg hf] at h
    simp at h
  · refine .inr ⟨k, ?_, h1, h2⟩
    have hp := upTo_prefix i (s.s.toNat + 1) hi
    unfold allB
    rw [if_neg hf]
    exact hp.subset hk

/-- While Rest walks: its law and its tail, its memory, its row. -/
structure RI (w W : World) (F : Nat → Prop) (l : Lw) (t : St) (x y : Int) (bm base : Nat) (v : Value) (L N : Nat) : Prop where
  lb : W.heap[w.heap.size]? = some (.cells #[.int .i64 l.fr, .int .i64 l.pn, .int .i64 l.bl, .int .i64 l.tp] 23 (0, 0))
  tb : W.heap[w.heap.size + 1]? = some (.cells #[.int .i64 t.f, .int .i64 t.b, .int .i64 t.s, .bool t.set, .int .i64 t.has, .int .i64 x, .int .i64 y] 105 (0, 0))
  mt : MT W (fun k => F k ∨ v.ownBlock = some k) bm l
  ow : W.ownsRow base 4 1 v L (bitsL L N)
  gr : w.grownBy W (some bm)
  hb : w.heap.size + 2 ≤ base
  sz : base ≤ W.heap.size

theorem RI.keep {w W W' : World} {F : Nat → Prop} {l : Lw} {t : St} {x y : Int} {bm base : Nat} {v : Value} {L N : Nat} (h : RI w W F l t x y bm base v L N) (hB : Below W.heap.size W W') : RI w W' F l t x y bm base v L N :=
  ⟨(hB.block _ (lt_of_block h.lb)).trans h.lb, (hB.block _ (lt_of_block h.tb)).trans h.tb, h.mt.lo hB, own_below h.ow hB, h.gr.andThen (below_row hB) (fun j e => by cases e), h.hb, Nat.le_trans h.sz hB.size⟩

section
variable {w W : World} {F : Nat → Prop} {l : Lw} {t : St} {x y : Int} {bm base : Nat} {v : Value} {L N : Nat} (h : RI w W F l t x y bm base v L N) (hbm : bm < w.heap.size)
include h hbm

/-- The row has grown. -/
theorem RI.app {W' : World} {v' : Value} (hg : W.grownBy W' v.ownBlock) (ho : W'.ownsRow base 4 1 v' (L + 1) (bitsL L N ++ [.bool false])) (hl : v'.ownBlock = v.ownBlock ∨ ∀ k, v'.ownBlock = some k → W.heap.size ≤ k) (hN : N < 2 ^ L) : RI w W' F l t x y bm base v' (L + 1) N := by
  have hr : ∀ k, v.ownBlock = some k → base ≤ k := fun k e => (h.ow.lt k e).1
  have hb := h.hb
  have h1 := h.mt.more (fun k => (F k ∨ v.ownBlock = some k) ∨ W.heap.size ≤ k) (fun k hk => hk)
  have h2 := h1.kept hg (fun k e => ⟨by have := hr k e; omega, .inl (.inl (.inr e))⟩)
  refine ⟨(hg.block _ (lt_of_block h.lb) (fun e => by have := hr _ e.symm; omega)).trans h.lb, (hg.block _ (lt_of_block h.tb) (fun e => by have := hr _ e.symm; omega)).trans h.tb, h2.more _ (fun k hk => .inl ?_), by rw [← bitsL_snoc hN]; exact ho, h.gr.andThen hg (fun j e => .inl (by have := hr j e; omega)), h.hb, Nat.le_trans h.sz hg.size⟩
  rcases hk with hk | hk
  · exact .inl (.inl hk)
  · rcases hl with e | e
    · rw [e] at hk; exact .inl (.inr hk)
    · exact .inr (e k hk)

/-- The memory has grown, by a call. -/
theorem RI.call {W' : World} (hm : MT W' (fun k => F k ∨ v.ownBlock = some k) bm l) (hg : W.grownBy W' (some bm)) : RI w W' F l t x y bm base v L N := by
  have hb := h.hb
  refine ⟨(hg.block _ (lt_of_block h.lb) (fun e => by cases e; omega)).trans h.lb, (hg.block _ (lt_of_block h.tb) (fun e => by cases e; omega)).trans h.tb, hm, h.ow.kept hg ?_, h.gr.trans hg, h.hb, Nat.le_trans h.sz hg.size⟩
  cases hk : v.ownBlock with
  | none => exact .inl rfl
  | some k => exact .inr (fun e => by have h9 := (h.ow.lt k hk).1; cases e; omega)
end

/-- One bit of the row has been written. -/
theorem RI.set {w W : World} {F : Nat → Prop} {l : Lw} {t : St} {x y : Int} {bm base g c L N N' p : Nat} {b : Bool} (h : RI w W F l t x y bm base (.slice (some ⟨g, 0, none⟩) L c) L N) (hbm : bm < w.heap.size) (hp : p < L) (e : (bitsL L N).set p (.bool b) = bitsL L N') :
    RI w (W.setCell ⟨g, p, none⟩ (.bool b)) F l t x y bm base (.slice (some ⟨g, 0, none⟩) L c) L N' := by
  have hgb : base ≤ g := (h.ow.lt g rfl).1
  have hb := h.hb
  have g2 := grown_set (World.grownBy.refl W (some g)) p (.bool b)
  refine ⟨(g2.block _ (lt_of_block h.lb) (fun e => by cases e; omega)).trans h.lb, (g2.block _ (lt_of_block h.tb) (fun e => by cases e; omega)).trans h.tb, h.mt.kept g2 (fun k e => by cases e; exact ⟨by omega, .inl (.inr rfl)⟩), ?_, h.gr.andThen g2 (fun j e => .inl (by cases e; omega)), h.hb, by simpa using h.sz⟩
  rw [← e]
  exact ownsRow_set h.ow hp

theorem RI.start {w W : World} {F : Nat → Prop} {l : Lw} {t : St} {x y : Int} {bm : Nat} (hA : Hid (WL w W l)) (hT : Hid (TL W (w.heap.size + 1) t x y)) (hm : MT W F bm l) : RI w W F l t x y bm W.heap.size (.slice none 0 0) 0 0 :=
  ⟨hA.out.lb, hT.out.blk, hm.more _ (fun k hk => .inl (by rcases hk with hk | hk; exact hk; cases hk)), World.ownsRow_nil _ _ _ _, (below_row hA.out.bl).but _, by have := lt_of_block hT.out.blk; omega, Nat.le_refl _⟩

theorem RI.bits {w W : World} {F : Nat → Prop} {l : Lw} {t : St} {x y : Int} {bm base g c L N : Nat} (h : RI w W F l t x y bm base (.slice (some ⟨g, 0, none⟩) L c) L N) (ht : Top L N) (h0 : 0 < L) (hL : L ≤ 1000) : BitsAt W g L N :=
  ⟨fun j hj => own_cell h.ow j _ (bitsL_get hj), ht.lt, h0, hL, ht.top h0⟩

end Go.Proofs.YtmjbidnlknmcgaaDoor
