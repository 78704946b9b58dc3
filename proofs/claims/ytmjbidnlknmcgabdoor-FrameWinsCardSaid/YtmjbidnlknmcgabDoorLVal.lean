/- The greatest that endings can count besides: what is left if each ball fells all. The least and the greatest of what endings can count besides. -/
import Derived.Test.YtmjbidnlknmcgabDoorLQ
set_option linter.unusedVariables false
set_option linter.unusedSimpArgs false
namespace Go.Proofs.YtmjbidnlknmcgabDoor
open Go.RowKit

/-- The most that endings add. -/
def bestV (l : Lw) (s : Sd) : Int :=
  if s.f = l.fr then 0
  else if s.b = 0 then 3 * (l.pn * (l.fr - s.f)) + l.pn * (s.x + s.y)
  else s.s * (1 + s.x) + (if s.b = 1 then l.pn else 0) + 3 * (l.pn * (l.fr - (s.f + 1)))

/-- A stand that a game comes to. -/
structure Vr (l : Lw) (s : Sd) : Prop where
  vd : Vd l s
  b0 : s.b = 0 → s.f < l.fr → s.s = l.pn ∧ s.more = false
  b1 : s.b = 1 → s.y = 0 ∧ s.x ≤ 1
  b2 : 2 ≤ s.b → s.y = 0 ∧ s.x = 0
  more : s.more = true → s.f = l.fr - 1
  full : s.more = true → s.b = 1 → s.s = l.pn
  done : s.f = l.fr → s.b = 0

set_option maxHeartbeats 4000000 in
theorem best_step {l : Lw} {s : Sd} {k : Int} (h : Vr l s) (ok : l.Ok) (ht : okT l s k = true) :
    ((cnt l s k * (1 + s.x) + bestV l (behS l s k) ≤ bestV l s) ∧ (cnt l s k = s.s → cnt l s k * (1 + s.x) + bestV l (behS l s k) = bestV l s)) ∧
    ((behS l s k).b = 0 → (behS l s k).f < l.fr → (behS l s k).s = l.pn ∧ (behS l s k).more = false) ∧ ((behS l s k).b = 1 → (behS l s k).y = 0 ∧ (behS l s k).x ≤ 1) ∧
    (2 ≤ (behS l s k).b → (behS l s k).y = 0 ∧ (behS l s k).x = 0) ∧ ((behS l s k).more = true → (behS l s k).f = l.fr - 1) ∧ ((behS l s k).more = true → (behS l s k).b = 1 → (behS l s k).s = l.pn) ∧ ((behS l s k).f = l.fr → (behS l s k).b = 0) := by
  obtain ⟨hf, hk1, hk2⟩ := okT_out ht
  have v := h.vd
  have hlt : s.f < l.fr := by have := v.f2; omega
  have hc := cnt_le ok v hk1 hk2
  have hbl := v.bl hlt
  obtain ⟨f1, f2, b1, b2, s1, s2, x1, x2, y1, y2, fresh, _⟩ := v
  obtain ⟨of1, of2, p1, p2, hb, t1, t2⟩ := ok
  obtain ⟨_, h0, h1, h2, h3, h4, h5⟩ := h
  obtain ⟨c, hcc⟩ : ∃ c, c = cnt l s k := ⟨_, rfl⟩
  rw [← hcc] at hc ⊢
  generalize hS : behS l s k = S
  unfold behS finS midS thrS at hS
  rw [← hcc] at hS
  clear hcc ht hk1 hk2 fresh t1 t2
  obtain ⟨f, b, ss, fr, mo, x, y⟩ := s
  obtain ⟨F, P, B, T⟩ := l
  unfold allS endS nextS setS at hS
  simp only at *
  have e1 : P * (F - f) = P * (F - (f + 1)) + P := by
    rw [show F - f = F - (f + 1) + 1 from by omega, Int.mul_add, Int.mul_one]
  have elast : f = F - 1 → P * (F - (f + 1)) = 0 := fun h => by rw [show F - (f + 1) = 0 from by omega, Int.mul_zero]
  have hx : x = 0 ∨ x = 1 ∨ x = 2 := by omega
  have hy : y = 0 ∨ y = 1 := by omega
  by_cases hl : f = F - 1
  · by_cases hz : ss - c = 0
    · cases mo
      · by_cases hb3 : b + 1 < 3
        · simp only [hz, hl, hb3, decide_true, Bool.or_true, if_true] at hS
          by_cases he : b + 1 = 3
          · omega
          · have e3 : (b + 1 == 3) = false := by simpa using he
            simp only [e3, if_false, Bool.false_eq_true] at hS
            subst hS
            refine ⟨⟨?_, ?_⟩, ?_, ?_, ?_, ?_, ?_, ?_⟩
            · simp only [bestV, eq_self_iff_true, if_true]
              rcases hx with rfl | rfl | rfl <;> rcases hy with rfl | rfl <;> (repeat' split) <;> omega
            · intro hcs
              simp only [bestV, eq_self_iff_true, if_true]
              rcases hx with rfl | rfl | rfl <;> rcases hy with rfl | rfl <;> (repeat' split) <;> omega
            all_goals
              simp
              try first | omega | (intro hh; exact absurd (h0 (by omega) hlt).2 (by simp)) | (intro hh; exact absurd (h3 hh) hl)
        · simp only [hz, hl, hb3, decide_false, Bool.or_false, Bool.false_eq_true, if_false, if_true] at hS
          have e0 : b + 1 = B := by have := hbl (by simp); omega
          have e : (b + 1 == B) = true := by simpa using e0
          simp only [e, if_true] at hS
          rw [if_pos (by omega)] at hS
          subst hS
          refine ⟨⟨?_, ?_⟩, ?_, ?_, ?_, ?_, ?_, ?_⟩
          · simp only [bestV, eq_self_iff_true, if_true]
            rcases hx with rfl | rfl | rfl <;> rcases hy with rfl | rfl <;> (repeat' split) <;> omega
          · intro hcs
            simp only [bestV, eq_self_iff_true, if_true]
            rcases hx with rfl | rfl | rfl <;> rcases hy with rfl | rfl <;> (repeat' split) <;> omega
          all_goals
            simp
            try first | omega | (intro hh; exact absurd (h0 (by omega) hlt).2 (by simp)) | (intro hh; exact absurd (h3 hh) hl)
      · simp only [hz, hl, Bool.true_or, if_true] at hS
        by_cases he : b + 1 = 3
        · have e3 : (b + 1 == 3) = true := by simpa using he
          simp only [e3, if_true] at hS
          rw [if_pos (by omega)] at hS
          subst hS
          refine ⟨⟨?_, ?_⟩, ?_, ?_, ?_, ?_, ?_, ?_⟩
          · simp only [bestV, eq_self_iff_true, if_true]
            rcases hx with rfl | rfl | rfl <;> rcases hy with rfl | rfl <;> (repeat' split) <;> omega
          · intro hcs
            simp only [bestV, eq_self_iff_true, if_true]
            rcases hx with rfl | rfl | rfl <;> rcases hy with rfl | rfl <;> (repeat' split) <;> omega
          all_goals
            simp
            try first | omega | (intro hh; exact absurd (h0 (by omega) hlt).2 (by simp)) | (intro hh; exact absurd (h3 hh) hl)
        · have e3 : (b + 1 == 3) = false := by simpa using he
          simp only [e3, if_false, Bool.false_eq_true] at hS
          subst hS
          refine ⟨⟨?_, ?_⟩, ?_, ?_, ?_, ?_, ?_, ?_⟩
          · simp only [bestV, eq_self_iff_true, if_true]
            rcases hx with rfl | rfl | rfl <;> rcases hy with rfl | rfl <;> (repeat' split) <;> omega
          · intro hcs
            simp only [bestV, eq_self_iff_true, if_true]
            rcases hx with rfl | rfl | rfl <;> rcases hy with rfl | rfl <;> (repeat' split) <;> omega
          all_goals
            simp
            try first | omega | (intro hh; exact absurd (h0 (by omega) hlt).2 (by simp)) | (intro hh; exact absurd (h3 hh) hl)
    · cases mo
      · simp only [hz, hl, Bool.false_eq_true, if_false, if_true] at hS
        have hbl := hbl (by simp)
        by_cases he : b + 1 = B
        · have e3 : (b + 1 == B) = true := by simpa using he
          simp only [e3, if_true] at hS
          rw [if_pos (by omega)] at hS
          subst hS
          refine ⟨⟨?_, ?_⟩, ?_, ?_, ?_, ?_, ?_, ?_⟩
          · simp only [bestV, eq_self_iff_true, if_true]
            rcases hx with rfl | rfl | rfl <;> rcases hy with rfl | rfl <;> (repeat' split) <;> omega
          · intro hcs
            simp only [bestV, eq_self_iff_true, if_true]
            rcases hx with rfl | rfl | rfl <;> rcases hy with rfl | rfl <;> (repeat' split) <;> omega
          all_goals
            simp
            try first | omega | (intro hh; exact absurd (h0 (by omega) hlt).2 (by simp)) | (intro hh; exact absurd (h3 hh) hl)
        · have e3 : (b + 1 == B) = false := by simpa using he
          simp only [e3, if_false, Bool.false_eq_true] at hS
          subst hS
          refine ⟨⟨?_, ?_⟩, ?_, ?_, ?_, ?_, ?_, ?_⟩
          · simp only [bestV, eq_self_iff_true, if_true]
            rcases hx with rfl | rfl | rfl <;> rcases hy with rfl | rfl <;> (repeat' split) <;> omega
          · intro hcs
            simp only [bestV, eq_self_iff_true, if_true]
            rcases hx with rfl | rfl | rfl <;> rcases hy with rfl | rfl <;> (repeat' split) <;> omega
          all_goals
            simp
            try first | omega | (intro hh; exact absurd (h0 (by omega) hlt).2 (by simp)) | (intro hh; exact absurd (h3 hh) hl)
      · simp only [hz, hl, if_true, if_false] at hS
        by_cases he : b + 1 = 3
        · have e3 : (b + 1 == 3) = true := by simpa using he
          simp only [e3, if_true] at hS
          rw [if_pos (by omega)] at hS
          subst hS
          refine ⟨⟨?_, ?_⟩, ?_, ?_, ?_, ?_, ?_, ?_⟩
          · simp only [bestV, eq_self_iff_true, if_true]
            rcases hx with rfl | rfl | rfl <;> rcases hy with rfl | rfl <;> (repeat' split) <;> omega
          · intro hcs
            simp only [bestV, eq_self_iff_true, if_true]
            rcases hx with rfl | rfl | rfl <;> rcases hy with rfl | rfl <;> (repeat' split) <;> omega
          all_goals
            simp
            try first | omega | (intro hh; exact absurd (h0 (by omega) hlt).2 (by simp)) | (intro hh; exact absurd (h3 hh) hl)
        · have e3 : (b + 1 == 3) = false := by simpa using he
          simp only [e3, if_false, Bool.false_eq_true] at hS
          subst hS
          refine ⟨⟨?_, ?_⟩, ?_, ?_, ?_, ?_, ?_, ?_⟩
          · simp only [bestV, eq_self_iff_true, if_true]
            rcases hx with rfl | rfl | rfl <;> rcases hy with rfl | rfl <;> (repeat' split) <;> omega
          · intro hcs
            simp only [bestV, eq_self_iff_true, if_true]
            rcases hx with rfl | rfl | rfl <;> rcases hy with rfl | rfl <;> (repeat' split) <;> omega
          all_goals
            simp
            try first | omega | (intro hh; exact absurd (h0 (by omega) hlt).2 (by simp)) | (intro hh; exact absurd (h3 hh) hl)
  · have hbl := hbl (fun h => hl h.1)
    by_cases hz : ss - c = 0
    · simp only [hz, hl, if_true, if_false, beq_self_eq_true, Bool.true_or] at hS
      by_cases hn : f + 1 = F
      · omega
      · simp only [hn, if_false] at hS
        by_cases hx2 : b + 1 ≤ 2
        · by_cases hx1 : b + 1 ≤ 1
          · simp only [hx2, hx1, if_true] at hS
            subst hS
            refine ⟨⟨?_, ?_⟩, ?_, ?_, ?_, ?_, ?_, ?_⟩
            · simp only [bestV, eq_self_iff_true, if_true]
              rcases hx with rfl | rfl | rfl <;> rcases hy with rfl | rfl <;> (repeat' split) <;> omega
            · intro hcs
              simp only [bestV, eq_self_iff_true, if_true]
              rcases hx with rfl | rfl | rfl <;> rcases hy with rfl | rfl <;> (repeat' split) <;> omega
            all_goals
              simp
              try first | omega | (intro hh; exact absurd (h0 (by omega) hlt).2 (by simp)) | (intro hh; exact absurd (h3 hh) hl)
          · simp only [hx2, hx1, if_true, if_false] at hS
            subst hS
            refine ⟨⟨?_, ?_⟩, ?_, ?_, ?_, ?_, ?_, ?_⟩
            · simp only [bestV, eq_self_iff_true, if_true]
              rcases hx with rfl | rfl | rfl <;> rcases hy with rfl | rfl <;> (repeat' split) <;> omega
            · intro hcs
              simp only [bestV, eq_self_iff_true, if_true]
              rcases hx with rfl | rfl | rfl <;> rcases hy with rfl | rfl <;> (repeat' split) <;> omega
            all_goals
              simp
              try first | omega | (intro hh; exact absurd (h0 (by omega) hlt).2 (by simp)) | (intro hh; exact absurd (h3 hh) hl)
        · have hx1 : ¬ b + 1 ≤ 1 := by omega
          simp only [hx2, hx1, if_false] at hS
          subst hS
          refine ⟨⟨?_, ?_⟩, ?_, ?_, ?_, ?_, ?_, ?_⟩
          · simp only [bestV, eq_self_iff_true, if_true]
            rcases hx with rfl | rfl | rfl <;> rcases hy with rfl | rfl <;> (repeat' split) <;> omega
          · intro hcs
            simp only [bestV, eq_self_iff_true, if_true]
            rcases hx with rfl | rfl | rfl <;> rcases hy with rfl | rfl <;> (repeat' split) <;> omega
          all_goals
            simp
            try first | omega | (intro hh; exact absurd (h0 (by omega) hlt).2 (by simp)) | (intro hh; exact absurd (h3 hh) hl)
    · have e0 : (ss - c == 0) = false := by simpa using hz
      simp only [hz, hl, if_false, e0, Bool.false_or] at hS
      by_cases he : b + 1 = B
      · have e3 : (b + 1 == B) = true := by simpa using he
        simp only [e3, if_true] at hS
        rw [if_neg (by omega)] at hS
        subst hS
        refine ⟨⟨?_, ?_⟩, ?_, ?_, ?_, ?_, ?_, ?_⟩
        · simp only [bestV, eq_self_iff_true, if_true]
          rcases hx with rfl | rfl | rfl <;> rcases hy with rfl | rfl <;> (repeat' split) <;> omega
        · intro hcs
          simp only [bestV, eq_self_iff_true, if_true]
          rcases hx with rfl | rfl | rfl <;> rcases hy with rfl | rfl <;> (repeat' split) <;> omega
        all_goals
          simp
          try first | omega | (intro hh; exact absurd (h0 (by omega) hlt).2 (by simp)) | (intro hh; exact absurd (h3 hh) hl)
      · have e3 : (b + 1 == B) = false := by simpa using he
        simp only [e3, if_false, Bool.false_eq_true] at hS
        subst hS
        refine ⟨⟨?_, ?_⟩, ?_, ?_, ?_, ?_, ?_, ?_⟩
        · simp only [bestV, eq_self_iff_true, if_true]
          rcases hx with rfl | rfl | rfl <;> rcases hy with rfl | rfl <;> (repeat' split) <;> omega
        · intro hcs
          simp only [bestV, eq_self_iff_true, if_true]
          rcases hx with rfl | rfl | rfl <;> rcases hy with rfl | rfl <;> (repeat' split) <;> omega
        all_goals
          simp
          try first | omega | (intro hh; exact absurd (h0 (by omega) hlt).2 (by simp)) | (intro hh; exact absurd (h3 hh) hl)

end Go.Proofs.YtmjbidnlknmcgabDoor

namespace Go.Proofs.YtmjbidnlknmcgabDoor
open Go.RowKit

theorem Vr.beh {l : Lw} {s : Sd} {k : Int} (h : Vr l s) (ok : l.Ok) (ht : okT l s k = true) : Vr l (behS l s k) := by
  obtain ⟨_, a, b, c, d, e, f⟩ := best_step h ok ht
  obtain ⟨hf, hk1, hk2⟩ := okT_out ht
  exact ⟨(beh_vd ok h.vd (by have := h.vd.f2; omega) hk1 hk2).1, a, b, c, d, e, f⟩

theorem fold_bit (l : Lw) (s : Sd) (j : Nat) : ∀ (ks : List Int) (a : Nat),
    (ks.foldl (fun t k => t ||| (Rs l (behS l s k) <<< ad l s k)) a).testBit j = true ↔ a.testBit j = true ∨ ∃ k ∈ ks, ad l s k ≤ j ∧ (Rs l (behS l s k)).testBit (j - ad l s k) = true
  | [], a => by simp
  | k :: ks, a => by
    rw [List.foldl_cons, fold_bit l s j ks]
    simp only [Nat.testBit_or, Bool.or_eq_true, Nat.testBit_shiftLeft, Bool.and_eq_true, decide_eq_true_eq, List.mem_cons, exists_eq_or_imp, or_assoc, ge_iff_le]

theorem Rs_bit {l : Lw} (ok : l.Ok) (s : Sd) (v : Vd l s) (j : Nat) : (Rs l s).testBit j = true ↔ (s.f = l.fr ∧ j = 0) ∨ ∃ k ∈ allB l s, ad l s k ≤ j ∧ (Rs l (behS l s k)).testBit (j - ad l s k) = true := by
  rw [Rs_eq ok s v, part, fold_bit]
  refine or_congr ?_ Iff.rfl
  split
  · rename_i h
    simp only [h, true_and]
    cases j with
    | zero => simp
    | succ j => rw [Nat.testBit_succ]; simp
  · rename_i h; simp [h]

theorem allB_ok {l : Lw} {s : Sd} {k : Int} (h : k ∈ allB l s) (v : Vd l s) : okT l s k = true := by
  obtain ⟨h1, h2, h3⟩ := mem_allB h
  have := v.s1
  have e1 : (s.f == l.fr) = false := by simpa using h1
  have e2 : -1 ≤ k := by omega
  have e3 : k ≤ s.s := by omega
  simp [okT, e1, e2, e3]

theorem allB_mem {l : Lw} {s : Sd} (v : Vd l s) (hf : s.f ≠ l.fr) {k : Int} (h0 : 0 ≤ k) (h1 : k ≤ s.s) : k ∈ allB l s := by
  unfold allB
  rw [if_neg hf]
  simp only [upTo, List.mem_map, List.mem_range]
  exact ⟨k.toNat, by omega, by omega⟩

theorem Rs_zero {l : Lw} (ok : l.Ok) : ∀ (n : Nat) (s : Sd), mu l s < n → Vd l s → (Rs l s).testBit 0 = true := by
  intro n
  induction n with
  | zero => intro s h; omega
  | succ n ih =>
    intro s hn v
    rw [Rs_bit ok s v]
    by_cases hf : s.f = l.fr
    · exact .inl ⟨hf, rfl⟩
    · have ha : ad l s 0 = 0 := by
        have : cnt l s 0 = 0 := by
          have := ok.t1
          unfold cnt
          rw [if_neg (by omega)]
          split
          · rename_i h; omega
          · rfl
        simp [ad, this]
      have b := beh_vd (k := 0) ok v (by have := v.f2; omega) (by omega) v.s1
      refine .inr ⟨0, allB_mem v hf (Int.le_refl _) v.s1, by omega, ?_⟩
      rw [ha]
      exact ih _ (by omega) b.1

theorem best_nn {l : Lw} {s : Sd} (h : Vr l s) (ok : l.Ok) : 0 ≤ bestV l s := by
  have v := h.vd
  have p1 := ok.p1
  unfold bestV
  split
  · omega
  · rename_i hf
    have g : 0 ≤ l.pn * (l.fr - (s.f + 1)) := Int.mul_nonneg (by omega) (by have := v.f2; omega)
    have g2 : 0 ≤ l.pn * (l.fr - s.f) := Int.mul_nonneg (by omega) (by have := v.f2; omega)
    have g3 : 0 ≤ l.pn * (s.x + s.y) := Int.mul_nonneg (by omega) (by have := v.x1; have := v.y1; omega)
    have g4 : 0 ≤ s.s * (1 + s.x) := Int.mul_nonneg v.s1 (by have := v.x1; omega)
    split
    · omega
    · split <;> omega

theorem Rs_le {l : Lw} (ok : l.Ok) : ∀ (n : Nat) (s : Sd), mu l s < n → Vr l s → ∀ j : Nat, (Rs l s).testBit j = true → (j : Int) ≤ bestV l s := by
  intro n
  induction n with
  | zero => intro s h; omega
  | succ n ih =>
    intro s hn v j hj
    rw [Rs_bit ok s v.vd] at hj
    rcases hj with ⟨hf, rfl⟩ | ⟨k, hk, ha, hb⟩
    · exact best_nn v ok
    · have ht := allB_ok hk v.vd
      obtain ⟨hf, hk1, hk2⟩ := okT_out ht
      have b := beh_vd ok v.vd (by have := v.vd.f2; omega) hk1 hk2
      have h1 := ih _ (by omega) (v.beh ok ht) _ hb
      have h2 := (best_step v ok ht).1.1
      have hc := cnt_le ok v.vd hk1 hk2
      have hm : 0 ≤ cnt l s k * (1 + s.x) := Int.mul_nonneg hc.1 (by have := v.vd.x1; omega)
      have e : (ad l s k : Int) = cnt l s k * (1 + s.x) := by unfold ad; omega
      omega

theorem Rs_top {l : Lw} (ok : l.Ok) : ∀ (n : Nat) (s : Sd), mu l s < n → Vr l s → (Rs l s).testBit (bestV l s).toNat = true := by
  intro n
  induction n with
  | zero => intro s h; omega
  | succ n ih =>
    intro s hn v
    rw [Rs_bit ok s v.vd]
    by_cases hf : s.f = l.fr
    · exact .inl ⟨hf, by unfold bestV; rw [if_pos hf]; rfl⟩
    · have hk := allB_mem v.vd hf v.vd.s1 (Int.le_refl _)
      have ht := allB_ok hk v.vd
      obtain ⟨_, hk1, hk2⟩ := okT_out ht
      have b := beh_vd ok v.vd (by have := v.vd.f2; omega) hk1 hk2
      have hcs : cnt l s s.s = s.s := by
        have := v.vd.s1
        unfold cnt
        rw [if_neg (by omega)]
        split
        · rename_i h; exact (v.vd.fresh h.1).symm
        · rfl
      have h2 := (best_step v ok ht).1.2 hcs
      have hm : 0 ≤ cnt l s s.s * (1 + s.x) := Int.mul_nonneg (by rw [hcs]; exact v.vd.s1) (by have := v.vd.x1; omega)
      have e : (ad l s s.s : Int) = cnt l s s.s * (1 + s.x) := by unfold ad; omega
      have hn2 := best_nn (v.beh ok ht) ok
      refine .inr ⟨s.s, hk, by omega, ?_⟩
      rw [show (bestV l s).toNat - ad l s s.s = (bestV l (behS l s s.s)).toNat from by omega]
      exact ih _ (by omega) (v.beh ok ht)

end Go.Proofs.YtmjbidnlknmcgabDoor
