/- What RackStraight asks, in plain words of sets: straight balls that convert, a ball over just their boards, and fewer pins. -/
import Derived.Test.YtaloffdkadhhnaaDoorWtr
set_option linter.unusedVariables false
set_option linter.unusedSimpArgs false
namespace Go.Proofs.YtaloffdkadhhnaaDoor
open Go.RowKit

theorem lnAt_ok {t : Nat} (h : t < 427) : (lnAt t).okB = true := by
  unfold lnAt Ln.okB
  have h1 : inB ((t / 7 : Nat) : Int) 0 60 = true := inB_iff.2 ⟨by omega, by omega⟩
  have h2 : inB (((t % 7 : Nat) : Int) - 3) (-3) 3 = true := inB_iff.2 ⟨by omega, by omega⟩
  simp only [h1, h2]; rfl
theorem fstL_out {P : Ln → Bool} {l : Ln} (h : fstL P = some l) : P l = true ∧ l.okB = true := by
  unfold fstL at h
  obtain ⟨t, ht, rfl⟩ := Option.map_eq_some_iff.1 h
  have h1 := List.find?_some ht
  have h2 := List.mem_range.1 (List.mem_of_find?_eq_some ht)
  exact ⟨h1, lnAt_ok h2⟩
theorem fstL_no {P : Ln → Bool} {l : Ln} (h : fstL P = none) (hl : l.okB = true) : P l = false := by
  unfold Ln.okB at hl
  rw [Bool.and_eq_true] at hl
  have a := inB_iff.1 hl.1
  have b := inB_iff.1 hl.2
  have e := lnAt_of a.1 b.1 b.2
  unfold fstL at h
  rw [Option.map_eq_none_iff, List.find?_eq_none] at h
  have := h (7 * l.st.toNat + (l.dr + 3).toNat) (List.mem_range.2 (by omega))
  rw [e] at this
  simpa using this

/-- What may carry makes no straight ball worse. -/
theorem conv_may {r : Rk} {St : Nat} {l : Ln} (hl : LinksOk r.ls) (hS : St < 65536) (h : convB r St l (cbOf false) = true) : convB r St l (cbOf true) = true := by
  unfold convB at h ⊢
  have h0 : hitN r l.cs (cbOf false) St = 0 := by simpa using h
  have hs : Sub (hitN r l.cs (cbOf true) St) (hitN r l.cs (cbOf false) St) := left_anti hl hl hS (fun l hl _ => ⟨hl, by unfold cbOf; rfl⟩) (fun i h _ => h)
  rw [h0] at hs
  have : hitN r l.cs (cbOf true) St = 0 := Nat.eq_of_testBit_eq fun i => by
    cases hh : (hitN r l.cs (cbOf true) St).testBit i
    · simp
    · exact absurd (hs i hh) (by simp)
  simpa using this

/-- .. where none of all converts. -/
theorem cvt_fail {r : Rk} {xs : List Int} (hc : chkE r xs = 0) (h : (cvtR r xs false).2 ≠ 0) : (cvtR r xs false).2 = 9 ∧ ((cvtR r xs true).2 = 0 ∨ (cvtR r xs true).2 = 9) ∧ ∀ l, prvB r xs l = false := by
  unfold cvtR at h ⊢
  rw [if_pos hc, if_pos hc] at *
  cases hf : fstL (fun l => convB r (setN xs) l (cbOf false)) with
  | some l => rw [hf] at h; exact absurd rfl h
  | none =>
    refine ⟨rfl, ?_, fun l => ?_⟩
    · cases fstL (fun l => convB r (setN xs) l (cbOf true)) with
      | some l => exact .inl rfl
      | none => exact .inr rfl
    · unfold prvB
      cases hl : l.okB
      · simp
      · have := fstL_no hf hl
        rw [this]; simp
/-- .. where one does. -/
theorem cvt_some {r : Rk} {xs : List Int} (hc : chkE r xs = 0) (h : (cvtR r xs false).2 = 0) : (cvtR r xs true).2 = 0 ∧ prvB r xs (cvtR r xs false).1 = true ∧ (cvtR r xs false).1.okB = true ∧ convB r (setN xs) (cvtR r xs false).1 (cbOf false) = true := by
  have hlk := linksOk_of (chk_ok hc).1
  have hs := (chk_set hc).1
  unfold cvtR at h ⊢
  rw [if_pos hc, if_pos hc] at *
  cases hf : fstL (fun l => convB r (setN xs) l (cbOf false)) with
  | none => rw [hf] at h; cases h
  | some l =>
    obtain ⟨h1, h2⟩ := fstL_out hf
    refine ⟨?_, ?_, h2, h1⟩
    · cases ht : fstL (fun l => convB r (setN xs) l (cbOf true)) with
      | some l => rfl
      | none =>
        have := fstL_no ht h2
        rw [conv_may hlk hs h1] at this; cases this
    · show prvB r xs l = true
      unfold prvB
      rw [hc, h2, h1]; rfl

/-- The boards of a straight ball in so many rows. -/
def bdN (l : Ln) (n : Nat) : Int := l.st + (n : Int) * l.dr
def bdL (l : Ln) (n : Nat) : List Rg := (List.range n).map fun i => ⟨bdN l i, bdN l i⟩
def onB (l : Ln) (n : Nat) : Bool := (List.range n).all fun i => inB (bdN l i) 0 60
theorem bdL_succ (l : Ln) (n : Nat) : bdL l (n + 1) = bdL l n ++ [⟨bdN l n, bdN l n⟩] := by unfold bdL; rw [List.range_succ, List.map_append]; rfl
theorem onB_succ (l : Ln) (n : Nat) : onB l (n + 1) = (onB l n && inB (bdN l n) 0 60) := by unfold onB; rw [List.range_succ, List.all_append]; simp
theorem bdL_len (l : Ln) (n : Nat) : (bdL l n).length = n := by unfold bdL; simp

theorem bd_bal {r : Rk} {xs : List Int} {l : Ln} {n : Nat} (hc : chkE r xs = 0) (hn : (n : Int) = r.rows) (ho : onB l n = true) : balE r xs (bdL l n) = 0 := by
  unfold balE
  rw [if_pos hc]
  have : isBallB r (bdL l n) = true := by
    unfold isBallB
    rw [bdL_len]
    have h1 : (bdL l n).any wrongG = false := by
      rw [List.any_eq_false]
      intro x hx
      unfold bdL at hx
      obtain ⟨i, hi, rfl⟩ := List.mem_map.1 hx
      have := inB_iff.1 ((List.all_eq_true.1 ho) i hi)
      unfold wrongG
      simp; omega
    rw [h1]; simpa using hn
  rw [if_pos this]
theorem choices_pt : ∀ bs : List Int, choices (bs.map fun b => ⟨b, b⟩) = [bs]
  | [] => rfl
  | b :: bs => by
    show ((List.range (spanN ⟨b, b⟩)).flatMap fun (j : Nat) => (choices (bs.map fun b => ⟨b, b⟩)).map fun q => (b + (j : Int)) :: q) = _
    rw [choices_pt bs]
    have : spanN ⟨b, b⟩ = 1 := by show (b + 1 - b).toNat = 1; omega
    rw [this]; simp
theorem bd_choices (l : Ln) (n : Nat) : choices (bdL l n) = [(List.range n).map (bdN l)] := by
  unfold bdL
  rw [show ((List.range n).map fun i => (⟨bdN l i, bdN l i⟩ : Rg)) = ((List.range n).map (bdN l)).map fun b => ⟨b, b⟩ by rw [List.map_map]; rfl]
  exact choices_pt _
theorem bd_touch {r : Rk} {l : Ln} {n St : Nat} (hr : 1 ≤ r.rows ∧ r.rows ≤ 4) (hn : (n : Int) = r.rows) (hp : ∀ x ∈ els St, x < pinsN r.rows) : touchN r (toCs ((List.range n).map (bdN l))) St = touchN r l.cs St := by
  unfold touchN
  congr 1
  refine List.filter_congr fun x hx => ?_
  have h1 := hp x hx
  have h0 := ((mem_els _ _).1 hx).1
  unfold reachB
  have hg : ∀ i, i < n → ((List.range n).map (bdN l)).getD i 0 = bdN l i := fun i hi => by rw [List.getD_eq_getElem?_getD, List.getElem?_map, List.getElem?_range hi]; rfl
  have hrow : (rowN x = 0 ∧ 1 ≤ n) ∨ (rowN x = 1 ∧ 2 ≤ n) ∨ (rowN x = 2 ∧ 3 ≤ n) ∨ (rowN x = 3 ∧ 4 ≤ n) := by
    obtain ⟨q1, q2⟩ := hr
    unfold pinsN at h1
    unfold rowN
    by_cases c1 : x < 1
    · rw [if_pos c1]; exact .inl ⟨rfl, by omega⟩
    · rw [if_neg c1]
      by_cases c2 : x < 3
      · rw [if_pos c2]; refine .inr (.inl ⟨rfl, ?_⟩)
        split at h1
        · omega
        · omega
      · rw [if_neg c2]
        by_cases c3 : x < 6
        · rw [if_pos c3]; refine .inr (.inr (.inl ⟨rfl, ?_⟩))
          split at h1
          · omega
          · split at h1
            · omega
            · omega
        · rw [if_neg c3]; refine .inr (.inr (.inr ⟨rfl, ?_⟩))
          split at h1
          · omega
          · split at h1
            · omega
            · split at h1
              · omega
              · omega
  have : (toCs ((List.range n).map (bdN l))).at (rowN x) = l.cs.at (rowN x) := by
    rcases hrow with ⟨e, h⟩ | ⟨e, h⟩ | ⟨e, h⟩ | ⟨e, h⟩ <;> rw [e]
    · show ((List.range n).map (bdN l)).getD 0 0 = l.st
      rw [hg 0 (by omega)]; unfold bdN; simp
    · show ((List.range n).map (bdN l)).getD 1 0 = l.st + l.dr
      rw [hg 1 (by omega)]; unfold bdN; simp
    · show ((List.range n).map (bdN l)).getD 2 0 = l.st + 2 * l.dr
      rw [hg 2 (by omega)]; unfold bdN; simp
    · show ((List.range n).map (bdN l)).getD 3 0 = l.st + 3 * l.dr
      rw [hg 3 (by omega)]; unfold bdN; simp
  exact congrArg (fun z => decide (dist (boardN r x) z ≤ r.reach)) this

/-- By a ball that goes over just its boards all the pins surely fall. -/
theorem bd_sure {r : Rk} {xs : List Int} {l : Ln} {n : Nat} (hc : chkE r xs = 0) (hn : (n : Int) = r.rows) (hv : convB r (setN xs) l (cbOf false) = true) : els (sureN r (bdL l n) (setN xs)) = xs := by
  obtain ⟨hs1, hs2, hs3⟩ := chk_set hc
  have hok := (faultN_ok (chk_ok hc).1).1
  unfold sureN leavesL
  rw [bd_choices]
  have h0 : hitN r (toCs ((List.range n).map (bdN l))) (fun l => l.sr) (setN xs) = 0 := by
    unfold hitN
    rw [bd_touch ⟨hok.r1, hok.r2⟩ hn hs2]
    unfold convB at hv
    have hh : hitN r l.cs (cbOf false) (setN xs) = 0 := by simpa using hv
    unfold hitN at hh
    exact hh
  show els (dif (setN xs) (hitN r (toCs ((List.range n).map (bdN l))) (fun l => l.sr) (setN xs))) = xs
  rw [h0]
  have : dif (setN xs) 0 = setN xs := by unfold dif; simp
  rw [this]; exact hs3

/-- Without links fewer pins fall, too. -/
theorem few_conv {r : Rk} {xs ys : List Int} {l : Ln} (hc : chkE r xs = 0) (hs : ys.Sublist xs) (h0 : r.ls = []) (hl : l.okB = true) (hv : convB r (setN xs) l (cbOf false) = true) : prvB r ys l = true := by
  obtain ⟨hs1, hs2, hs3⟩ := chk_set hc
  have hf := (chk_ok hc).1
  have hcy : chkE r ys = 0 := by unfold chkE; rw [if_pos hf, if_pos (few_has (chk_ok hc).2 hs)]
  unfold prvB
  rw [hcy, hl]
  have hlk : LinksOk r.ls := linksOk_of hf
  have hsub : Sub (setN ys) (setN xs) := setN_sub fun y hy => hs.mem hy
  obtain ⟨a1, a2, a3⟩ := leftN_spec r.ls (cbOf false) hlk (setN xs) (touchN r l.cs (setN xs))
  obtain ⟨b1, b2, b3⟩ := leftN_spec r.ls (cbOf false) hlk (setN ys) (touchN r l.cs (setN ys))
  have hle := leftN_le r.ls (cbOf false) (setN ys) (touchN r l.cs (setN ys))
  unfold convB hitN at hv ⊢
  have hv0 : leftN r.ls (cbOf false) (setN xs) (touchN r l.cs (setN xs)) = 0 := by simpa using hv
  rw [hv0] at a3
  have hall := a3 (dif (setN xs) (touchN r l.cs (setN xs))) (fun i hi => by rw [dif_bit, Bool.and_eq_true] at hi; exact hi.1) (fun i hi => by rw [dif_bit, Bool.and_eq_true] at hi; simpa using hi.2) (fun l hl => by rw [h0] at hl; cases hl)
  have hz : leftN r.ls (cbOf false) (setN ys) (touchN r l.cs (setN ys)) = 0 := Nat.eq_of_testBit_eq fun i => by
    cases hh : (leftN r.ls (cbOf false) (setN ys) (touchN r l.cs (setN ys))).testBit i
    · simp
    · exfalso
      have hy := hle i hh
      have hx := hsub i hy
      have h16 := bit_in hs1 hx
      have ht : (touchN r l.cs (setN xs)).testBit i = true := by
        cases hk : (touchN r l.cs (setN xs)).testBit i
        · have := hall i (by rw [dif_bit, hx, hk]; rfl)
          simp at this
        · rfl
      have := b1 i (touch_iff.2 ⟨hy, h16, (touch_iff.1 ht).2.2⟩) h16
      rw [this] at hh; cases hh
  rw [hz]; rfl

end Go.Proofs.YtaloffdkadhhnaaDoor
