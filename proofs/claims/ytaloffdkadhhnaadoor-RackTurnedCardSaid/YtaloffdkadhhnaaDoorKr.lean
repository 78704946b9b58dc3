/- Ways from neighbour to neighbour: the search of the program and that of the reference reach the same pins of a leave. -/
import Derived.Test.YtaloffdkadhhnaaDoorGk
set_option linter.unusedVariables false
set_option linter.unusedSimpArgs false
namespace Go.Proofs.YtaloffdkadhhnaaDoor
open Go.RowKit

theorem dist_comm (a b : Int) : dist a b = dist b a := by unfold dist; split <;> split <;> omega
theorem nextB_comm (r : Rk) (a b : Int) : nextB r a b = nextB r b a := by
  unfold nextB besB; rw [dist_comm (rowN a), dist_comm (boardN r a)]

theorem mem_nbrs {r : Rk} {p q : Int} : q ∈ nbrs r p ↔ (0 ≤ q ∧ q < pinsN r.rows) ∧ nextB r p q = true := by
  unfold nbrs pinL
  rw [List.mem_filter, List.mem_map]
  constructor
  · rintro ⟨⟨i, hi, rfl⟩, h⟩
    have := List.mem_range.1 hi
    exact ⟨⟨by omega, by omega⟩, h⟩
  · rintro ⟨⟨h0, h1⟩, h⟩
    exact ⟨⟨q.toNat, List.mem_range.2 (by omega), by omega⟩, h⟩

/-- All that stands next to a pin of M that is none of D is of M. -/
def Cl (r : Rk) (lv D M : Nat) : Prop := ∀ x : Int, 0 ≤ x → M.testBit x.toNat = true → D.testBit x.toNat = false → ∀ q, q ∈ nbrs r x → lv.testBit q.toNat = true → M.testBit q.toNat = true

theorem reachF_closed (r : Rk) (lv : Nat) : ∀ (f : Nat) (p : Int) (R : Nat), 0 ≤ p → p < pinsN r.rows → (els (dif lv R)).length ≤ f → lv.testBit p.toNat = true → R.testBit p.toNat = false → Cl r lv R (reachF r lv f p R)
  | 0, p, R, p1, p2, hs, hl, hR => by
    have := (@pinsN_bd r).2
    have : p ∈ els (dif lv R) := (mem_els _ _).2 ⟨p1, by omega, by rw [dif_bit, hl, hR]; rfl⟩
    have := List.length_pos_of_mem this
    omega
  | f + 1, p, R, p1, p2, hs, hl, hR => by
    have hp15 : p ≤ 15 := by have := (@pinsN_bd r).2; omega
    have hDs : (els (dif lv (R ||| 1 <<< p.toNat))).length ≤ f := by
      have := size_lt (a := dif lv (R ||| 1 <<< p.toNat)) (b := dif lv R) (fun i hi => by rw [dif_bit] at hi ⊢; rw [Nat.testBit_or] at hi; cases hx : lv.testBit i <;> cases hy : R.testBit i <;> simp_all) p1 hp15 (by rw [dif_bit, hl, hR]; rfl) (by rw [dif_bit, Nat.testBit_or, one_bit]; simp)
      omega
    have IH := reachF_closed r lv f
    have F : ∀ (l : List Int) (M : Nat), (∀ q ∈ l, 0 ≤ q ∧ q < pinsN r.rows) → Sub (R ||| 1 <<< p.toNat) M → Cl r lv (R ||| 1 <<< p.toNat) M →
        Sub M (l.foldl (stepR r lv f) M) ∧ Cl r lv (R ||| 1 <<< p.toNat) (l.foldl (stepR r lv f) M) ∧ ∀ q ∈ l, lv.testBit q.toNat = true → (l.foldl (stepR r lv f) M).testBit q.toNat = true := by
      intro l
      induction l with
      | nil => intro M _ _ hC; exact ⟨Sub.refl _, hC, fun q h => by cases h⟩
      | cons y l ih =>
        intro M hb hS hC
        have hy := hb y (by simp)
        have hb' : ∀ q ∈ l, 0 ≤ q ∧ q < pinsN r.rows := fun q h => hb q (by simp [h])
        rw [List.foldl_cons]
        have K : Sub M (stepR r lv f M y) ∧ Cl r lv (R ||| 1 <<< p.toNat) (stepR r lv f M y) ∧ (lv.testBit y.toNat = true → (stepR r lv f M y).testBit y.toNat = true) := by
          unfold stepR
          by_cases h : lv.testBit y.toNat = true ∧ M.testBit y.toNat = false
          · rw [if_pos h]
            have hle := reachF_le r lv f y M
            have hSM : Sub M (reachF r lv f y M) := (or_sub _ _).trans hle
            have hc := IH y M hy.1 hy.2 (Nat.le_trans (size_mono fun i hi => by
              rw [dif_bit] at hi ⊢
              cases hx' : lv.testBit i
              · rw [hx'] at hi; cases hi
              · cases hy' : (R ||| 1 <<< p.toNat).testBit i
                · rfl
                · rw [hS i hy'] at hi; simp at hi) hDs) h.1 h.2
            refine ⟨hSM, fun x hx hxm hxD q hq hql => ?_, fun _ => hle _ (by rw [Nat.testBit_or, one_bit]; simp)⟩
            by_cases hm : M.testBit x.toNat = true
            · exact hSM _ (hC x hx hm hxD q hq hql)
            · exact hc x hx hxm (by simpa using hm) q hq hql
          · rw [if_neg h]
            refine ⟨Sub.refl _, hC, fun hl => ?_⟩
            cases hm : M.testBit y.toNat
            · exact absurd ⟨hl, hm⟩ h
            · rfl
        obtain ⟨k1, k2, k3⟩ := K
        obtain ⟨j1, j2, j3⟩ := ih _ hb' (hS.trans k1) k2
        refine ⟨k1.trans j1, j2, fun q hq hql => ?_⟩
        rcases List.mem_cons.1 hq with rfl | hq
        · exact j1 _ (k3 hql)
        · exact j3 q hq hql
    obtain ⟨n1, n2, n3⟩ := F (nbrs r p) (R ||| 1 <<< p.toNat) (fun q h => nbrs_bd h) (Sub.refl _) (fun x _ h1 h2 => by rw [h1] at h2; cases h2)
    rw [reachF_succ]
    intro x hx hxm hxR q hq hql
    by_cases hxD : (R ||| 1 <<< p.toNat).testBit x.toNat = true
    · rw [Nat.testBit_or, hxR, one_bit] at hxD
      have : x = p := by simp at hxD; omega
      subst this
      exact n3 q hq hql
    · exact n2 x hx hxm (by simpa using hxD) q hq hql

theorem or_mem {C : Int → Prop} {p : Int} {R : Nat} (p0 : 0 ≤ p) (hp : C p) (hR : ∀ x : Int, 0 ≤ x → R.testBit x.toNat = true → C x) (x : Int) (hx : 0 ≤ x) (h : (R ||| 1 <<< p.toNat).testBit x.toNat = true) : C x := by
  rw [Nat.testBit_or, one_bit] at h
  cases hr : R.testBit x.toNat
  · rw [hr] at h
    have : x = p := by simp at h; omega
    subst this; exact hp
  · exact hR x hx hr
theorem reachF_least (r : Rk) (lv : Nat) (C : Int → Prop) (hC : ∀ a q, C a → q ∈ nbrs r a → lv.testBit q.toNat = true → C q) : ∀ (f : Nat) (p : Int) (R : Nat), 0 ≤ p → C p → (∀ x : Int, 0 ≤ x → R.testBit x.toNat = true → C x) → ∀ x : Int, 0 ≤ x → (reachF r lv f p R).testBit x.toNat = true → C x
  | 0, p, R, p0, hp, hR => by
    intro x hx h
    unfold reachF at h
    exact or_mem p0 hp hR x hx h
  | f + 1, p, R, p0, hp, hR => by
    rw [reachF_succ]
    exact fold_inv (fun (M : Nat) => ∀ x : Int, 0 ≤ x → M.testBit x.toNat = true → C x) _ _ _ (or_mem p0 hp hR) fun M q hq hM => by
      have := nbrs_bd hq
      unfold stepR; split
      · rename_i hc; exact reachF_least r lv C hC f q M this.1 (hC p q hp hq hc.1) hM
      · exact hM

theorem sub_len : ∀ (a b : List Int), a.Nodup → (∀ x ∈ a, x ∈ b) → a.length ≤ b.length
  | [], b, _, _ => by simp
  | x :: a, b, hn, hs => by
    have hx := hs x (by simp)
    have h1 := sub_len a (b.erase x) (List.nodup_cons.1 hn).2 (fun y hy => (List.mem_erase_of_ne (fun e => by subst e; exact (List.nodup_cons.1 hn).1 hy)).2 (hs y (by simp [hy])))
    have h2 := List.length_erase_of_mem hx
    have h3 := List.length_pos_of_mem hx
    simp only [List.length_cons]
    omega
theorem sub_full {a b : List Int} (hn : a.Nodup) (hm : b.Nodup) (hs : ∀ x ∈ a, x ∈ b) : a.length = b.length ↔ ∀ y ∈ b, y ∈ a := by
  constructor
  · intro h y hy
    apply Classical.byContradiction
    intro hna
    have hs' : ∀ x ∈ y :: a, x ∈ b := fun x hx => by
      rcases List.mem_cons.1 hx with e | hx
      · rw [e]; exact hy
      · exact hs x hx
    have h1 := sub_len (y :: a) b (List.nodup_cons.2 ⟨hna, hn⟩) hs'
    simp only [List.length_cons] at h1
    omega
  · intro h
    exact Nat.le_antisymm (sub_len a b hn hs) (sub_len b a hm h)
theorem rise_nodup {xs : List Int} (h : xs.Pairwise (· < ·)) : xs.Nodup := h.imp fun h => Int.ne_of_lt h

/-- Pins of xs to which ways lead from x: what the reference's search keeps. -/
structure Rch (r : Rk) (xs : List Int) (x : Int) (zs : List Int) : Prop where
  st : x ∈ zs
  nd : zs.Nodup
  su : ∀ z ∈ zs, z ∈ xs
  ls : ∀ C : Int → Prop, C x → (∀ a q, C a → q ∈ xs → nextB r q a = true → C q) → ∀ z ∈ zs, C z
/-- All ways are gone. -/
def RchC (r : Rk) (xs zs : List Int) : Prop := ∀ y ∈ xs, ∀ z ∈ zs, nextB r y z = true → y ∈ zs
theorem Rch.start {r : Rk} {xs : List Int} {x : Int} (h : x ∈ xs) : Rch r xs x [x] :=
  ⟨by simp, by simp, fun z hz => by have := List.mem_singleton.1 hz; subst this; exact h, fun C h0 _ z hz => by have := List.mem_singleton.1 hz; subst this; exact h0⟩
theorem Rch.push {r : Rk} {xs zs : List Int} {x y z : Int} (h : Rch r xs x zs) (hy : y ∈ xs) (hz : z ∈ zs) (hn : nextB r y z = true) (hno : y ∉ zs) : Rch r xs x (zs ++ [y]) := by
  refine ⟨by simp [h.st], ?_, fun u hu => ?_, fun C h0 hC u hu => ?_⟩
  · rw [List.nodup_append]
    exact ⟨h.nd, by simp, fun a ha b hb e => by have := List.mem_singleton.1 hb; subst this; subst e; exact hno ha⟩
  · rcases List.mem_append.1 hu with hu | hu
    · exact h.su u hu
    · have := List.mem_singleton.1 hu; subst this; exact hy
  · rcases List.mem_append.1 hu with hu | hu
    · exact h.ls C h0 hC u hu
    · have := List.mem_singleton.1 hu; subst this; exact hC z u (h.ls C h0 hC z hz) hy hn
theorem Rch.len {r : Rk} {xs zs : List Int} {x : Int} (h : Rch r xs x zs) : zs.length ≤ xs.length := sub_len _ _ h.nd h.su

theorem ctz_setN {r : Rk} {x : Int} {ys : List Int} (h : hasL r (x :: ys) = true) : ((Lib.ctz 16 (setN (x :: ys)) : Nat) : Int) = x := by
  obtain ⟨h1, h2⟩ := hasL_out h
  have hp := (@pinsN_bd r).2
  have hb : ∀ y ∈ x :: ys, 0 ≤ y ∧ y ≤ 15 := fun y hy => ⟨(h2 y hy).1, by have := (h2 y hy).2; omega⟩
  have hlt := setN_lt hb
  have hx := hb x (by simp)
  have hxb := (setN_has hb hx.1).2 (by simp : x ∈ x :: ys)
  have h0 : setN (x :: ys) ≠ 0 := fun e => by rw [e] at hxb; simp at hxb
  have tb := tz_bit h0 hlt
  have hm := (setN_has hb (x := ((Lib.ctz 16 (setN (x :: ys)) : Nat) : Int)) (by omega)).1 (by simpa using tb.2.1)
  have hle : x ≤ ((Lib.ctz 16 (setN (x :: ys)) : Nat) : Int) := by
    rcases List.mem_cons.1 hm with e | hm
    · omega
    · have := (List.pairwise_cons.1 h1).1 _ hm; omega
  apply Int.le_antisymm _ hle
  apply Int.le_of_not_gt
  intro hlt2
  have := tb.2.2 x.toNat (by omega)
  rw [hxb] at this
  cases this

theorem piece_rch {r : Rk} {x : Int} {ys zs : List Int} (h : hasL r (x :: ys) = true) (hR : Rch r (x :: ys) x zs) (hC : RchC r (x :: ys) zs) : pieceB r (setN (x :: ys)) = decide (zs.length = (x :: ys).length) := by
  obtain ⟨h1, h2⟩ := hasL_out h
  have hp := (@pinsN_bd r).2
  have hb : ∀ y ∈ x :: ys, 0 ≤ y ∧ y ≤ 15 := fun y hy => ⟨(h2 y hy).1, by have := (h2 y hy).2; omega⟩
  have hlt := setN_lt hb
  have hx := hb x (by simp)
  have hxb := (setN_has hb hx.1).2 (by simp : x ∈ x :: ys)
  have hct := ctz_setN h
  have hhas : ∀ y : Int, 0 ≤ y → ((setN (x :: ys)).testBit y.toNat = true ↔ y ∈ x :: ys) := fun y hy => setN_has hb hy
  have hM : pieceN r (setN (x :: ys)) = reachF r (setN (x :: ys)) 16 x 0 := by unfold pieceN; rw [hct]
  have m1 := reachF_le r (setN (x :: ys)) 16 x 0
  have m2 := reachF_lt r (setN (x :: ys)) 16 x 0 hx.1 hx.2 (by omega)
  have m3 := reachF_closed r (setN (x :: ys)) 16 x 0 hx.1 (h2 x (by simp)).2 (by have := @els_len (dif (setN (x :: ys)) 0); omega) hxb (by simp)
  have m4 := reachF_least r (setN (x :: ys))
  have mx : (reachF r (setN (x :: ys)) 16 x 0).testBit x.toNat = true := m1 _ (by rw [Nat.testBit_or, one_bit]; simp)
  have z1 : ∀ z ∈ zs, 0 ≤ z ∧ (reachF r (setN (x :: ys)) 16 x 0).testBit z.toNat = true := by
    apply hR.ls (fun a => 0 ≤ a ∧ (reachF r (setN (x :: ys)) 16 x 0).testBit a.toNat = true) ⟨hx.1, mx⟩
    rintro a q ⟨ha, hm⟩ hq hn
    have hqb := h2 q hq
    exact ⟨hqb.1, m3 a ha hm (by simp) q (mem_nbrs.2 ⟨hqb, by rw [nextB_comm]; exact hn⟩) ((hhas q hqb.1).2 hq)⟩
  have z2 : ∀ y : Int, 0 ≤ y → (reachF r (setN (x :: ys)) 16 x 0).testBit y.toNat = true → y ∈ zs :=
    m4 (fun a => a ∈ zs) (fun a q ha hq hl => by
      obtain ⟨hqb, hn⟩ := mem_nbrs.1 hq
      exact hC q ((hhas q hqb.1).1 hl) a ha (by rw [nextB_comm]; exact hn)) 16 x 0 hx.1 hR.st (fun y _ hy => by simp at hy)
  unfold pieceB
  rw [hM, decide_eq_decide, sub_full hR.nd (rise_nodup h1) hR.su]
  constructor
  · intro e y hy
    have hyb := hb y hy
    exact z2 y hyb.1 (by rw [e]; exact (hhas y hyb.1).2 hy)
  · intro hall
    apply set_ext m2 hlt
    intro i hi
    rw [Bool.eq_iff_iff]
    constructor
    · intro hm
      exact (hhas (i : Int) (by omega)).2 (hR.su _ (z2 (i : Int) (by omega) (by simpa using hm)))
    · intro hl
      have := (z1 _ (hall _ ((hhas (i : Int) (by omega)).1 (by simpa using hl)))).2
      simpa using this

/-- The kind of a leave of two pins or more, by the ways of the reference. -/
theorem knd_rch {r : Rk} {x : Int} {ys zs : List Int} (h : hasL r (x :: ys) = true) (hl : (x :: ys).length ≠ 1) (hR : Rch r (x :: ys) x zs) (hC : RchC r (x :: ys) zs) :
    kindN r (setN (x :: ys)) = if zs.length = (x :: ys).length then 2 else if x = 0 then 4 else 3 := by
  have hs := size_setN h
  obtain ⟨h1, h2⟩ := hasL_out h
  have hp := (@pinsN_bd r).2
  have hb : (setN (x :: ys)).testBit 0 = true ↔ x = 0 := by
    have e := setN_has (xs := x :: ys) (fun y hy => ⟨(h2 y hy).1, by have := (h2 y hy).2; omega⟩) (x := 0) (Int.le_refl _)
    rw [show (0 : Int).toNat = 0 from rfl] at e
    rw [e]
    constructor
    · intro h0
      rcases List.mem_cons.1 h0 with h0 | h0
      · exact h0.symm
      · have := (List.pairwise_cons.1 h1).1 0 h0
        have := (h2 x (by simp)).1
        omega
    · intro h0; simp [h0]
  have hP := piece_rch h hR hC
  unfold kindN
  have n0 : ¬ setN (x :: ys) = 0 := fun e => by rw [size_zero e] at hs; simp at hs
  rw [if_neg n0, if_neg (by omega), hP]
  by_cases hz : zs.length = (x :: ys).length
  · rw [if_pos (by simpa using hz), if_pos hz]
  · rw [if_neg (by simpa using hz), if_neg hz]
    by_cases h0 : x = 0
    · rw [if_pos (hb.2 h0), if_pos h0]
    · rw [if_neg (fun e => h0 (hb.1 e)), if_neg h0]
theorem knd_nil {r : Rk} : kindN r (setN []) = 0 := kind_none.2 rfl
theorem knd_one {r : Rk} {xs : List Int} (h : hasL r xs = true) (h1 : xs.length = 1) : kindN r (setN xs) = 1 := kind_one.2 (by rw [size_setN h, h1])

end Go.Proofs.YtaloffdkadhhnaaDoor
