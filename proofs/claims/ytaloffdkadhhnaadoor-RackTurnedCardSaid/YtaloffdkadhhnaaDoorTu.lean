/- A rack turned over: the same falls, mirrored, and the kind of a leave stays. -/
import Derived.Test.YtaloffdkadhhnaaDoorKr
import Derived.Test.YtaloffdkadhhnaaDoorFq
set_option linter.unusedVariables false
set_option linter.unusedSimpArgs false
namespace Go.Proofs.YtaloffdkadhhnaaDoor
open Go.RowKit

def mir (p : Int) : Int := rowN p * (rowN p + 1) / 2 + rowN p - kN p
theorem mir_ok {p : Int} (h0 : 0 ≤ p) (h9 : p ≤ 9) : 0 ≤ mir p ∧ mir p ≤ 9 ∧ mir (mir p) = p ∧ rowN (mir p) = rowN p ∧ kN (mir p) = rowN p - kN p := by
  have : p = 0 ∨ p = 1 ∨ p = 2 ∨ p = 3 ∨ p = 4 ∨ p = 5 ∨ p = 6 ∨ p = 7 ∨ p = 8 ∨ p = 9 := by omega
  rcases this with rfl | rfl | rfl | rfl | rfl | rfl | rfl | rfl | rfl | rfl <;> decide
theorem mir_pin {rows p : Int} (r1 : 1 ≤ rows) (r2 : rows ≤ 4) (h0 : 0 ≤ p) (h9 : p ≤ 9) : mir p < pinsN rows ↔ p < pinsN rows := by
  have hr : rows = 1 ∨ rows = 2 ∨ rows = 3 ∨ rows = 4 := by omega
  have : p = 0 ∨ p = 1 ∨ p = 2 ∨ p = 3 ∨ p = 4 ∨ p = 5 ∨ p = 6 ∨ p = 7 ∨ p = 8 ∨ p = 9 := by omega
  rcases hr with rfl | rfl | rfl | rfl <;> rcases this with rfl | rfl | rfl | rfl | rfl | rfl | rfl | rfl | rfl | rfl <;> decide
theorem row_lt {rows p : Int} (r1 : 1 ≤ rows) (r2 : rows ≤ 4) (h0 : 0 ≤ p) (h : p < pinsN rows) : rowN p < rows := by
  have hr : rows = 1 ∨ rows = 2 ∨ rows = 3 ∨ rows = 4 := by omega
  rcases hr with rfl | rfl | rfl | rfl <;> simp [pinsN] at h <;> unfold rowN <;> (repeat' split) <;> omega
def mirLk (l : Lk) : Lk := ⟨mir l.fr, mir l.to, l.sr⟩
def mirR (r : Rk) : Rk := { r with ls := r.ls.map mirLk }
theorem mirLk_two {l : Lk} (h1 : 0 ≤ l.fr ∧ l.fr ≤ 9) (h2 : 0 ≤ l.to ∧ l.to ≤ 9) : mirLk (mirLk l) = l := by
  unfold mirLk
  simp only [(mir_ok h1.1 h1.2).2.2.1, (mir_ok h2.1 h2.2).2.2.1]
theorem board_mir (r : Rk) {p : Int} (h0 : 0 ≤ p) (h9 : p ≤ 9) : boardN (mirR r) (mir p) = 2 * r.mid - boardN r p := by
  obtain ⟨_, _, _, h4, h5⟩ := mir_ok h0 h9
  unfold boardN
  rw [h4, h5]
  show r.mid + r.gap * (2 * (rowN p - kN p) - rowN p) = 2 * r.mid - (r.mid + r.gap * (2 * kN p - rowN p))
  have e : 2 * (rowN p - kN p) - rowN p = -(2 * kN p - rowN p) := by omega
  rw [e, Int.mul_neg]
  omega
theorem dist_mir (m a b : Int) : dist (2 * m - a) (2 * m - b) = dist a b := by unfold dist; split <;> split <;> omega
theorem next_mir (r : Rk) {a b : Int} (ha : 0 ≤ a ∧ a ≤ 9) (hb : 0 ≤ b ∧ b ≤ 9) : nextB (mirR r) (mir a) (mir b) = nextB r a b := by
  unfold nextB besB
  rw [board_mir r ha.1 ha.2, board_mir r hb.1 hb.2, (mir_ok ha.1 ha.2).2.2.2.1, (mir_ok hb.1 hb.2).2.2.2.1, dist_mir]
  rfl

/-- Two sets of pins, of which one is the other, mirrored. -/
structure Mir (A B : Nat) : Prop where
  a : A < 1024
  b : B < 1024
  h : ∀ p : Int, 0 ≤ p → p ≤ 9 → B.testBit p.toNat = A.testBit (mir p).toNat
theorem Mir.symm {A B : Nat} (h : Mir A B) : Mir B A := ⟨h.b, h.a, fun p h0 h9 => by
  obtain ⟨m1, m2, m3, _⟩ := mir_ok h0 h9
  rw [h.h (mir p) m1 m2, m3]⟩
theorem bit10 {A : Nat} (hA : A < 1024) {i : Nat} (h : A.testBit i = true) : i ≤ 9 := by
  apply Nat.le_of_not_lt
  intro hc
  have := Nat.testBit_lt_two_pow (x := A) (i := i) (Nat.lt_of_lt_of_le hA (show 2 ^ 10 ≤ 2 ^ i from Nat.pow_le_pow_right (by omega) (by omega)))
  rw [this] at h; cases h
theorem lt10 {A : Nat} (h : ∀ i, A.testBit i = true → i ≤ 9) : A < 1024 := by
  apply Nat.lt_pow_two_of_testBit (n := 10)
  intro i hi
  cases hb : A.testBit i
  · rfl
  · have := h i hb; omega
theorem ext10 {A B : Nat} (hA : A < 1024) (hB : B < 1024) (h : ∀ p : Int, 0 ≤ p → p ≤ 9 → A.testBit p.toNat = B.testBit p.toNat) : A = B := by
  apply Nat.eq_of_testBit_eq
  intro i
  by_cases hi : i ≤ 9
  · have := h (i : Int) (by omega) (by omega); simpa using this
  · have h1 : A.testBit i = false := by cases hb : A.testBit i; rfl; exact absurd (bit10 hA hb) hi
    have h2 : B.testBit i = false := by cases hb : B.testBit i; rfl; exact absurd (bit10 hB hb) hi
    rw [h1, h2]
theorem els10 {A : Nat} (hA : A < 1024) {x : Int} : x ∈ els A ↔ 0 ≤ x ∧ x ≤ 9 ∧ A.testBit x.toNat = true := by
  rw [mem_els]
  constructor
  · rintro ⟨h1, h2, h3⟩; exact ⟨h1, by have := bit10 hA h3; omega, h3⟩
  · rintro ⟨h1, h2, h3⟩; exact ⟨h1, by omega, h3⟩
theorem mir_ex {A : Nat} (hA : A < 1024) : ∃ B, Mir A B := by
  have hb : ∀ x ∈ (els A).map mir, 0 ≤ x ∧ x ≤ 15 := fun x hx => by
    obtain ⟨q, hq, rfl⟩ := List.mem_map.1 hx
    obtain ⟨q1, q2, _⟩ := (els10 hA).1 hq
    have := mir_ok q1 q2; omega
  have key : ∀ p : Int, 0 ≤ p → p ≤ 9 → ((setN ((els A).map mir)).testBit p.toNat = true ↔ A.testBit (mir p).toNat = true) := fun p h0 h9 => by
    rw [setN_has hb h0, List.mem_map]
    obtain ⟨m1, m2, m3, _⟩ := mir_ok h0 h9
    constructor
    · rintro ⟨q, hq, rfl⟩
      obtain ⟨q1, q2, q3⟩ := (els10 hA).1 hq
      rw [(mir_ok q1 q2).2.2.1]; exact q3
    · intro h
      exact ⟨mir p, (els10 hA).2 ⟨m1, m2, h⟩, m3⟩
  refine ⟨setN ((els A).map mir), hA, ?_, fun p h0 h9 => Bool.eq_iff_iff.2 (key p h0 h9)⟩
  apply lt10
  intro i hi
  have hi16 := bit_in (setN_lt hb) hi
  have := (setN_has hb (x := (i : Int)) (by omega)).1 (by simpa using hi)
  obtain ⟨q, hq, e⟩ := List.mem_map.1 this
  obtain ⟨q1, q2, _⟩ := (els10 hA).1 hq
  have := mir_ok q1 q2; omega
theorem Mir.uniq {A B B' : Nat} (h : Mir A B) (h' : Mir A B') : B = B' := ext10 h.b h'.b fun p h0 h9 => by rw [h.h p h0 h9, h'.h p h0 h9]

/-- What falls is what falls, mirrored. -/
theorem mir_left_le {ls : List Lk} {cb cb' : Lk → Bool} {St St' T T' M : Nat} (hl : ∀ l ∈ ls, (0 ≤ l.fr ∧ l.fr ≤ 9) ∧ (0 ≤ l.to ∧ l.to ≤ 9)) (hcb : ∀ l ∈ ls, cb' (mirLk l) = cb l) (hS : Mir St St') (hT : Mir T T') (hM : Mir (leftN ls cb St T) M) :
    Sub M (leftN (ls.map mirLk) cb' St' T') := by
  have hlk : LinksOk ls := fun l h => by obtain ⟨a, b⟩ := hl l h; omega
  have hlk' : LinksOk (ls.map mirLk) := fun l h => by
    obtain ⟨q, hq, rfl⟩ := List.mem_map.1 h
    obtain ⟨a, b⟩ := hl q hq
    have m1 := mir_ok a.1 a.2; have m2 := mir_ok b.1 b.2
    unfold mirLk; simp only; omega
  obtain ⟨a1, a2, _⟩ := leftN_spec ls cb hlk St T
  have hle := leftN_le ls cb St T
  apply (leftN_spec (ls.map mirLk) cb' hlk' St' T').2.2 M
  · intro i hi
    have h9 := bit10 hM.b hi
    have e := hM.h (i : Int) (by omega) (by omega)
    have e2 := hS.h (i : Int) (by omega) (by omega)
    simp only [Int.toNat_natCast] at e e2
    rw [e2]; exact hle _ (by rw [← e]; exact hi)
  · intro i hi
    have h9 := bit10 hM.b hi
    have e := hM.h (i : Int) (by omega) (by omega)
    have e2 := hT.h (i : Int) (by omega) (by omega)
    simp only [Int.toNat_natCast] at e e2
    cases hb : T'.testBit i
    · rfl
    · have m := mir_ok (p := (i : Int)) (by omega) (by omega)
      rw [hb] at e2
      rw [e, a1 _ e2.symm (by omega)] at hi; cases hi
  · intro l' hl' hc hto hfr
    obtain ⟨l, hlm, rfl⟩ := List.mem_map.1 hl'
    obtain ⟨b1, b2⟩ := hl l hlm
    have m1 := mir_ok b1.1 b1.2; have m2 := mir_ok b2.1 b2.2
    rw [hcb l hlm] at hc
    have t1 : (leftN ls cb St T).testBit l.to.toNat = true := by
      have e := hM.h (mir l.to) m2.1 m2.2.1
      rw [m2.2.2.1] at e; rw [← e]; exact hto
    have t2 : St.testBit l.fr.toNat = true := by
      have e := hS.h (mir l.fr) m1.1 m1.2.1
      rw [m1.2.2.1] at e; rw [← e]; exact hfr
    have e := hM.h (mir l.fr) m1.1 m1.2.1
    rw [m1.2.2.1] at e
    show M.testBit (mir l.fr).toNat = true
    rw [e]; exact a2 l hlm hc t1 t2
theorem sub10 {A B : Nat} (h : Sub A B) (hB : B < 1024) : A < 1024 := lt10 fun i hi => bit10 hB (h i hi)
theorem mir_left {ls : List Lk} {cb cb' : Lk → Bool} {St St' T T' : Nat} (hl : ∀ l ∈ ls, (0 ≤ l.fr ∧ l.fr ≤ 9) ∧ (0 ≤ l.to ∧ l.to ≤ 9)) (hcb : ∀ l ∈ ls, cb' (mirLk l) = cb l) (hS : Mir St St') (hT : Mir T T') :
    Mir (leftN ls cb St T) (leftN (ls.map mirLk) cb' St' T') := by
  obtain ⟨M, hM⟩ := mir_ex (sub10 (leftN_le ls cb St T) hS.a)
  obtain ⟨M', hM'⟩ := mir_ex (sub10 (leftN_le (ls.map mirLk) cb' St' T') hS.b)
  have h1 := mir_left_le hl hcb hS hT hM
  have hl' : ∀ l ∈ ls.map mirLk, (0 ≤ l.fr ∧ l.fr ≤ 9) ∧ (0 ≤ l.to ∧ l.to ≤ 9) := fun l h => by
    obtain ⟨q, hq, rfl⟩ := List.mem_map.1 h
    obtain ⟨a, b⟩ := hl q hq
    have m1 := mir_ok a.1 a.2; have m2 := mir_ok b.1 b.2
    unfold mirLk; simp only; omega
  have h2 := mir_left_le (cb' := cb) hl' (fun l h => by
    obtain ⟨q, hq, rfl⟩ := List.mem_map.1 h
    obtain ⟨a, b⟩ := hl q hq
    rw [mirLk_two a b, hcb q hq]) hS.symm hT.symm hM'
  have e : (ls.map mirLk).map mirLk = ls := by
    rw [List.map_map]
    conv => rhs; rw [← List.map_id ls]
    exact List.map_congr_left fun l h => mirLk_two (hl l h).1 (hl l h).2
  rw [e] at h2
  have : M = leftN (ls.map mirLk) cb' St' T' := Sub.antisymm h1 fun i hi => by
    have h9 := bit10 hM'.a hi
    have m := mir_ok (p := (i : Int)) (by omega) (by omega)
    have e1 := hM'.h (mir (i : Int)) m.1 m.2.1
    rw [m.2.2.1, Int.toNat_natCast, hi] at e1
    have e2 := hM.h (i : Int) (by omega) (by omega)
    rw [Int.toNat_natCast] at e2
    rw [e2]; exact h2 _ e1
  rw [← this]; exact hM

theorem at_mir {bs : List Int} {m : Int} {q : Int} (hb : (bs.length : Int) ≤ 4) (q0 : 0 ≤ q) (hq : q < (bs.length : Int)) : (toCs (bs.map fun b => 2 * m - b)).at q = 2 * m - (toCs bs).at q := by
  have hg : ∀ i : Nat, i < bs.length → (bs.map fun b => 2 * m - b).getD i 0 = 2 * m - bs.getD i 0 := fun i hi => by
    rw [List.getD_eq_getElem?_getD, List.getD_eq_getElem?_getD, List.getElem?_map, List.getElem?_eq_getElem hi]; rfl
  have : q = 0 ∨ q = 1 ∨ q = 2 ∨ q = 3 := by omega
  rcases this with rfl | rfl | rfl | rfl
  · exact hg 0 (by omega)
  · exact hg 1 (by omega)
  · exact hg 2 (by omega)
  · exact hg 3 (by omega)
theorem mir_touch {r : Rk} {bs : List Int} {St St' : Nat} (hr : 1 ≤ r.rows ∧ r.rows ≤ 4) (hb : (bs.length : Int) = r.rows) (hS : Mir St St') (hp : ∀ x ∈ els St', x < pinsN r.rows) :
    Mir (touchN r (toCs bs) St) (touchN (mirR r) (toCs (bs.map fun b => 2 * r.mid - b)) St') := by
  have s1 : Sub (touchN r (toCs bs) St) St := fun i hi => (touch_iff.1 hi).1
  have s2 : Sub (touchN (mirR r) (toCs (bs.map fun b => 2 * r.mid - b)) St') St' := fun i hi => (touch_iff.1 hi).1
  refine ⟨sub10 s1 hS.a, sub10 s2 hS.b, fun p h0 h9 => ?_⟩
  obtain ⟨m1, m2, m3, m4, _⟩ := mir_ok h0 h9
  rw [Bool.eq_iff_iff, touch_iff, touch_iff, hS.h p h0 h9]
  have hin : St'.testBit p.toNat = true → reachB (mirR r) (toCs (bs.map fun b => 2 * r.mid - b)) p = reachB r (toCs bs) (mir p) := fun h => by
    have hpp := hp p ((els10 hS.b).2 ⟨h0, h9, h⟩)
    have hrow := row_lt hr.1 hr.2 h0 hpp
    have hr0 := (rowN_bd h0 h9).1
    have e := board_mir r m1 m2
    rw [m3] at e
    unfold reachB
    rw [e, at_mir (by omega) hr0 (by omega), dist_mir, m4]
    rfl
  constructor
  · rintro ⟨t1, t2, t3⟩
    refine ⟨t1, by omega, ?_⟩
    have hx : ((p.toNat : Nat) : Int) = p := by omega
    have hy : (((mir p).toNat : Nat) : Int) = mir p := by omega
    rw [hx] at t3; rw [hy]
    rw [← hin (by rw [hS.h p h0 h9]; exact t1)]; exact t3
  · rintro ⟨t1, t2, t3⟩
    refine ⟨t1, by omega, ?_⟩
    have hx : ((p.toNat : Nat) : Int) = p := by omega
    have hy : (((mir p).toNat : Nat) : Int) = mir p := by omega
    rw [hy] at t3; rw [hx]
    rw [hin (by rw [hS.h p h0 h9]; exact t1)]; exact t3

/-- A list's pins, mirrored, rising. -/
def turL (r : Rk) (L : List Int) : List Int := (pinL r).filter fun p => hasI L (mir p)
theorem mem_pinL {r : Rk} {p : Int} : p ∈ pinL r ↔ 0 ≤ p ∧ p < pinsN r.rows := by
  unfold pinL
  rw [List.mem_map]
  constructor
  · rintro ⟨i, hi, rfl⟩
    have := List.mem_range.1 hi
    omega
  · rintro ⟨h0, h1⟩
    exact ⟨p.toNat, List.mem_range.2 (by omega), by omega⟩
theorem pinL_rise (r : Rk) : (pinL r).Pairwise (· < ·) := by
  unfold pinL
  rw [List.pairwise_map]
  exact List.pairwise_lt_range.imp fun h => by omega
theorem els_turn {r : Rk} {A B : Nat} (h : Mir A B) (hp : ∀ x ∈ els B, x < pinsN r.rows) : els B = turL r (els A) := by
  have hp10 := (@pinsN_bd r).2
  refine rise_ext (els_rise _) ((pinL_rise r).filter _) fun x => ?_
  unfold turL
  rw [List.mem_filter, mem_pinL, hasI_iff, els10 h.b, els10 h.a]
  constructor
  · rintro ⟨h0, h9, hb⟩
    have m := mir_ok h0 h9
    exact ⟨⟨h0, hp x ((els10 h.b).2 ⟨h0, h9, hb⟩)⟩, m.1, m.2.1, by rw [← h.h x h0 h9]; exact hb⟩
  · rintro ⟨⟨h0, hx⟩, _, _, hb⟩
    exact ⟨h0, by omega, by rw [h.h x h0 (by omega)]; exact hb⟩

/-- What a rack and pins are, turned over. -/
structure Turn (r : Rk) (xs : List Int) : Prop where
  m : Mir (setN xs) (setN (turL r xs))
  ck : chkE (mirR r) (turL r xs) = 0
  pn : ∀ x ∈ els (setN (turL r xs)), x < pinsN r.rows
  lb : ∀ l ∈ r.ls, (0 ≤ l.fr ∧ l.fr ≤ 9) ∧ (0 ≤ l.to ∧ l.to ≤ 9)
theorem turn_of {r : Rk} {xs : List Int} (hck : chkE r xs = 0) : Turn r xs := by
  obtain ⟨hf, hl⟩ := chk_ok hck
  obtain ⟨ok, g1, g2, g3⟩ := faultN_ok hf
  obtain ⟨s1, s2, s3⟩ := chk_set hck
  have hp10 := (@pinsN_bd r).2
  have hA : setN xs < 1024 := lt10 fun i hi => by
    have := bit_in s1 hi
    have := s2 (i : Int) ((mem_els _ _).2 ⟨by omega, by omega, by simpa using hi⟩)
    omega
  obtain ⟨B, hB⟩ := mir_ex hA
  have hpn : ∀ x ∈ els B, x < pinsN r.rows := fun x hx => by
    obtain ⟨h0, h9, hb⟩ := (els10 hB.b).1 hx
    have m := mir_ok h0 h9
    have := s2 (mir x) ((els10 hA).2 ⟨m.1, m.2.1, by rw [← hB.h x h0 h9]; exact hb⟩)
    exact (mir_pin ok.r1 ok.r2 h0 h9).1 this
  have e := els_turn hB hpn
  rw [s3] at e
  have eB : setN (turL r xs) = B := by rw [← e]; exact setN_els (by have := hB.b; omega)
  have hlb : ∀ l ∈ r.ls, (0 ≤ l.fr ∧ l.fr < pinsN r.rows) ∧ (0 ≤ l.to ∧ l.to < pinsN r.rows) ∧ l.fr ≠ l.to := fun l h => by
    have h := g3 l h
    unfold wrongB at h
    simp only [Bool.or_eq_false_iff, Bool.not_eq_false'] at h
    have a := inB_iff.1 h.1; have b := inB_iff.1 h.2.1
    exact ⟨by omega, by omega, by simpa using h.2.2⟩
  refine ⟨by rw [eB]; exact hB, ?_, by rw [eB]; exact hpn, fun l h => by have := hlb l h; omega⟩
  have hu : unsureN (r.ls.map mirLk) = unsureN r.ls := by
    unfold unsureN
    rw [List.filter_map, List.length_map]
    rfl
  have hw : (r.ls.map mirLk).any (wrongB (mirR r)) = false := by
    rw [List.any_eq_false]
    intro l' hl'
    obtain ⟨l, hlm, rfl⟩ := List.mem_map.1 hl'
    obtain ⟨b1, b2, b3⟩ := hlb l hlm
    have m1 := mir_ok b1.1 (by omega); have m2 := mir_ok b2.1 (by omega)
    have p1 := (mir_pin ok.r1 ok.r2 b1.1 (by omega)).2 b1.2
    have p2 := (mir_pin ok.r1 ok.r2 b2.1 (by omega)).2 b2.2
    have hne : mir l.fr ≠ mir l.to := fun h => b3 (by rw [← m1.2.2.1, h, m2.2.2.1])
    have i1 : inB (mirLk l).fr 0 (pinsN (mirR r).rows - 1) = true := inB_iff.2 ⟨m1.1, show mir l.fr ≤ pinsN r.rows - 1 by omega⟩
    have i2 : inB (mirLk l).to 0 (pinsN (mirR r).rows - 1) = true := inB_iff.2 ⟨m2.1, show mir l.to ≤ pinsN r.rows - 1 by omega⟩
    unfold wrongB
    rw [i1, i2]
    have i3 : ((mirLk l).fr == (mirLk l).to) = false := by show (mir l.fr == mir l.to) = false; simpa using hne
    rw [i3]; simp
  have hfm : faultN (mirR r) = 0 := by
    unfold faultN at hf ⊢
    split at hf
    · rename_i hfw
      split at hf
      · rename_i hv
        have h1 : fewB (mirR r).ls = true := by
          unfold fewB at hfw ⊢
          show (decide ((r.ls.map mirLk).length ≤ 12) && decide (unsureN (r.ls.map mirLk) ≤ 6)) = true
          rw [hu, List.length_map]; exact hfw
        have h2 : validB (mirR r) = true := by
          unfold validB at hv ⊢
          simp only [Bool.and_eq_true] at hv ⊢
          obtain ⟨v1, v2, v3, v4, _⟩ := hv
          exact ⟨v1, v2, v3, v4, by rw [show (mirR r).ls = r.ls.map mirLk from rfl, hw]; rfl⟩
        rw [if_pos h1, if_pos h2]
      · cases hf
    · cases hf
  unfold chkE
  rw [if_pos hfm]
  have : hasL (mirR r) (turL r xs) = true := by
    refine hasL_in ((pinL_rise r).filter _) fun x hx => ?_
    exact mem_pinL.1 (List.mem_filter.1 hx).1
  rw [if_pos this]

end Go.Proofs.YtaloffdkadhhnaaDoor
