/- The contract of the span of a sheet. The least and the greatest bit of a number, by its words. The span of a sheet: from what is counted to that and the most that endings add. -/
import Derived.Test.YtmjbidnlknmcgabDoorLQ
import Derived.Test.YtmjbidnlknmcgabDoorLY
import Derived.Test.YtmjbidnlknmcgabDoorLVal
import Derived.Lib.ItoaNum
set_option linter.unusedVariables false
set_option linter.unusedSimpArgs false
namespace Go.Proofs.YtmjbidnlknmcgabDoor
open Go.RowKit

/-- The final counts of a sheet, as bits; the least and the greatest. -/
def finN (l : Lw) (bs : List Int) : Nat := Rs l (recS l bs).s <<< (recS l bs).tot.toNat
def spLo (l : Lw) (bs : List Int) : Int := ((loW (fun i => wd (finN l bs) i) : Nat) : Int)
def spHi (l : Lw) (bs : List Int) : Int := ((hiW (fun i => wd (finN l bs) i) : Nat) : Int)

theorem sp_start (w : World) (l : Lw) :
    Hid (w.heap.size + 1 < ((w.alloc (.cells #[.int .i64 l.fr, .int .i64 l.pn, .int .i64 l.bl, .int .i64 l.tp] 34)).alloc (.cells #[.int .i64 0, .int .i64 0] 48)).heap.size) ∧
      Hid (Below w.heap.size w ((w.alloc (.cells #[.int .i64 l.fr, .int .i64 l.pn, .int .i64 l.bl, .int .i64 l.tp] 34)).alloc (.cells #[.int .i64 0, .int .i64 0] 48))) ∧
      Hid (((w.alloc (.cells #[.int .i64 l.fr, .int .i64 l.pn, .int .i64 l.bl, .int .i64 l.tp] 34)).alloc (.cells #[.int .i64 0, .int .i64 0] 48)).heap[w.heap.size + 1]? = some (.cells #[.int .i64 0, .int .i64 0] 48 (0, 0))) ∧
      ((w.alloc (.cells #[.int .i64 l.fr, .int .i64 l.pn, .int .i64 l.bl, .int .i64 l.tp] 34)).alloc (.cells #[.int .i64 0, .int .i64 0] 48)).heap[w.heap.size]? = some (.cells #[.int .i64 l.fr, .int .i64 l.pn, .int .i64 l.bl, .int .i64 l.tp] 34 (0, 0)) := by
  refine ⟨Lib.hid (by simp), Lib.hid (((Below.refl _ _).alloc (Nat.le_refl _) _).alloc (by simp) _), Lib.hid ?_, (Below.heap_alloc _ _ _ (by simp)).trans (heap_alloc_new w _)⟩
  have := heap_alloc_new (w.alloc (.cells #[.int .i64 l.fr, .int .i64 l.pn, .int .i64 l.bl, .int .i64 l.tp] 34)) (.cells #[.int .i64 0, .int .i64 0] 48)
  rwa [World.size_alloc] at this

set_option maxRecDepth 100000 in
set_option maxHeartbeats 4000000 in
theorem span_good (l : Lw) (bs : List Int) (a : Option Addr) (c : Nat) (w : World) (hs : BallsAt w a bs) (hT : TabOK w) (h : rdE l bs = 0) :
    Calls Tryd.prog 16 #[l.val, .slice a bs.length c] w fun e w' => e = .returned (.tuple #[.agg #[.int .i64 (spLo l bs), .int .i64 (spHi l bs)], .int .i64 0]) ∧ Below w.heap.size w w' := by
  obtain ⟨ok, hw, ht⟩ := recS_ok h
  have HR := Lib.hid (fun w hs => read_good l bs a c w hs h)
  have HS := Lib.hid hs
  have HT := Lib.hid hT
  have HW := Lib.hid hw
  have OK := Lib.hid ok
  have HTT := Lib.hid ht
  unfold Lw.val at *
  obtain ⟨lo, hlo⟩ : ∃ lo, Hid (lo = spLo l bs) := ⟨_, Lib.hid rfl⟩
  obtain ⟨hi, hhi⟩ : ∃ hi, Hid (hi = spHi l bs) := ⟨_, Lib.hid rfl⟩
  rw [← hlo.out, ← hhi.out]
  have hfin : Hid (finN l bs = Rs l (recS l bs).s <<< (recS l bs).tot.toNat) := Lib.hid rfl
  unfold spLo at hlo
  unfold spHi at hhi
  generalize recS l bs = r at *
  generalize finN l bs = N at *
  clear h ok hw ht hs hT
  go_enter Tryd.func16, Tryd.ntmps16
  go_wp2_with fail
  obtain ⟨hz2, hB1, H50, hc0⟩ := sp_start w l
  generalize World.alloc (World.alloc w _) _ = w1 at hz2 hB1 H50 hc0 ⊢
  have k0 : w1.cell? ⟨w.heap.size, 0, none⟩ = some (.int .i64 l.fr) := by simp [World.cell?, hc0]
  have k1 : w1.cell? ⟨w.heap.size, 1, none⟩ = some (.int .i64 l.pn) := by simp [World.cell?, hc0]
  have k2 : w1.cell? ⟨w.heap.size, 2, none⟩ = some (.int .i64 l.bl) := by simp [World.cell?, hc0]
  have k3 : w1.cell? ⟨w.heap.size, 3, none⟩ = some (.int .i64 l.tp) := by simp [World.cell?, hc0]
  clear hc0
  go_wp2_with fail
  refine (HR.out _ (HS.out.after hB1.out)).mono ?_
  rintro e w2 ⟨base, fv, cv, vs, rfl, how, hln, hbase, hb2⟩
  obtain ⟨fa, fm, fc, rfl⟩ := ownsRow_shape (how.own (28, fv, vs) (by simp [items]))
  obtain ⟨ca, cm, cc, rfl⟩ := ownsRow_shape (how.own (3, cv, r.cs.map (Value.int .i64)) (by simp [items]))
  have HB2 := Lib.hid (hB1.out.trans (hb2.mono hB1.out.size))
  have H52 := Lib.hid ((hb2.block _ hz2.out).trans H50.out)
  have HD2 : Hid (w.heap.size + 1 < w2.heap.size) := Lib.hid (Nat.lt_of_lt_of_le hz2.out hb2.size)
  clear how hln hbase hb2 k0 k1 k2 k3 HR HS hB1 H50 hz2
  unfold rval
  go_wp2_with fail
  have RB3 := Lib.hid (show RB (w2.alloc (.cells #[.int .i64 l.fr, .int .i64 l.pn, .int .i64 l.bl, .int .i64 l.tp, .int .i64 r.s.f, .int .i64 r.s.b, .int .i64 r.s.s, .bool r.s.fresh, .bool r.s.more, .int .i64 r.s.x, .int .i64 r.s.y, .slice fa fm fc, .slice ca cm cc, .int .i64 r.tot] 74)) w2.heap.size l r.s (.slice fa fm fc) (.slice ca cm cc) r.tot from ⟨heap_alloc_new w2 _⟩)
  have H53 := Lib.hid ((Below.heap_alloc w2 (.cells #[.int .i64 l.fr, .int .i64 l.pn, .int .i64 l.bl, .int .i64 l.tp, .int .i64 r.s.f, .int .i64 r.s.b, .int .i64 r.s.s, .bool r.s.fresh, .bool r.s.more, .int .i64 r.s.x, .int .i64 r.s.y, .slice fa fm fc, .slice ca cm cc, .int .i64 r.tot] 74) _ HD2.out).trans H52.out)
  have HB3 := Lib.hid (HB2.out.alloc HB2.out.size (.cells #[.int .i64 l.fr, .int .i64 l.pn, .int .i64 l.bl, .int .i64 l.tp, .int .i64 r.s.f, .int .i64 r.s.b, .int .i64 r.s.s, .bool r.s.fresh, .bool r.s.more, .int .i64 r.s.x, .int .i64 r.s.y, .slice fa fm fc, .slice ca cm cc, .int .i64 r.tot] 74))
  generalize World.alloc w2 _ = w3 at RB3 H53 HB3 ⊢
  clear HB2 H52
  have hb3 := Lib.hid (lt_of_block RB3.out.blk)
  refine (search_any l _).mono ?_
  rintro e w4 ⟨rfl, hsw, hb4⟩
  have RB4 := Lib.hid (show RB w4 w2.heap.size l r.s (.slice fa fm fc) (.slice ca cm cc) r.tot from ⟨(hb4.block _ hb3.out).trans RB3.out.blk⟩)
  have H54 := Lib.hid ((hb4.block _ (Nat.lt_trans HD2.out hb3.out)).trans H53.out)
  have HB4 := Lib.hid (HB3.out.trans (hb4.mono HB3.out.size))
  have HSW := Lib.hid hsw
  clear hb4 hsw RB3 H53
  go_wp2_with fail
  have htt : Hid (r.tot = ((r.tot.toNat / 64 * 64 + r.tot.toNat % 64 : Nat) : Int)) := Lib.hid (by have := HW.out.t1; omega)
  have hN : Hid (N = Rs l r.s <<< (r.tot.toNat / 64 * 64 + r.tot.toNat % 64)) := Lib.hid (by rw [hfin.out]; congr 1; omega)
  refine (finals_any w2.heap.size l r.s r.tot _ _ _ (r.tot.toNat / 64) (r.tot.toNat % 64) w4 HW.out.vd (Lib.hid (rest_ok l OK.out _ _ _)) ⟨RB4.out.at, RB4.out.c13⟩ HSW.out (by have := hb3.out; omega) (lt_of_block RB4.out.blk) htt.out (by omega) (by have := HTT.out; have := HW.out.t1; omega)).mono ?_
  rintro e w5 ⟨rfl, hsw5, hg5⟩
  rw [← hN.out]
  have H55 := Lib.hid ((hg5.out.block _ (lt_of_block H54.out) (fun e => by have := hb3.out; have := HD2.out; have := Option.some.inj e; omega)).trans H54.out)
  have HB5 := Lib.hid (HB4.out.grown hg5.out HB4.out.size (fun k e => by cases e; exact HB3.out.size))
  clear hsw5 hg5 HSW RB4 H54
  go_wp2_with fail
  refine (span_any (fun i => wd N i) (wd_lt N) w5 (HT.out.below HB5.out HT.out.pos)).mono ?_
  rintro e w6 ⟨rfl, hb6⟩
  have H56 := Lib.hid ((hb6.block _ (lt_of_block H55.out)).trans H55.out)
  have HB6 := Lib.hid (HB5.out.trans (hb6.mono HB5.out.size))
  clear hb6 H55
  rw [← hlo.out, ← hhi.out]
  have d0 : w6.cell? ⟨w.heap.size + 1, 0, none⟩ = some (.int .i64 0) := by have h := H56.out; simp [World.cell?, h]
  have d1 : w6.cell? ⟨w.heap.size + 1, 1, none⟩ = some (.int .i64 0) := by have h := H56.out; simp [World.cell?, h]
  have z0 : w6.frozen? ⟨w.heap.size + 1, 0, none⟩ = false := by have h := H56.out; simp [World.frozen?, h]
  have z1 : w6.frozen? ⟨w.heap.size + 1, 1, none⟩ = false := by have h := H56.out; simp [World.frozen?, h]
  go_wp2_with fail
  have a0 := blk_setCell H56.out 0 (.int .i64 lo)
  have a1 := blk_setCell a0 1 (.int .i64 hi)
  have HG := Lib.hid (grown_set (grown_set (World.grownBy.refl w6 (some (w.heap.size + 1))) 0 (.int .i64 lo)) 1 (.int .i64 hi))
  clear a0 d0 d1 z0 z1
  generalize World.setCell _ _ _ = W9 at a1 HG ⊢
  have c0 : W9.cell? ⟨w.heap.size + 1, 0, none⟩ = some (.int .i64 lo) := by simp [World.cell?, a1]
  have c1 : W9.cell? ⟨w.heap.size + 1, 1, none⟩ = some (.int .i64 hi) := by simp [World.cell?, a1]
  refine bodyPost_ret (v := .tuple #[.agg #[.int .i64 lo, .int .i64 hi], .int .i64 0]) (by simp [results, Tryd.results16, go_sem, c0, c1]) rfl ?_
  exact ⟨rfl, HB6.out.grown HG.out HB6.out.size (fun k e => by cases e; exact Nat.le_succ _)⟩

set_option maxRecDepth 100000 in
set_option maxHeartbeats 4000000 in
theorem span_bad (l : Lw) (bs : List Int) (a : Option Addr) (c : Nat) (w : World) (hs : BallsAt w a bs) (h : rdE l bs ≠ 0) :
    Calls Tryd.prog 16 #[l.val, .slice a bs.length c] w fun e w' => e = .returned (.tuple #[.agg #[.int .i64 0, .int .i64 0], .int .i64 (rdE l bs)]) ∧ Below w.heap.size w w' := by
  have HR := Lib.hid (fun w hs => read_bad l bs a c w hs h)
  have HS := Lib.hid hs
  unfold Lw.val at *
  have hne : (rdE l bs == 0) = false := by simpa using h
  generalize rdE l bs = er at *
  clear h hs
  go_enter Tryd.func16, Tryd.ntmps16
  go_wp2_with fail
  obtain ⟨hz2, hB1, H50, hc0⟩ := sp_start w l
  generalize World.alloc (World.alloc w _) _ = w1 at hz2 hB1 H50 hc0 ⊢
  have k0 : w1.cell? ⟨w.heap.size, 0, none⟩ = some (.int .i64 l.fr) := by simp [World.cell?, hc0]
  have k1 : w1.cell? ⟨w.heap.size, 1, none⟩ = some (.int .i64 l.pn) := by simp [World.cell?, hc0]
  have k2 : w1.cell? ⟨w.heap.size, 2, none⟩ = some (.int .i64 l.bl) := by simp [World.cell?, hc0]
  have k3 : w1.cell? ⟨w.heap.size, 3, none⟩ = some (.int .i64 l.tp) := by simp [World.cell?, hc0]
  clear hc0
  go_wp2_with fail
  refine (HR.out _ (HS.out.after hB1.out)).mono ?_
  rintro e w2 ⟨rfl, hb2⟩
  unfold zval
  have HB2 := Lib.hid (hB1.out.trans (hb2.mono hB1.out.size))
  have HD2 : Hid (w.heap.size + 1 < w2.heap.size) := Lib.hid (Nat.lt_of_lt_of_le hz2.out hb2.size)
  have h52 := (Below.heap_alloc w2 (.cells #[.int .i64 0, .int .i64 0, .int .i64 0, .int .i64 0, .int .i64 0, .int .i64 0, .int .i64 0, .bool false, .bool false, .int .i64 0, .int .i64 0, .slice none 0 0, .slice none 0 0, .int .i64 0] 74) _ HD2.out).trans ((hb2.block _ hz2.out).trans H50.out)
  have H52 := Lib.hid h52
  have HB3 := Lib.hid (HB2.out.alloc HB2.out.size (.cells #[.int .i64 0, .int .i64 0, .int .i64 0, .int .i64 0, .int .i64 0, .int .i64 0, .int .i64 0, .bool false, .bool false, .int .i64 0, .int .i64 0, .slice none 0 0, .slice none 0 0, .int .i64 0] 74))
  have d0 : (w2.alloc (.cells #[.int .i64 0, .int .i64 0, .int .i64 0, .int .i64 0, .int .i64 0, .int .i64 0, .int .i64 0, .bool false, .bool false, .int .i64 0, .int .i64 0, .slice none 0 0, .slice none 0 0, .int .i64 0] 74)).cell? ⟨w.heap.size + 1, 0, none⟩ = some (.int .i64 0) := by simp only [World.cell?, h52]; rfl
  have d1 : (w2.alloc (.cells #[.int .i64 0, .int .i64 0, .int .i64 0, .int .i64 0, .int .i64 0, .int .i64 0, .int .i64 0, .bool false, .bool false, .int .i64 0, .int .i64 0, .slice none 0 0, .slice none 0 0, .int .i64 0] 74)).cell? ⟨w.heap.size + 1, 1, none⟩ = some (.int .i64 0) := by simp only [World.cell?, h52]; rfl
  have z0 : (w2.alloc (.cells #[.int .i64 0, .int .i64 0, .int .i64 0, .int .i64 0, .int .i64 0, .int .i64 0, .int .i64 0, .bool false, .bool false, .int .i64 0, .int .i64 0, .slice none 0 0, .slice none 0 0, .int .i64 0] 74)).frozen? ⟨w.heap.size + 1, 0, none⟩ = false := by simp only [World.frozen?, h52]; rfl
  have z1 : (w2.alloc (.cells #[.int .i64 0, .int .i64 0, .int .i64 0, .int .i64 0, .int .i64 0, .int .i64 0, .int .i64 0, .bool false, .bool false, .int .i64 0, .int .i64 0, .slice none 0 0, .slice none 0 0, .int .i64 0] 74)).frozen? ⟨w.heap.size + 1, 1, none⟩ = false := by simp only [World.frozen?, h52]; rfl
  clear hb2 k0 k1 k2 k3 HR HS hB1 H50 hz2 h52
  go_wp2_with fail
  have a0 := blk_setCell H52.out 0 (.int .i64 0)
  have a1 := blk_setCell a0 1 (.int .i64 0)
  have HG := Lib.hid (grown_set (grown_set (World.grownBy.refl (w2.alloc (.cells #[.int .i64 0, .int .i64 0, .int .i64 0, .int .i64 0, .int .i64 0, .int .i64 0, .int .i64 0, .bool false, .bool false, .int .i64 0, .int .i64 0, .slice none 0 0, .slice none 0 0, .int .i64 0] 74)) (some (w.heap.size + 1))) 0 (.int .i64 0)) 1 (.int .i64 0))
  clear a0 d0 d1 z0 z1
  generalize World.setCell _ _ _ = W9 at a1 HG ⊢
  have c0 : W9.cell? ⟨w.heap.size + 1, 0, none⟩ = some (.int .i64 0) := by simp [World.cell?, a1]
  have c1 : W9.cell? ⟨w.heap.size + 1, 1, none⟩ = some (.int .i64 0) := by simp [World.cell?, a1]
  refine bodyPost_ret (v := .tuple #[.agg #[.int .i64 0, .int .i64 0], .int .i64 er]) (by simp [results, Tryd.results16, go_sem, c0, c1]) rfl ?_
  exact ⟨rfl, HB3.out.grown HG.out HB3.out.size (fun k e => by cases e; exact Nat.le_succ _)⟩

end Go.Proofs.YtmjbidnlknmcgabDoor

namespace Go.Proofs.YtmjbidnlknmcgabDoor
open Go.RowKit

theorem wd_none {N i : Nat} (h : ∀ j, j < 64 → N.testBit (64 * i + j) = false) : wd N i = 0 := by
  apply Nat.eq_of_testBit_eq
  intro j
  rw [wd_bit, Nat.zero_testBit]
  by_cases hj : j < 64
  · rw [h j hj]; simp
  · simp [hj]

theorem wd_nz {N q r : Nat} (hr : r < 64) (h : N.testBit (64 * q + r) = true) : wd N q ≠ 0 := fun e => by
  have := wd_bit N q r
  rw [e, h, Nat.zero_testBit] at this
  simp [hr] at this

theorem len_bit {x r : Nat} (hx : x.testBit r = true) (hn : ∀ j, r < j → x.testBit j = false) (h64 : x < 2 ^ 64) : Lib.bitLen x = r + 1 := by
  have hlt : x < 2 ^ (r + 1) := Nat.lt_pow_two_of_testBit x (fun j hj => hn j (by omega))
  have hge : 2 ^ r ≤ x := Nat.ge_two_pow_of_testBit hx
  have h0 : x ≠ 0 := by have := Nat.two_pow_pos r; omega
  obtain ⟨h1, h2, h3⟩ := Lib.bitLenAux_bounds 64 x h64 h0
  have a1 : Lib.bitLen x - 1 < r + 1 := (Nat.pow_lt_pow_iff_right (by omega)).1 (Nat.lt_of_le_of_lt h2 hlt)
  have a2 : r < Lib.bitLen x := (Nat.pow_lt_pow_iff_right (by omega)).1 (Nat.lt_of_le_of_lt hge h3)
  omega

theorem hiW_bit {N m : Nat} (hm : N.testBit m = true) (hn : ∀ j, m < j → N.testBit j = false) (h : m < 320) : hiW (fun i => wd N i) = m := by
  obtain ⟨q, r, rfl, hr⟩ : ∃ q r, m = 64 * q + r ∧ r < 64 := ⟨m / 64, m % 64, by omega, by omega⟩
  have hq := wd_nz hr hm
  have hz : ∀ i, q < i → wd N i = 0 := fun i hi => wd_none (fun j hj => hn _ (by omega))
  have hl : Lib.bitLen (wd N q) = r + 1 := len_bit (by rw [wd_bit, hm]; simp [hr]) (fun j hj => by
    rw [wd_bit]
    by_cases h64 : j < 64
    · rw [hn _ (by omega)]; simp
    · simp [h64]) (wd_lt N q)
  have hq4 : q ≤ 4 := by omega
  unfold hiW
  simp only
  rcases (by omega : q = 0 ∨ q = 1 ∨ q = 2 ∨ q = 3 ∨ q = 4) with rfl | rfl | rfl | rfl | rfl
  · rw [hz 4 (by omega), hz 3 (by omega), hz 2 (by omega), hz 1 (by omega)]; simp [hq, hl]
  · rw [hz 4 (by omega), hz 3 (by omega), hz 2 (by omega)]; (simp [hq, hl] <;> omega)
  · rw [hz 4 (by omega), hz 3 (by omega)]; (simp [hq, hl] <;> omega)
  · rw [hz 4 (by omega)]; (simp [hq, hl] <;> omega)
  · (simp [hq, hl] <;> omega)

theorem ctz_bit {x r : Nat} (hx : x.testBit r = true) (hn : ∀ j, j < r → x.testBit j = false) (h64 : x < 2 ^ 64) : Lib.ctz 64 x = r := by
  have h0 : x ≠ 0 := fun e => by rw [e, Nat.zero_testBit] at hx; cases hx
  obtain ⟨m, hm, _⟩ := Lib.ctzFrom_spec 64 x (by omega) h64
  have e : Lib.ctz 64 x = Lib.ctzFrom 64 x := if_neg h0
  rw [e]
  generalize Lib.ctzFrom 64 x = c at hm
  subst hm
  have hc : (2 ^ c * (2 * m + 1)).testBit c = true := by
    rw [Nat.testBit_two_pow_mul]
    simp [Nat.testBit_zero]
  rcases Nat.lt_trichotomy c r with h | h | h
  · rw [hn c h] at hc; cases hc
  · exact h
  · rw [Nat.testBit_two_pow_mul] at hx
    simp at hx
    omega

theorem loW_bit {N m : Nat} (hm : N.testBit m = true) (hn : ∀ j, j < m → N.testBit j = false) (h : m < 320) : loW (fun i => wd N i) = m := by
  obtain ⟨q, r, rfl, hr⟩ : ∃ q r, m = 64 * q + r ∧ r < 64 := ⟨m / 64, m % 64, by omega, by omega⟩
  have hq := wd_nz hr hm
  have hz : ∀ i, i < q → wd N i = 0 := fun i hi => wd_none (fun j hj => hn _ (by omega))
  have hl : Lib.ctz 64 (wd N q) = r := ctz_bit (by rw [wd_bit, hm]; simp [hr]) (fun j hj => by
    rw [wd_bit]
    by_cases h64 : j < 64
    · rw [hn _ (by omega)]; simp
    · simp [h64]) (wd_lt N q)
  have hq4 : q ≤ 4 := by omega
  unfold loW
  simp only
  rcases (by omega : q = 0 ∨ q = 1 ∨ q = 2 ∨ q = 3 ∨ q = 4) with rfl | rfl | rfl | rfl | rfl
  · simp [hq, hl]
  · rw [hz 0 (by omega)]; (simp [hq, hl] <;> omega)
  · rw [hz 0 (by omega), hz 1 (by omega)]; (simp [hq, hl] <;> omega)
  · rw [hz 0 (by omega), hz 1 (by omega), hz 2 (by omega)]; (simp [hq, hl] <;> omega)
  · rw [hz 0 (by omega), hz 1 (by omega), hz 2 (by omega), hz 3 (by omega)]; (simp [hq, hl] <;> omega)

/-- The span of a game's sheet: from what is counted to that and the most that endings add. -/
theorem lo_hi {l : Lw} {s : Sd} {t : Nat} (ok : l.Ok) (v : Vr l s) (h : (t : Int) + bestV l s < 320) :
    ((loW (fun i => wd (Rs l s <<< t) i) : Nat) : Int) = t ∧ ((hiW (fun i => wd (Rs l s <<< t) i) : Nat) : Int) = t + bestV l s := by
  have hn := best_nn v ok
  have hz := Rs_zero ok (mu l s + 1) s (by omega) v.vd
  have ht := Rs_top ok (mu l s + 1) s (by omega) v
  have hl := Rs_le ok (mu l s + 1) s (by omega) v
  constructor
  · rw [loW_bit (m := t)]
    · rw [Nat.testBit_shiftLeft]; simp [hz]
    · intro j hj
      rw [Nat.testBit_shiftLeft]
      simp
      intro h; omega
    · omega
  · rw [hiW_bit (m := t + (bestV l s).toNat)]
    · omega
    · rw [Nat.testBit_shiftLeft]; simp [ht]
    · intro j hj
      rw [Nat.testBit_shiftLeft]
      by_cases hjt : t ≤ j
      · have : (Rs l s).testBit (j - t) = false := by
          cases hb : (Rs l s).testBit (j - t) with
          | false => rfl
          | true => have := hl _ hb; omega
        simp [this]
      · simp [hjt]
    · omega

end Go.Proofs.YtmjbidnlknmcgabDoor

namespace Go.Proofs.YtmjbidnlknmcgabDoor
open Go.RowKit

theorem beg_vr (l : Lw) (ok : l.Ok) : Vr l (begS l) := by
  have of1 := ok.f1
  refine ⟨beg_vd l ok, ?_, ?_, ?_, ?_, ?_, ?_⟩ <;> simp [begS]

theorem fol_vr {l : Lw} (ok : l.Ok) : ∀ (bs : List Int) (r : Rc), Vr l r.s → Vr l (fol l r bs).1.s ∧ (fol l r bs).1.tot + bestV l (fol l r bs).1.s ≤ r.tot + bestV l r.s
  | [], r, h => by simpa [fol] using h
  | k :: ks, r, h => by
    rw [fol]
    split
    · rename_i ht
      obtain ⟨h1, h2⟩ := fol_vr ok ks (noteR l r k) (h.beh ok ht)
      have h3 := (best_step h ok ht).1.1
      refine ⟨h1, ?_⟩
      have e1 : (noteR l r k).tot = r.tot + cnt l r.s k * (1 + r.s.x) := rfl
      have e2 : (noteR l r k).s = behS l r.s k := rfl
      rw [e1, e2] at h2
      simp only
      omega
    · exact ⟨h, Int.le_refl _⟩

theorem best_beg (l : Lw) (ok : l.Ok) : bestV l (begS l) = 3 * (l.pn * l.fr) := by
  have of1 := ok.f1
  unfold bestV
  rw [if_neg (by simp [begS]; omega), if_pos (by simp [begS])]
  simp [begS]

theorem most_le (l : Lw) (ok : l.Ok) : 3 * (l.pn * l.fr) ≤ 300 := by
  have : l.pn * l.fr ≤ 10 * 10 := Int.mul_le_mul ok.p2 ok.f2 (by have := ok.f1; omega) (by omega)
  omega

theorem recS_best {l : Lw} {bs : List Int} (h : rdE l bs = 0) : Vr l (recS l bs).s ∧ (recS l bs).tot + bestV l (recS l bs).s ≤ 300 := by
  have ok := (recS_ok h).1
  obtain ⟨h1, h2⟩ := fol_vr ok bs (rec0 l) (beg_vr l ok)
  refine ⟨h1, ?_⟩
  have e1 : (rec0 l).tot = 0 := rfl
  have e2 : (rec0 l).s = begS l := rfl
  rw [e1, e2, best_beg l ok] at h2
  have := most_le l ok
  show (fol l (rec0 l) bs).1.tot + _ ≤ _
  have e3 : recS l bs = (fol l (rec0 l) bs).1 := rfl
  rw [e3]
  omega

theorem span_val {l : Lw} {bs : List Int} (h : rdE l bs = 0) : spLo l bs = (recS l bs).tot ∧ spHi l bs = (recS l bs).tot + bestV l (recS l bs).s := by
  obtain ⟨ok, hw, _⟩ := recS_ok h
  obtain ⟨v, hb⟩ := recS_best h
  have ht := hw.t1
  have e : ((recS l bs).tot.toNat : Int) = (recS l bs).tot := by omega
  obtain ⟨h1, h2⟩ := lo_hi (t := (recS l bs).tot.toNat) ok v (by omega)
  rw [e] at h1 h2
  exact ⟨h1, h2⟩

/-- The sheet without balls. -/
theorem span_none {l : Lw} (h : rdE l [] = 0) : spLo l [] = 0 ∧ spHi l [] = 3 * (l.pn * l.fr) := by
  obtain ⟨h1, h2⟩ := span_val h
  have e : recS l [] = rec0 l := rfl
  have e1 : (rec0 l).tot = 0 := rfl
  have e2 : (rec0 l).s = begS l := rfl
  rw [e, e1] at h1
  rw [e, e1, e2, best_beg l (recS_ok h).1] at h2
  exact ⟨h1, by omega⟩

end Go.Proofs.YtmjbidnlknmcgabDoor
