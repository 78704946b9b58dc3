/- The walk of RackLaw. -/
import Derived.Test.YtaloffdkadhhnaaDoorCq
set_option linter.unusedVariables false
set_option linter.unusedSimpArgs false
namespace Go.Proofs.YtaloffdkadhhnaaDoor
open Go.RowKit

attribute [local go_sem] Oper.semAt_some

/-- Where a statement over a rack stands: its argument's box, and all that lay before. -/
structure St (r : Rk) (w W : World) : Prop where
  bl : Below w.heap.size w W
  bK : Blk W w.heap.size (rCells r) 24
theorem St.start (r : Rk) (w : World) : St r w (w.alloc (.cells (rCells r) 24)) := ⟨below_al _ _, Blk.new _ _ _⟩
theorem St.go {r : Rk} {w W W' : World} (h : St r w W) (hb : Below W.heap.size W W') : St r w W' :=
  ⟨below_go h.bl hb, Blk.alt h.bK (Alt.of_below (p := fun k => W.heap.size ≤ k) hb (fun k _ e => e)) (by have := h.bK.lt; omega)⟩
theorem St.c {r : Rk} {w W : World} (h : St r w W) :
    W.cell? ⟨w.heap.size, 0, none⟩ = some (.int .i64 r.rows) ∧ W.cell? ⟨w.heap.size, 1, none⟩ = some (.int .i64 r.mid) ∧ W.cell? ⟨w.heap.size, 2, none⟩ = some (.int .i64 r.gap) ∧
    W.cell? ⟨w.heap.size, 3, none⟩ = some (.int .i64 r.reach) ∧ W.cell? ⟨w.heap.size, 4, none⟩ = some (.slice r.la r.ls.length r.lc) :=
  ⟨h.bK.cell 0 rfl, h.bK.cell 1 rfl, h.bK.cell 2 rfl, h.bK.cell 3 rfl, h.bK.cell 4 rfl⟩

/-- A list that the law has made anew. -/
def NewInts (xs : List Int) (w : World) (e : Ending) (w' : World) : Prop := ∃ a c, e = .returned (.slice a xs.length c) ∧ IntsAt w' a xs ∧ Below w.heap.size w w'
theorem lawints_any (xs : List Int) (a : Option Addr) (c : Nat) (w : World) (hs : IntsAt w a xs) (h0 : a = none → xs = [] ∧ c = 0) (hn : xs.length ≤ 1000) :
    Calls Tryd.prog 20 #[.slice a xs.length c] w (NewInts xs w) :=
  (lawlist_any xs a c w hs h0 hn).mono fun e w' ⟨v, he, ho, hb⟩ => by
    obtain ⟨a', c', rfl, hi⟩ := SlAt.own ho
    exact ⟨a', c', he, hi, hb⟩

set_option maxRecDepth 100000 in
set_option maxHeartbeats 8000000 in
theorem rackLaw_any (r : Rk) (xs : List Int) (a : Option Addr) (c : Nat) (w : World) (hL : LinksAt w r.la r.ls) (hX : IntsAt w a xs) (h0 : a = none → xs = [] ∧ c = 0) (hT : TabOK w) :
    Calls Tryd.prog 14 #[r.val, .slice a xs.length c] w fun e w' => e = .returned (.bool true) ∧ Below w.heap.size w w' := by
  have TH := Lib.hid (fun W => thin_any r a none xs.length c 0 0 W)
  have AW := Lib.hid (fun W (hb : Below w.heap.size w W) => awake_any W (hT.lo hb))
  have S0 := Lib.hid (St.start r w)
  unfold rCells at S0
  by_cases hthin : thinB r xs.length 0 = true
  · have hn16 : r.ls.length ≤ 16 := by unfold thinB at hthin; simp at hthin; exact hthin.1
    have hx15 : xs.length ≤ 15 := by unfold thinB at hthin; simp at hthin; exact hthin.2
    have PI := Lib.hid (fun W (hb : Below w.heap.size w W) => pinned_any r xs a c W (hL.lo hb) (by omega) (hX.lo hb) (by omega))
    rw [hthin] at TH
    by_cases hE : chkE r xs = 0
    · have hf := (chk_ok hE).1
      have hok := (faultN_ok hf).1
      have KI := Lib.hid (fun W a1 c1 a2 c2 (hb : Below w.heap.size w W) (h1 : LinksAt W a1 r.ls) (h2 : IntsAt W a2 xs) => Kind_any (r.at a1 c1) xs a2 c2 W h1 (show r.ls.length ≤ 1000 by omega) h2 (by omega) (hT.lo hb))
      have CE := Lib.hid (fun W a1 c1 (hb : Below w.heap.size w W) (h1 : LinksAt W a1 r.ls) => Census_any (r.at a1 c1) W h1 (show r.ls.length ≤ 1000 by omega) (hT.lo hb))
      have RA := Lib.hid (fun W (hb : Below w.heap.size w W) => lawRack_any r W (hL.lo hb) (by omega))
      have LI := Lib.hid (fun W (hb : Below w.heap.size w W) => lawints_any xs a c W (hX.lo hb) h0 (by omega))
      have PN := Lib.hid (fun W => refPins_any r W hok.r1 hok.r2)
      simp only [kndN_cp, chkE_cp, cenV_cp, faultN_cp] at KI CE
      rw [hE] at KI PI
      have hcv : cenV r = .agg (cenA r (2 ^ (pinsN r.rows).toNat)) := by unfold cenV; rw [if_pos hf]
      rw [hf, hcv] at CE
      unfold cenA at CE
      have n1 := cnt_ones hok.r1 hok.r2
      have n0 : (cntK r (2 ^ (pinsN r.rows).toNat) 0 : Int) = 1 := by rw [cnt_none]; rfl
      have hsum := cnt_sum r (2 ^ (pinsN r.rows).toNat)
      have hP := @pinsN_bd r
      rw [n0, n1] at CE
      have hN : (1 : Int) + pinsN r.rows + (cntK r (2 ^ (pinsN r.rows).toNat) 2 : Int) + (cntK r (2 ^ (pinsN r.rows).toNat) 3 : Int) + (cntK r (2 ^ (pinsN r.rows).toNat) 4 : Int) = ((2 ^ (pinsN r.rows).toNat : Nat) : Int) := by
        
        have h9 := congrArg (fun n : Nat => (n : Int)) hsum
        simp only [Int.natCast_add] at h9
        rw [n0, n1] at h9
        exact h9
      have e2 : 2 ^ (pinsN r.rows).toNat ≤ 1024 := Nat.pow_le_pow_right (n := 2) (by omega) (show (pinsN r.rows).toNat ≤ 10 by omega)
      clear n0 n1 hsum hcv
      have HKN0 := Lib.hid (fun (h : xs.length = 0) => knd_len0 hE h)
      have HKN1 := Lib.hid (fun (h : xs.length = 1) => knd_len1 hE h)
      have HKN2 : Hid (∀ x ys, xs = x :: ys → 2 ≤ xs.length → kndN r xs = 2 ∨ (kndN r xs = 3 ∧ x ≠ 0) ∨ (kndN r xs = 4 ∧ x = 0)) := Lib.hid (fun x ys e h => by subst e; exact knd_more hE h)
      generalize cntK r (2 ^ (pinsN r.rows).toNat) 2 = m2 at *
      generalize cntK r (2 ^ (pinsN r.rows).toNat) 3 = m3 at *
      generalize cntK r (2 ^ (pinsN r.rows).toNat) 4 = m4 at *
      generalize kndN r xs = KN at *
      have HPC : Hid (pinsN r.rows = 1 ∨ pinsN r.rows = 3 ∨ pinsN r.rows = 6 ∨ pinsN r.rows = 10) := Lib.hid (by
        have h1 := hok.r1; have h2 := hok.r2
        have h : r.rows = 1 ∨ r.rows = 2 ∨ r.rows = 3 ∨ r.rows = 4 := by omega
        rcases h with h | h | h | h <;> rw [h] <;> decide)
      generalize pinsN r.rows = P at *
      have HX := Lib.hid hX
      clear hE hf hok hL hX h0 hT hthin hx15 hn16
      unfold Rk.val at *
      unfold Rk.at at *
      simp only at KI CE
      go_enter Tryd.func14, Tryd.ntmps14
      go_wp2_with fail
      refine (TH.out _).mono ?_
      rintro e w1 ⟨rfl, hb⟩
      have S1 := Lib.hid (S0.out.go hb)
      obtain ⟨r0, r1, r2, r3, r4⟩ := S1.out.c
      clear hb S0
      go_wp2_with fail
      refine (PI.out _ S1.out.bl).mono ?_
      rintro e w2 ⟨rfl, hb⟩
      have S2 := Lib.hid (S1.out.go hb)
      clear hb S1 r0 r1 r2 r3 r4
      obtain ⟨r0, r1, r2, r3, r4⟩ := S2.out.c
      go_wp2_with fail
      refine (RA.out _ S2.out.bl).mono ?_
      rintro e w3 ⟨a1, c1, rfl, hl1, hg1, hb⟩
      have S3 := Lib.hid (S2.out.go hb)
      have L3 := Lib.hid hl1
      clear hb S2 r0 r1 r2 r3 r4 hl1 hg1
      unfold Rk.val
      go_wp2_with fail
      refine (LI.out _ S3.out.bl).mono ?_
      rintro e w4 ⟨a2, c2, rfl, hi2, hb⟩
      have S4 := Lib.hid (S3.out.go hb)
      have L4 := Lib.hid (L3.out.lo hb)
      have X4 := Lib.hid hi2
      clear hb S3 hi2 L3
      go_wp2_with fail
      refine (KI.out _ _ _ _ _ S4.out.bl L4.out X4.out).mono ?_
      rintro e w5 ⟨rfl, hb⟩
      have S5 := Lib.hid (S4.out.go hb)
      clear hb S4 L4 X4
      obtain ⟨r0, r1, r2, r3, r4⟩ := S5.out.c
      go_wp2_with fail
      refine (RA.out _ S5.out.bl).mono ?_
      rintro e w6 ⟨a3, c3, rfl, hl1, hg1, hb⟩
      have S6 := Lib.hid (S5.out.go hb)
      have L6 := Lib.hid hl1
      clear hb S5 r0 r1 r2 r3 r4 hl1 hg1
      unfold Rk.val
      go_wp2_with fail
      refine (CE.out _ _ _ S6.out.bl L6.out).mono ?_
      rintro e w7 ⟨rfl, hb⟩
      have S7 := Lib.hid (S6.out.go (hb.trans ((below_al w7 (.cells #[.int .i64 1, .int .i64 P, .int .i64 m2, .int .i64 m3, .int .i64 m4] 37)).mono hb.size)))
      have C7 := Lib.hid (Blk.new w7 #[.int .i64 1, .int .i64 P, .int .i64 m2, .int .i64 m3, .int .i64 m4] 37)
      clear hb S6 L6
      obtain ⟨r0, r1, r2, r3, r4⟩ := S7.out.c
      go_wp2_with fail
      refine (PN.out _).mono ?_
      rintro e w8 ⟨rfl, hb⟩
      have S8 := Lib.hid (S7.out.go hb)
      have C8 := Lib.hid (Blk.alt C7.out (Alt.of_below (p := fun _ => False) hb (fun k hk h => by omega)) id)
      clear hb S7 C7 r0 r1 r2 r3 r4
      have q0 : w8.cell? ⟨w7.heap.size, 0, none⟩ = some (.int .i64 1) := C8.out.cell 0 rfl
      have q1 : w8.cell? ⟨w7.heap.size, 1, none⟩ = some (.int .i64 P) := C8.out.cell 1 rfl
      have q2 : w8.cell? ⟨w7.heap.size, 2, none⟩ = some (.int .i64 m2) := C8.out.cell 2 rfl
      have q3 : w8.cell? ⟨w7.heap.size, 3, none⟩ = some (.int .i64 m3) := C8.out.cell 3 rfl
      have q4 : w8.cell? ⟨w7.heap.size, 4, none⟩ = some (.int .i64 m4) := C8.out.cell 4 rfl
      have b2 : (m2 : Int) ≤ 1024 := by omega
      have b3 : (m3 : Int) ≤ 1024 := by omega
      have b4 : (m4 : Int) ≤ 1024 := by omega
      have HN := Lib.hid hN
      clear hN e2
      have hpc := HPC.out
      clear HPC b2 b3 b4 hP PN RA LI CE KI
      rcases hpc with rfl | rfl | rfl | rfl
      case' inl => have hN : (2 + (m2 : Int) + m3 + m4) = 2 := HN.out
      case' inr.inl => have hN : (4 + (m2 : Int) + m3 + m4) = 8 := HN.out
      case' inr.inr.inl => have hN : (7 + (m2 : Int) + m3 + m4) = 64 := HN.out
      case' inr.inr.inr => have hN : (11 + (m2 : Int) + m3 + m4) = 1024 := HN.out
      all_goals
        have b2 : (m2 : Int) ≤ 1024 := by omega
        have b3 : (m3 : Int) ≤ 1024 := by omega
        have b4 : (m4 : Int) ≤ 1024 := by omega
        have HN2 := Lib.hid hN
        clear HN hN
        go_upto_region 7 with fail
        rw [HN2.out]
        clear HN2
        go_upto_region 9 with fail
        clear q0 q1 q2 q3 q4 C8 b2 b3 b4
        by_cases hl0 : xs.length = 0
        · obtain rfl : KN = 0 := HKN0.out hl0
          have hz : ((xs.length : Int) == 0) = true := by simp [hl0]
          clear hl0 HKN0 HKN1 HKN2
          go_wp2_with fail
          refine (AW.out _ S8.out.bl).mono ?_
          rintro e w9 ⟨rfl, hb⟩
          have S9 := Lib.hid (S8.out.go hb)
          clear hb S8
          go_wp2_with fail
          go_returns
          exact ⟨rfl, S9.out.bl⟩
        · have hz : ((xs.length : Int) == 0) = false := beq_eq_false_iff_ne.2 (by omega)
          by_cases hl1 : xs.length = 1
          · obtain rfl : KN = 1 := HKN1.out hl1
            have hz1 : ((xs.length : Int) == 1) = true := by simp [hl1]
            clear hl0 hl1 HKN0 HKN1 HKN2
            go_wp2_with fail
            refine (AW.out _ S8.out.bl).mono ?_
            rintro e w9 ⟨rfl, hb⟩
            have S9 := Lib.hid (S8.out.go hb)
            clear hb S8
            go_wp2_with fail
            go_returns
            exact ⟨rfl, S9.out.bl⟩
          · have hz1 : ((xs.length : Int) == 1) = false := beq_eq_false_iff_ne.2 (by omega)
            obtain ⟨x, ys, hxy⟩ : ∃ x ys, xs = x :: ys := by
              cases xs with
              | nil => exact absurd rfl hl0
              | cons x ys => exact ⟨x, ys, rfl⟩
            have hkn := HKN2.out x ys hxy (by omega)
            obtain ⟨g, o, rfl, k1⟩ := HX.out 0 x (by rw [hxy]; rfl)
            have k2 : w8.cell? ⟨g, o, none⟩ = some (.int .i64 x) := cell_lo S8.out.bl k1
            have hp0 : (0 : Int) < (xs.length : Int) := by omega
            have hp1 : (0 : Nat) < xs.length := by omega
            clear hl0 hl1 HKN0 HKN1 HKN2 k1 hxy
            rcases hkn with rfl | ⟨rfl, hx0⟩ | ⟨rfl, rfl⟩
            · go_wp2_with fail
              refine (AW.out _ S8.out.bl).mono ?_
              rintro e w9 ⟨rfl, hb⟩
              have S9 := Lib.hid (S8.out.go hb)
              clear hb S8 k2
              go_wp2_with fail
              go_returns
              exact ⟨rfl, S9.out.bl⟩
            · have hx1 : (x == 0) = false := by simpa using hx0
              clear hx0
              go_wp2_with fail
              refine (AW.out _ S8.out.bl).mono ?_
              rintro e w9 ⟨rfl, hb⟩
              have S9 := Lib.hid (S8.out.go hb)
              clear hb S8 k2
              go_wp2_with fail
              go_returns
              exact ⟨rfl, S9.out.bl⟩
            · go_wp2_with fail
              refine (AW.out _ S8.out.bl).mono ?_
              rintro e w9 ⟨rfl, hb⟩
              have S9 := Lib.hid (S8.out.go hb)
              clear hb S8 k2
              go_wp2_with fail
              go_returns
              exact ⟨rfl, S9.out.bl⟩
    · have hE' : (chkE r xs == 0) = false := by simpa using hE
      generalize chkE r xs = E at *
      clear hE hL hX h0 hT hthin hn16 hx15
      unfold Rk.val at *
      go_enter Tryd.func14, Tryd.ntmps14
      go_wp2_with fail
      refine (TH.out _).mono ?_
      rintro e w1 ⟨rfl, hb⟩
      have S1 := Lib.hid (S0.out.go hb)
      obtain ⟨r0, r1, r2, r3, r4⟩ := S1.out.c
      clear hb S0
      go_wp2_with fail
      refine (PI.out _ S1.out.bl).mono ?_
      rintro e w2 ⟨rfl, hb⟩
      have S2 := Lib.hid (S1.out.go hb)
      clear hb S1 r0 r1 r2 r3 r4
      go_wp2_with fail
      refine (AW.out _ S2.out.bl).mono ?_
      rintro e w3 ⟨rfl, hb⟩
      have S3 := Lib.hid (S2.out.go hb)
      clear hb S2
      go_wp2_with fail
      go_returns
      exact ⟨rfl, S3.out.bl⟩
  · have hthin' : thinB r xs.length 0 = false := by simpa using hthin
    rw [hthin'] at TH
    clear hthin hthin' hL hX h0 hT
    unfold Rk.val at *
    go_enter Tryd.func14, Tryd.ntmps14
    go_wp2_with fail
    refine (TH.out _).mono ?_
    rintro e w1 ⟨rfl, hb⟩
    have S1 := Lib.hid (S0.out.go hb)
    clear hb S0
    go_wp2_with fail
    refine (AW.out _ S1.out.bl).mono ?_
    rintro e w3 ⟨rfl, hb⟩
    have S3 := Lib.hid (S1.out.go hb)
    clear hb S1
    go_wp2_with fail
    go_returns
    exact ⟨rfl, S3.out.bl⟩

end Go.Proofs.YtaloffdkadhhnaaDoor
