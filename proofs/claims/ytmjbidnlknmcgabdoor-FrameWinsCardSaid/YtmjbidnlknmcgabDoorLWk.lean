/- The document's examples, worked out. The contracts of the law's side: Law, In, IsLaw. The document's first examples: what the calls answer. The contract of wakes: the document's first examples. -/
import Derived.Test.YtmjbidnlknmcgabDoorLZ
import Derived.Test.YtmjbidnlknmcgabDoorLSum
import Derived.Test.YtmjbidnlknmcgabDoorLRd
import Derived.Test.YtmjbidnlknmcgabDoorLQ
set_option linter.unusedVariables false
set_option linter.unusedSimpArgs false
namespace Go.Proofs.YtmjbidnlknmcgabDoor
open Go.RowKit

def eveL : List Int := [10, 7, 3, 9, -1, 4]

theorem eve_rd : rdE tenL eveL = 0 := by decide +kernel
theorem eve_tot : (recS tenL eveL).tot = 52 := by decide +kernel
theorem eve_cs : (recS tenL eveL).cs = [10, 7, 3, 9, 0, 4] := by decide +kernel
theorem eve_fs : (recS tenL eveL).fs = [[10], [7, 3], [9, -1], [4]] := by decide +kernel
theorem eve_st : (recS tenL eveL).s.s = 6 ∧ (recS tenL eveL).s.f = 3 := by decide +kernel
theorem eve_best : bestV tenL (recS tenL eveL).s = 196 := by decide +kernel
theorem eve_span : spLo tenL eveL = 52 ∧ spHi tenL eveL = 248 := by
  obtain ⟨h1, h2⟩ := span_val eve_rd
  rw [eve_tot] at h1 h2
  rw [eve_best] at h2
  exact ⟨h1, h2⟩
theorem bad_74 : errS tenL 2 = 0 ∧ (fol tenL (rec0 tenL) [7, 4]).2 = 1 := by decide +kernel
theorem many_rd : rdE tenL (List.replicate 10 10 ++ [9]) = 0 := by decide +kernel
theorem many_tot : (recS tenL (List.replicate 10 10 ++ [9])).tot = 288 := by decide +kernel
theorem many_best : bestV tenL (recS tenL (List.replicate 10 10 ++ [9])).s = 1 := by decide +kernel

end Go.Proofs.YtmjbidnlknmcgabDoor

namespace Go.Proofs.YtmjbidnlknmcgabDoor
open Go.RowKit

set_option maxRecDepth 100000 in
set_option maxHeartbeats 1000000 in
theorem in_any (n lo hi : Int) (w : World) : Calls Tryd.prog 38 #[.int .i64 n, .int .i64 lo, .int .i64 hi] w fun e w' => e = .returned (.bool (decide (lo ≤ n) && decide (n ≤ hi))) ∧ w = w' := by
  by_cases h1 : lo ≤ n
  · by_cases h2 : n ≤ hi
    · go_enter Tryd.func38, Tryd.ntmps38
      go_wp2_with fail
      go_ret
      exact ⟨by simp [h1, h2], rfl⟩
    · go_enter Tryd.func38, Tryd.ntmps38
      go_wp2_with fail
      go_ret
      exact ⟨by simp [h1, h2], rfl⟩
  · go_enter Tryd.func38, Tryd.ntmps38
    go_wp2_with fail
    go_ret
    exact ⟨by simp; omega, rfl⟩

set_option maxRecDepth 100000 in
set_option maxHeartbeats 1000000 in
theorem law_any (l : Lw) (w : World) : Calls Tryd.prog 10 #[l.val] w fun e w' => e = .returned l.val ∧ Below w.heap.size w w' := by
  unfold Lw.val
  go_enter Tryd.func10, Tryd.ntmps10
  go_wp2_with fail
  refine bodyPost_ret (v := .agg #[.int .i64 l.fr, .int .i64 l.pn, .int .i64 l.bl, .int .i64 l.tp]) (by simp [results, Tryd.results10, go_sem]) rfl ?_
  exact ⟨rfl, by first | exact (Below.refl _ _).alloc (Nat.le_refl _) _ | exact ((Below.refl _ _).alloc (Nat.le_refl _) _).alloc (by simp) _⟩

theorem okB_in (l : Lw) : okB l = ((decide (1 ≤ l.fr) && decide (l.fr ≤ 10)) && (decide (1 ≤ l.pn) && decide (l.pn ≤ 10)) && (decide (2 ≤ l.bl) && decide (l.bl ≤ 3)) && (decide (1 ≤ l.tp) && decide (l.tp ≤ l.pn))) := by
  rw [Bool.eq_iff_iff]
  unfold okB
  simp only [Bool.and_eq_true, Bool.or_eq_true, decide_eq_true_eq, beq_iff_eq]
  omega

set_option maxRecDepth 100000 in
set_option maxHeartbeats 1000000 in
theorem isLaw_any (l : Lw) (w : World) : Calls Tryd.prog 19 #[l.val] w fun e w' => e = .returned (.bool (okB l)) ∧ Below w.heap.size w w' := by
  have HI := Lib.hid (fun n lo hi w => in_any n lo hi w)
  unfold Lw.val
  go_enter Tryd.func19, Tryd.ntmps19
  go_wp2_with fail
  refine (HI.out _ _ _ _).mono ?_
  rintro e w' ⟨rfl, rfl⟩
  have hok := Lib.hid (okB_in l)
  cases g1 : (decide (1 ≤ l.fr) && decide (l.fr ≤ 10))
  · have hF := Lib.hid (show okB l = false from by rw [hok.out, g1]; simp)
    go_wp2_with fail
    go_ret
    exact ⟨by rw [hF.out]; first | done | rfl, (Below.refl _ _).alloc (Nat.le_refl _) _⟩
  · go_wp2_with fail
    refine (HI.out _ _ _ _).mono ?_
    rintro e w' ⟨rfl, rfl⟩
    cases g2 : (decide (1 ≤ l.pn) && decide (l.pn ≤ 10))
    · have hF := Lib.hid (show okB l = false from by rw [hok.out, g2]; simp)
      go_wp2_with fail
      go_ret
      exact ⟨by rw [hF.out]; first | done | rfl, (Below.refl _ _).alloc (Nat.le_refl _) _⟩
    · go_wp2_with fail
      refine (HI.out _ _ _ _).mono ?_
      rintro e w' ⟨rfl, rfl⟩
      cases g3 : (decide (2 ≤ l.bl) && decide (l.bl ≤ 3))
      · have hF := Lib.hid (show okB l = false from by rw [hok.out, g3]; simp)
        go_wp2_with fail
        go_ret
        exact ⟨by rw [hF.out]; first | done | rfl, (Below.refl _ _).alloc (Nat.le_refl _) _⟩
      · go_wp2_with fail
        refine (HI.out _ _ _ _).mono ?_
        rintro e w' ⟨rfl, rfl⟩
        have hF := Lib.hid (show okB l = (decide (1 ≤ l.tp) && decide (l.tp ≤ l.pn)) from by rw [hok.out, g1, g2, g3]; simp)
        clear g1 g2 g3
        go_wp2_with fail
        go_ret
        exact ⟨by rw [hF.out]; first | done | rfl, (Below.refl _ _).alloc (Nat.le_refl _) _⟩

end Go.Proofs.YtmjbidnlknmcgabDoor

namespace Go.Proofs.YtmjbidnlknmcgabDoor
open Go.RowKit

theorem own_ballsAt {w : World} {base n c : Nat} {a : Option Addr} {xs : List Int} (h : w.ownsRow base 3 1 (.slice a n c) n (xs.map (Value.int .i64))) : BallsAt w a xs := by
  intro i v hv
  rcases h.2 with ⟨h1, h0⟩ | ⟨g, cap, cur, hg, _⟩
  · have := h.1
    rw [List.length_map, h0] at this
    have hx : xs = [] := List.eq_nil_of_length_eq_zero (by omega)
    rw [hx] at hv
    cases hv
  · cases hg
    refine ⟨g, 0, rfl, ?_⟩
    rw [Nat.zero_add]
    exact own_cell h i _ (by rw [List.getElem?_map, hv]; rfl)

def manyL : List Int := List.replicate 10 10 ++ [9]

theorem eve_set : setL tenL (recS tenL eveL) = [20, 39, 48] := by decide +kernel
theorem eve_done : ((recS tenL eveL).s.f == tenL.fr) = false := by decide +kernel
theorem many_shE : shE tenL manyL 289 = 0 := by decide +kernel
theorem many_shL : shL tenL manyL 289 = [1] := by decide +kernel

theorem rd_eve (w : World) (a : Option Addr) (c : Nat) (hs : BallsAt w a eveL) :
    Calls Tryd.prog 12 #[tenL.val, .slice a 6 c] w fun e w' => ∃ fa fm fc qa qc, e = .returned (.tuple #[.agg #[.slice fa fm fc, .slice qa 3 qc, .int .i64 6, .bool false], .int .i64 0]) ∧ BallsAt w' qa [20, 39, 48] ∧ Below w.heap.size w w' := by
  refine (rd_good tenL eveL a c w hs eve_rd).mono ?_
  rintro e w' ⟨fv, qv, rfl, ⟨base, cv, vs, how, _, _⟩, ⟨base2, hq, _⟩, hb⟩
  obtain ⟨fa, fm, fc, rfl⟩ := ownsRow_shape (how.own (28, fv, vs) (by simp [items]))
  rw [eve_set] at hq
  obtain ⟨qa, qc, rfl⟩ := own_len hq
  refine ⟨fa, fm, fc, qa, qc, ?_, own_ballsAt hq, hb⟩
  rw [gameV, eve_st.1, eve_done]
  rfl

theorem sh_many (w : World) (a : Option Addr) (c : Nat) (hs : BallsAt w a manyL) :
    Calls Tryd.prog 17 #[tenL.val, .slice a 11 c, .int .i64 289] w fun e w' => ∃ va vc, e = .returned (.tuple #[.slice va 1 vc, .int .i64 0]) ∧ BallsAt w' va [1] ∧ Below w.heap.size w w' := by
  refine (sh_good tenL manyL a c 289 w hs many_rd).mono ?_
  rintro e w' ⟨v, rfl, ⟨base, ho, _⟩, hb⟩
  rw [many_shL] at ho
  rw [many_shE]
  obtain ⟨va, vc, rfl⟩ := own_len ho
  exact ⟨va, vc, rfl, own_ballsAt ho, hb⟩

theorem span_eve (w : World) (a : Option Addr) (c : Nat) (hs : BallsAt w a eveL) (hT : TabOK w) :
    Calls Tryd.prog 16 #[tenL.val, .slice a 6 c] w fun e w' => e = .returned (.tuple #[.agg #[.int .i64 52, .int .i64 248], .int .i64 0]) ∧ Below w.heap.size w w' := by
  refine (span_good tenL eveL a c w hs hT eve_rd).mono ?_
  rintro e w' ⟨rfl, hb⟩
  rw [eve_span.1, eve_span.2]
  exact ⟨rfl, hb⟩

theorem bad_seven (w : World) (a : Option Addr) (c : Nat) (hs : BallsAt w a [7, 4]) :
    Calls Tryd.prog 15 #[tenL.val, .slice a 2 c] w fun e w' => e = .returned (.tuple #[.int .i64 1, .int .i64 0]) ∧ Below w.heap.size w w' := by
  refine (bad_fol tenL [7, 4] a c w bad_74.1 hs _ (Lib.hid rfl)).mono ?_
  rintro e w' ⟨rfl, hb⟩
  have h := bad_74.2
  refine ⟨?_, hb⟩
  simp only [badV, badE, h]
  rfl

theorem two_at (w : World) (x y : Int) : BallsAt (w.alloc (.cells #[.int .i64 x, .int .i64 y] 3)) (some ⟨w.heap.size, 0, none⟩) [x, y] := two_balls w x y 3

theorem cells_at (w : World) (xs : List Int) : BallsAt (w.alloc (.cells (xs.map (Value.int .i64)).toArray 3)) (some ⟨w.heap.size, 0, none⟩) xs := by
  intro i v hv
  refine ⟨w.heap.size, 0, rfl, ?_⟩
  have h := heap_alloc_new w (.cells (xs.map (Value.int .i64)).toArray 3)
  generalize w.alloc _ = w1 at h ⊢
  unfold World.cell?
  simp [h, hv]

end Go.Proofs.YtmjbidnlknmcgabDoor

namespace Go.Proofs.YtmjbidnlknmcgabDoor
open Go.RowKit

/-- What the first examples have left in memory. -/
structure WA (w W : World) (g : Nat) (fv : Value) (qa : Option Addr) (qc : Nat) : Prop where
  blk : W.heap[g]? = some (.cells #[fv, .slice qa 3 qc, .int .i64 6, .bool false] 38 (0, 0))
  co : BallsAt W qa [20, 39, 48]
  bl : Below w.heap.size w W

theorem WA.lo {w W W' : World} {g : Nat} {fv : Value} {qa : Option Addr} {qc : Nat} (h : Hid (WA w W g fv qa qc)) (hb : Below W.heap.size W W') : Hid (WA w W' g fv qa qc) :=
  Lib.hid ⟨(hb.block _ (lt_of_block h.out.blk)).trans h.out.blk, h.out.co.lo hb, h.out.bl.trans (hb.mono h.out.bl.size)⟩

theorem WA.al {w W : World} {g : Nat} {fv : Value} {qa : Option Addr} {qc : Nat} (h : Hid (WA w W g fv qa qc)) (o : Obj) : Hid (WA w (W.alloc o) g fv qa qc) := WA.lo h ((Below.refl _ _).alloc (Nat.le_refl _) o)

structure WB (W : World) (g : Nat) : Prop where
  blk : W.heap[g]? = some (.cells #[.int .i64 52, .int .i64 248] 48 (0, 0))
theorem WB.lo {W W' : World} {g : Nat} (h : Hid (WB W g)) (hb : Below W.heap.size W W') : Hid (WB W' g) := Lib.hid ⟨(hb.block _ (lt_of_block h.out.blk)).trans h.out.blk⟩
theorem WB.al {W : World} {g : Nat} (h : Hid (WB W g)) (o : Obj) : Hid (WB (W.alloc o) g) := WB.lo h ((Below.refl _ _).alloc (Nat.le_refl _) o)

theorem below_al (W : World) (o : Obj) : Below W.heap.size W (W.alloc o) := (Below.refl _ _).alloc (Nat.le_refl _) o

theorem ints_same (xs : List Int) (n : Nat) (a b : Option Addr) (c d : Nat) (w : World) (hn : xs.length = n) (hl : n ≤ 1000) (hs : BallsAt w a xs) (ht : BallsAt w b xs) :
    Calls Tryd.prog 11 #[.slice a n c, .slice b n d] w fun e w' => e = .returned (.bool true) ∧ Hid (w.grownBy w' none) := by
  subst hn
  refine (ints_any xs xs a b c d w hs ht hl hl).mono ?_
  rintro e w' ⟨rfl, h⟩
  exact ⟨by simp, h⟩

theorem grown_belowN {w w' : World} (h : w.grownBy w' none) : Below w.heap.size w w' := ⟨h.os, h.tape, h.output, h.size, fun k hk => h.block k hk (fun e => by cases e)⟩

theorem one_at (w : World) (x : Int) : BallsAt (w.alloc (.cells #[.int .i64 x] 3)) (some ⟨w.heap.size, 0, none⟩) [x] := cells_at w [x]
theorem three_at (w : World) (x y z : Int) : BallsAt (w.alloc (.cells #[.int .i64 x, .int .i64 y, .int .i64 z] 3)) (some ⟨w.heap.size, 0, none⟩) [x, y, z] := cells_at w [x, y, z]

theorem many_ten (w : World) (g c : Nat) (hs : BallsAt w (some ⟨g, 0, none⟩) [9]) :
    Calls Tryd.prog 18 #[.int .i64 10, .int .i64 10, .slice (some ⟨g, 0, none⟩) 1 c] w fun e w' => ∃ a c', e = .returned (.slice a 11 c') ∧ BallsAt w' a manyL ∧ Below w.heap.size w w' := by
  refine (many_some 10 10 [9] g 0 c w (by omega) (by simp) hs (by simp)).mono ?_
  rintro e w' ⟨v, rfl, ho, hb⟩
  obtain ⟨a, c', rfl⟩ := own_len ho
  exact ⟨a, c', rfl, own_ballsAt ho, hb⟩

set_option maxRecDepth 100000 in
set_option maxHeartbeats 16000000 in
theorem wakes_any (w : World) (hT : TabOK w) : Calls Tryd.prog 5 #[] w fun e w' => e = .returned (.bool true) ∧ Below w.heap.size w w' := by
  have HT := Lib.hid hT
  clear hT
  obtain ⟨T, hTen⟩ : ∃ T, tenL.val = T := ⟨_, rfl⟩
  have TEN := Lib.hid ten_any
  have RDE := Lib.hid rd_eve
  have BAD := Lib.hid bad_seven
  have SPE := Lib.hid span_eve
  have SHM := Lib.hid sh_many
  rw [hTen] at TEN RDE BAD SPE SHM
  clear hTen
  go_enter Tryd.func5, Tryd.ntmps5
  go_wp2_with fail
  refine (TEN.out w).mono ?_
  rintro e w1 ⟨rfl, hb1⟩
  have B1 := Lib.hid hb1
  clear hb1
  go_wp2_with fail
  refine (eve_any w1).mono ?_
  rintro e w2 ⟨rfl, hs2, hb2⟩
  have B2 := Lib.hid (B1.out.trans (hb2.mono B1.out.size))
  have S2 := Lib.hid hs2
  clear B1 hb2 hs2
  go_wp2_with fail
  refine (RDE.out w2 (some ⟨w1.heap.size, 0, none⟩) 6 S2.out).mono ?_
  rintro e w3 ⟨fa, fm, fc, qa, qc, rfl, hq3, hb3⟩
  have B3 := Lib.hid (B2.out.trans (hb3.mono B2.out.size))
  have Q3 := Lib.hid hq3
  clear B2 S2 hb3 hq3
  go_wp2_with fail
  have A4 : Hid (WA w (w3.alloc (.cells #[.slice fa fm fc, .slice qa 3 qc, .int .i64 6, .bool false] 38)) w3.heap.size (.slice fa fm fc) qa qc) := Lib.hid ⟨heap_alloc_new w3 _, Q3.out.lo (below_al w3 _), B3.out.alloc B3.out.size _⟩
  clear B3 Q3
  generalize World.alloc w3 _ = w4 at A4 ⊢
  refine (TEN.out w4).mono ?_
  rintro e w5 ⟨rfl, hb5⟩
  have A5 := WA.lo A4 hb5
  clear A4 hb5
  go_wp2_with fail
  have A6 := WA.al A5 (.cells #[.int .i64 7, .int .i64 4] 3)
  have S6 := Lib.hid (two_at w5 7 4)
  generalize hw6 : World.alloc w5 _ = w6 at A6 S6 ⊢
  refine (BAD.out w6 (some ⟨w5.heap.size, 0, none⟩) 2 S6.out).mono ?_
  rintro e w7 ⟨rfl, hb7⟩
  have A7 := WA.lo A6 hb7
  clear A5 A6 S6 hb7 hw6
  go_wp2_with fail
  refine (TEN.out w7).mono ?_
  rintro e w8 ⟨rfl, hb8⟩
  have A8 := WA.lo A7 hb8
  clear A7 hb8
  go_wp2_with fail
  refine (eve_any w8).mono ?_
  rintro e w9 ⟨rfl, hs9, hb9⟩
  have A9 := WA.lo A8 hb9
  have S9 := Lib.hid hs9
  clear A8 hb9 hs9
  go_wp2_with fail
  refine (SPE.out w9 (some ⟨w8.heap.size, 0, none⟩) 6 S9.out (HT.out.below A9.out.bl HT.out.pos)).mono ?_
  rintro e w10 ⟨rfl, hb10⟩
  have A10 := WA.lo A9 hb10
  clear A9 S9 hb10
  go_wp2_with fail
  have A11 := WA.al A10 (.cells #[.int .i64 52, .int .i64 248] 48)
  have P11 : Hid (WB (w10.alloc (.cells #[.int .i64 52, .int .i64 248] 48)) w10.heap.size) := Lib.hid ⟨heap_alloc_new w10 _⟩
  generalize World.alloc w10 _ = w11 at A11 P11 ⊢
  refine (TEN.out w11).mono ?_
  rintro e w12 ⟨rfl, hb12⟩
  have A12 := WA.lo A11 hb12
  have P12 := WB.lo P11 hb12
  clear A10 A11 P11 hb12
  go_wp2_with fail
  have A13 := WA.al A12 (.cells #[.int .i64 9] 3)
  have P13 := WB.al P12 (.cells #[.int .i64 9] 3)
  have S13 := Lib.hid (one_at w12 9)
  generalize hw13 : World.alloc w12 _ = w13 at A13 P13 S13 ⊢
  refine (many_ten w13 w12.heap.size 1 S13.out).mono ?_
  rintro e w14 ⟨ma, mc, rfl, hs14, hb14⟩
  have A14 := WA.lo A13 hb14
  have P14 := WB.lo P13 hb14
  have S14 := Lib.hid hs14
  clear A12 A13 P12 P13 S13 hb14 hs14 hw13
  go_wp2_with fail
  refine (SHM.out w14 ma mc S14.out).mono ?_
  rintro e w15 ⟨va, vc, rfl, hs15, hb15⟩
  have A15 := WA.lo A14 hb15
  have P15 := WB.lo P14 hb15
  have S15 := Lib.hid hs15
  clear A14 P14 S14 hb15 hs15
  have d1 : (w15.cell? ⟨w3.heap.size, 1, none⟩) = some (.slice qa 3 qc) := by have h := A15.out.blk; simp [World.cell?, h]
  go_wp2_with fail
  have A16 := WA.al A15 (.cells #[.int .i64 20, .int .i64 39, .int .i64 48] 3)
  have P16 := WB.al P15 (.cells #[.int .i64 20, .int .i64 39, .int .i64 48] 3)
  have V16 := Lib.hid (S15.out.lo (below_al w15 (.cells #[.int .i64 20, .int .i64 39, .int .i64 48] 3)))
  have S16 := Lib.hid (three_at w15 20 39 48)
  generalize hw16 : World.alloc w15 _ = w16 at A16 P16 V16 S16 ⊢
  refine (ints_same [20, 39, 48] 3 qa (some ⟨w15.heap.size, 0, none⟩) qc 3 w16 rfl (by omega) A16.out.co S16.out).mono ?_
  rintro e w17 ⟨rfl, hg17⟩
  have A17 := WA.lo A16 (grown_belowN hg17.out)
  have P17 := WB.lo P16 (grown_belowN hg17.out)
  have V17 := Lib.hid (V16.out.lo (grown_belowN hg17.out))
  clear A15 P15 S15 A16 P16 V16 S16 hw16 hg17 d1
  have d2 : (w17.cell? ⟨w3.heap.size, 2, none⟩) = some (.int .i64 6) := by have h := A17.out.blk; simp [World.cell?, h]
  have d3 : (w17.cell? ⟨w3.heap.size, 3, none⟩) = some (.bool false) := by have h := A17.out.blk; simp [World.cell?, h]
  have e0 : (w17.cell? ⟨w10.heap.size, 0, none⟩) = some (.int .i64 52) := by have h := P17.out.blk; simp [World.cell?, h]
  have e1 : (w17.cell? ⟨w10.heap.size, 1, none⟩) = some (.int .i64 248) := by have h := P17.out.blk; simp [World.cell?, h]
  go_wp2_with fail
  have B18 := Lib.hid (A17.out.bl.alloc A17.out.bl.size (.cells #[.int .i64 1] 3))
  have V18 := Lib.hid (V17.out.lo (below_al w17 (.cells #[.int .i64 1] 3)))
  have S18 := Lib.hid (one_at w17 1)
  generalize hw18 : World.alloc w17 _ = w18 at B18 V18 S18 ⊢
  refine (ints_same [1] 1 va (some ⟨w17.heap.size, 0, none⟩) vc 1 w18 rfl (by omega) V18.out S18.out).mono ?_
  rintro e w19 ⟨rfl, hg19⟩
  have B19 := Lib.hid (B18.out.trans ((grown_belowN hg19.out).mono B18.out.size))
  clear A17 P17 V17 V18 S18 B18 hg19 hw18 d2 d3 e0 e1
  go_wp2_with fail
  go_ret
  exact ⟨rfl, B19.out⟩

end Go.Proofs.YtmjbidnlknmcgabDoor
