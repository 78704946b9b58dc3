/- The contract of the law FrameGreatest. -/
import Derived.Test.YtmjbidnlknmcgaaDoorLWk
set_option linter.unusedVariables false
set_option linter.unusedSimpArgs false
namespace Go.Proofs.YtmjbidnlknmcgaaDoor
open Go.RowKit

theorem rdE_bad {l : Lw} {bs : List Int} (h : okB l = false) : rdE l bs = 1 := by simp [rdE, errS, h]
theorem rdE_nil {l : Lw} (h : okB l = true) : rdE l [] = 0 := by simp [rdE, errS, h, fol]
theorem balls_nil (w : World) : BallsAt w none [] := fun i v h => by simp at h

/-- A law in its block. -/
structure LB (W : World) (b : Nat) (l : Lw) : Prop where
  blk : W.heap[b]? = some (.cells #[.int .i64 l.fr, .int .i64 l.pn, .int .i64 l.bl, .int .i64 l.tp] 23 (0, 0))

theorem LB.lo {W W' : World} {b : Nat} {l : Lw} (h : Hid (LB W b l)) (hb : Below W.heap.size W W') : Hid (LB W' b l) := Lib.hid ⟨(hb.block _ (lt_of_block h.out.blk)).trans h.out.blk⟩
theorem LB.al {W : World} {b : Nat} {l : Lw} (h : Hid (LB W b l)) (o : Obj) : Hid (LB (W.alloc o) b l) := LB.lo h (below_al W o)
theorem LB.at {W : World} {b : Nat} {l : Lw} (h : Hid (LB W b l)) : W.cell? ⟨b, 0, none⟩ = some (.int .i64 l.fr) ∧ W.cell? ⟨b, 1, none⟩ = some (.int .i64 l.pn) ∧ W.cell? ⟨b, 2, none⟩ = some (.int .i64 l.bl) ∧ W.cell? ⟨b, 3, none⟩ = some (.int .i64 l.tp) := by
  have h := h.out.blk
  exact ⟨by simp [World.cell?, h], by simp [World.cell?, h], by simp [World.cell?, h], by simp [World.cell?, h]⟩

structure RG (W : World) (b : Nat) (lo hi : Int) : Prop where
  blk : W.heap[b]? = some (.cells #[.int .i64 lo, .int .i64 hi] 50 (0, 0))
theorem RG.lo' {W W' : World} {b : Nat} {lo hi : Int} (h : Hid (RG W b lo hi)) (hb : Below W.heap.size W W') : Hid (RG W' b lo hi) := Lib.hid ⟨(hb.block _ (lt_of_block h.out.blk)).trans h.out.blk⟩
theorem RG.at {W : World} {b : Nat} {lo hi : Int} (h : Hid (RG W b lo hi)) : W.cell? ⟨b, 0, none⟩ = some (.int .i64 lo) ∧ W.cell? ⟨b, 1, none⟩ = some (.int .i64 hi) := by
  have h := h.out.blk
  exact ⟨by simp [World.cell?, h], by simp [World.cell?, h]⟩

set_option maxRecDepth 100000 in
set_option maxHeartbeats 16000000 in
theorem gr_any (l : Lw) (w : World) (hT : TabOK w) : Calls Tryd.prog 13 #[l.val] w fun e w' => e = .returned (.bool true) ∧ Below w.heap.size w w' := by
  have HT := Lib.hid hT
  clear hT
  have LAW := Lib.hid (law_any l)
  have ISL := Lib.hid (isLaw_any l)
  have WAK := Lib.hid wakes_any
  cases hok : okB l
  · have SPB := Lib.hid (fun w => span_bad l [] none 0 w (balls_nil w) (by rw [rdE_bad hok]; decide))
    rw [rdE_bad hok] at SPB
    rw [hok] at ISL
    clear hok
    simp only [List.length_nil] at SPB
    unfold Lw.val at *
    go_enter Tryd.func13, Tryd.ntmps13
    go_wp2_with fail
    have B1 := Lib.hid (below_al w (.cells #[.int .i64 l.fr, .int .i64 l.pn, .int .i64 l.bl, .int .i64 l.tp] 23))
    have H1 : Hid (LB (w.alloc (.cells #[.int .i64 l.fr, .int .i64 l.pn, .int .i64 l.bl, .int .i64 l.tp] 23)) w.heap.size l) := Lib.hid ⟨heap_alloc_new w _⟩
    generalize World.alloc w _ = w1 at B1 H1 ⊢
    refine (LAW.out w1).mono ?_
    rintro e w2 ⟨rfl, hb2⟩
    have B2 := Lib.hid (B1.out.trans (hb2.mono B1.out.size))
    have H2 := LB.lo H1 hb2
    clear B1 H1 hb2
    go_wp2_with fail
    refine (SPB.out w2).mono ?_
    rintro e w3 ⟨rfl, hb3⟩
    have B3 := Lib.hid (B2.out.trans (hb3.mono B2.out.size))
    have H3 := LB.lo H2 hb3
    clear B2 H2 hb3
    have B4 := Lib.hid (B3.out.alloc B3.out.size (.cells #[.int .i64 0, .int .i64 0] 50))
    have H4 := LB.al H3 (.cells #[.int .i64 0, .int .i64 0] 50)
    have R4 : Hid (RG (w3.alloc (.cells #[.int .i64 0, .int .i64 0] 50)) w3.heap.size 0 0) := Lib.hid ⟨heap_alloc_new w3 _⟩
    obtain ⟨k0, k1, k2, k3⟩ := LB.at H4
    go_wp2_with fail
    generalize hw4 : World.alloc w3 _ = w4 at B4 H4 R4 k0 k1 k2 k3 ⊢
    refine (ISL.out w4).mono ?_
    rintro e w5 ⟨rfl, hb5⟩
    have B5 := Lib.hid (B4.out.trans (hb5.mono B4.out.size))
    obtain ⟨q0, q1, q2, q3⟩ := LB.at (LB.lo H4 hb5)
    obtain ⟨r0, r1⟩ := RG.at (RG.lo' R4 hb5)
    clear B3 H3 B4 H4 R4 k0 k1 k2 k3 hb5 hw4
    go_wp2_with fail
    refine (WAK.out w5 (HT.out.below B5.out HT.out.pos)).mono ?_
    rintro e w6 ⟨rfl, hb6⟩
    have B6 := Lib.hid (B5.out.trans (hb6.mono B5.out.size))
    clear hb6 B5 r0 r1 q0 q1 q2 q3
    go_wp2_with fail
    go_ret
    exact ⟨rfl, B6.out⟩
  · have hr := rdE_nil hok
    have SPG := Lib.hid (fun w hT => span_good l [] none 0 w (balls_nil w) hT hr)
    have hsn := span_none hr
    have okl := (recS_ok hr).1
    have hb1 : 0 ≤ l.pn * l.fr ∧ l.pn * l.fr ≤ 10 * 10 := ⟨Int.mul_nonneg (by have := okl.p1; omega) (by have := okl.f1; omega), Int.mul_le_mul okl.p2 okl.f2 (by have := okl.f1; omega) (by omega)⟩
    have hp := okl.p1
    have hp2 := okl.p2
    rw [hsn.1, hsn.2] at SPG
    rw [hok] at ISL
    clear hok hsn hr okl
    simp only [List.length_nil] at SPG
    unfold Lw.val at *
    have em : 3 * (l.pn * l.fr) = 3 * l.pn * l.fr := (Int.mul_assoc _ _ _).symm
    rw [em] at SPG
    have e1 : IntKind.i64.wrap (3 * l.pn) = 3 * l.pn := IntWalk.i64_in _ (by omega)
    have e2 : IntKind.i64.wrap (3 * l.pn * l.fr) = 3 * l.pn * l.fr := by rw [← em]; exact IntWalk.i64_in _ (by omega)
    have HE := Lib.hid (And.intro e1 e2)
    clear e1 e2 em hb1 hp hp2
    obtain ⟨hi, hhi⟩ : ∃ hi, Hid (3 * l.pn * l.fr = hi) := ⟨_, Lib.hid rfl⟩
    rw [hhi.out] at SPG
    go_enter Tryd.func13, Tryd.ntmps13
    go_wp2_with fail
    have B1 := Lib.hid (below_al w (.cells #[.int .i64 l.fr, .int .i64 l.pn, .int .i64 l.bl, .int .i64 l.tp] 23))
    have H1 : Hid (LB (w.alloc (.cells #[.int .i64 l.fr, .int .i64 l.pn, .int .i64 l.bl, .int .i64 l.tp] 23)) w.heap.size l) := Lib.hid ⟨heap_alloc_new w _⟩
    generalize World.alloc w _ = w1 at B1 H1 ⊢
    refine (LAW.out w1).mono ?_
    rintro e w2 ⟨rfl, hb2⟩
    have B2 := Lib.hid (B1.out.trans (hb2.mono B1.out.size))
    have H2 := LB.lo H1 hb2
    clear B1 H1 hb2
    go_wp2_with fail
    refine (SPG.out w2 (HT.out.below B2.out HT.out.pos)).mono ?_
    rintro e w3 ⟨rfl, hb3⟩
    have B3 := Lib.hid (B2.out.trans (hb3.mono B2.out.size))
    have H3 := LB.lo H2 hb3
    clear B2 H2 hb3
    have B4 := Lib.hid (B3.out.alloc B3.out.size (.cells #[.int .i64 0, .int .i64 hi] 50))
    have H4 := LB.al H3 (.cells #[.int .i64 0, .int .i64 hi] 50)
    have R4 : Hid (RG (w3.alloc (.cells #[.int .i64 0, .int .i64 hi] 50)) w3.heap.size 0 hi) := Lib.hid ⟨heap_alloc_new w3 _⟩
    obtain ⟨k0, k1, k2, k3⟩ := LB.at H4
    go_wp2_with fail
    generalize hw4 : World.alloc w3 _ = w4 at B4 H4 R4 k0 k1 k2 k3 ⊢
    refine (ISL.out w4).mono ?_
    rintro e w5 ⟨rfl, hb5⟩
    have B5 := Lib.hid (B4.out.trans (hb5.mono B4.out.size))
    obtain ⟨q0, q1, q2, q3⟩ := LB.at (LB.lo H4 hb5)
    obtain ⟨r0, r1⟩ := RG.at (RG.lo' R4 hb5)
    clear B3 H3 B4 H4 R4 k0 k1 k2 k3 hb5 hw4
    have e1 := HE.out.1
    have e2 : IntKind.i64.wrap (3 * l.pn * l.fr) = hi := HE.out.2.trans hhi.out
    go_wp2_with fail
    refine (WAK.out w5 (HT.out.below B5.out HT.out.pos)).mono ?_
    rintro e w6 ⟨rfl, hb6⟩
    have B6 := Lib.hid (B5.out.trans (hb6.mono B5.out.size))
    clear hb6 B5 r0 r1 q0 q1 q2 q3 e1 e2
    go_wp2_with fail
    go_ret
    exact ⟨rfl, B6.out⟩

end Go.Proofs.YtmjbidnlknmcgaaDoor
