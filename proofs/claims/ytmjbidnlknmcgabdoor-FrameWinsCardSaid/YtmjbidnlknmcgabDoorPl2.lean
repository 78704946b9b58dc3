/- The contract of the reference's Play. -/
import Derived.Test.YtmjbidnlknmcgabDoorPl
import Derived.Deep.RegionHeld3
import Derived.Deep.LoopGhost
import Derived.StillTailTactics
set_option linter.unusedVariables false
set_option linter.unusedSimpArgs false
namespace Go.Proofs.YtmjbidnlknmcgabDoor
open Go.RowKit

/-- The cells that a round reads. -/
theorem PI.cells {w W : World} {l : Lw} {s : Sd} {b6 : Nat} {v : Value} {pre : List (Int × Int)} {t : St} {g o i : Nat} {k : Int} (h : Hid (PI w W l s b6 v pre)) (ht : Hid (refS l s = t)) (hc : Hid (w.cell? ⟨g, o + i, none⟩ = some (.int .i64 k))) :
    W.cell? ⟨w.heap.size, 0, none⟩ = some (.int .i64 l.fr) ∧ W.cell? ⟨w.heap.size, 1, none⟩ = some (.int .i64 l.pn) ∧ W.cell? ⟨w.heap.size, 2, none⟩ = some (.int .i64 l.bl) ∧ W.cell? ⟨w.heap.size, 3, none⟩ = some (.int .i64 l.tp) ∧
    W.cell? ⟨b6, 0, none⟩ = some (.int .i64 t.f) ∧ W.cell? ⟨b6, 1, none⟩ = some (.int .i64 t.b) ∧ W.cell? ⟨b6, 2, none⟩ = some (.int .i64 t.s) ∧ W.cell? ⟨b6, 3, none⟩ = some (.bool t.set) ∧ W.cell? ⟨b6, 4, none⟩ = some (.int .i64 t.has) ∧
    W.cell? ⟨g, o + i, none⟩ = some (.int .i64 k) := by
  obtain ⟨k0, k1, k2, k3⟩ := l4_of h.out.lb
  obtain ⟨⟨c0, c1, c2, c3, c4⟩, -⟩ := s5_of h.out.sb
  rw [ht.out] at c0 c1 c2 c3 c4
  exact ⟨k0, k1, k2, k3, c0, c1, c2, c3, c4, below_cell h.out.bl hc.out⟩

theorem PI.dr {w W : World} {l : Lw} {s : Sd} {b6 : Nat} {v : Value} {pre : List (Int × Int)} (h : Hid (PI w W l s b6 v pre)) : Hid (PI w W.drew l s b6 v pre) := PI.lo h ⟨rfl, rfl, rfl, Nat.le_refl _, fun _ _ => rfl⟩
theorem PI.al {w W : World} {l : Lw} {s : Sd} {b6 : Nat} {v : Value} {pre : List (Int × Int)} (h : Hid (PI w W l s b6 v pre)) (o : Obj) : Hid (PI w (W.alloc o) l s b6 v pre) := PI.lo h (below_al W o)

theorem PI.nine {w W : World} {l : Lw} {s : Sd} {b6 g9 : Nat} {v : Value} {pre : List (Int × Int)} (h : Hid (PI w W l s b6 v pre)) (h9 : Hid (w.heap.size + 2 ≤ g9 ∧ g9 ≠ b6 ∧ v.ownBlock ≠ some g9)) (v0 v1 v2 v3 v4 : Value) :
    Hid (PI w (((((W.setCell ⟨g9, 0, none⟩ v0).setCell ⟨g9, 1, none⟩ v1).setCell ⟨g9, 2, none⟩ v2).setCell ⟨g9, 3, none⟩ v3).setCell ⟨g9, 4, none⟩ v4) l s b6 v pre) := by
  have hg := grown_set (grown_set (grown_set (grown_set (grown_set (World.grownBy.refl W (some g9)) 0 v0) 1 v1) 2 v2) 3 v3) 4 v4
  obtain ⟨h1, h2, h3⟩ := h9.out
  refine Lib.hid ⟨(hg.block _ (lt_of_block h.out.lb) (fun e => by simp at e; omega)).trans h.out.lb, (hg.block _ (lt_of_block h.out.zb) (fun e => by simp at e; omega)).trans h.out.zb, (hg.block _ (lt_of_block h.out.sb) (fun e => by simp at e; omega)).trans h.out.sb, h.out.b1, h.out.ow.kept hg (.inr h3), h.out.bl.grown hg h.out.bl.size (fun k e => by cases e; omega)⟩

/-- A block that is made anew is none of Play's. -/
theorem PI.new {w W : World} {l : Lw} {s : Sd} {b6 : Nat} {v : Value} {pre : List (Int × Int)} (h : Hid (PI w W l s b6 v pre)) : Hid (w.heap.size + 2 ≤ W.heap.size ∧ W.heap.size ≠ b6 ∧ v.ownBlock ≠ some W.heap.size) := by
  have h1 := lt_of_block h.out.sb
  have h2 := h.out.b1
  exact Lib.hid ⟨by omega, by omega, fun e => by have := (h.out.ow.lt _ e).2; omega⟩

/-- What an append to the row leaves of the two stands. -/
theorem PI.app {w W w9 : World} {l : Lw} {s : Sd} {b6 g9 : Nat} {v : Value} {pre : List (Int × Int)} {t t1 : St} {o : Obj} (h : Hid (PI w W l s b6 v pre)) (ht : Hid (refS l s = t)) (hG : Hid (w.heap.size + 2 ≤ g9 ∧ g9 ≠ b6 ∧ v.ownBlock ≠ some g9))
    (hN : Hid (W.heap[g9]? = some (.cells #[.int .i64 t1.f, .int .i64 t1.b, .int .i64 t1.s, .bool t1.set, .int .i64 t1.has] 56 (0, 0)))) (hg : Hid ((W.alloc o).grownBy w9 v.ownBlock)) :
    S5 w9 g9 t1 ∧ S5 w9 b6 t ∧ w9.frozen? ⟨b6, 0, none⟩ = false ∧ w9.frozen? ⟨b6, 1, none⟩ = false ∧ w9.frozen? ⟨b6, 2, none⟩ = false ∧ w9.frozen? ⟨b6, 3, none⟩ = false ∧ w9.frozen? ⟨b6, 4, none⟩ = false := by
  have h1 := (PI.al h o).out
  have hs := (hg.out.block b6 (lt_of_block h1.sb) (fun e => by have := (h.out.ow.lt b6 e.symm).1; omega)).trans h1.sb
  rw [ht.out] at hs
  have hn := (hg.out.block g9 (by have := lt_of_block hN.out; simp; omega) (fun e => hG.out.2.2 e.symm)).trans ((Below.heap_alloc W o _ (lt_of_block hN.out)).trans hN.out)
  exact ⟨(s5_of hn).1, (s5_of hs).1, (s5_of hs).2 0, (s5_of hs).2 1, (s5_of hs).2 2, (s5_of hs).2 3, (s5_of hs).2 4⟩

/-- A zero stand in its block. -/
structure Z5 (W : World) (b : Nat) : Prop where
  c0 : W.cell? ⟨b, 0, none⟩ = some (.int .i64 0)
  c1 : W.cell? ⟨b, 1, none⟩ = some (.int .i64 0)
  c2 : W.cell? ⟨b, 2, none⟩ = some (.int .i64 0)
  c3 : W.cell? ⟨b, 3, none⟩ = some (.bool false)
  c4 : W.cell? ⟨b, 4, none⟩ = some (.int .i64 0)
  z0 : W.frozen? ⟨b, 0, none⟩ = false
  z1 : W.frozen? ⟨b, 1, none⟩ = false
  z2 : W.frozen? ⟨b, 2, none⟩ = false
  z3 : W.frozen? ⟨b, 3, none⟩ = false
  z4 : W.frozen? ⟨b, 4, none⟩ = false

theorem z5_of {W : World} {b : Nat} (h : W.heap[b]? = some (.cells #[.int .i64 0, .int .i64 0, .int .i64 0, .bool false, .int .i64 0] 56 (0, 0))) : Z5 W b := by
  constructor <;> first | simp [World.cell?, h] | simp [World.frozen?, h]

/-- What Play hands back. -/
theorem PI.fin {w W : World} {l : Lw} {s : Sd} {b6 : Nat} {v : Value} {pre : List (Int × Int)} {t : St} (h : Hid (PI w W l s b6 v pre)) (ht : Hid (refS l s = t)) :
    let W9 := ((((W.setCell ⟨w.heap.size + 1, 0, none⟩ (.int .i64 t.f)).setCell ⟨w.heap.size + 1, 1, none⟩ (.int .i64 t.b)).setCell ⟨w.heap.size + 1, 2, none⟩ (.int .i64 t.s)).setCell ⟨w.heap.size + 1, 3, none⟩ (.bool t.set)).setCell ⟨w.heap.size + 1, 4, none⟩ (.int .i64 t.has)
    S5 W9 (w.heap.size + 1) t ∧ Hid ((∃ base, W9.ownsRow base 93 2 v pre.length (ballC pre) ∧ w.heap.size ≤ base) ∧ Below w.heap.size w W9) := by
  intro W9
  have hg : W.grownBy W9 (some (w.heap.size + 1)) := grown_set (grown_set (grown_set (grown_set (grown_set (World.grownBy.refl W (some (w.heap.size + 1))) 0 _) 1 _) 2 _) 3 _) 4 _
  have a := blk_setCell (blk_setCell (blk_setCell (blk_setCell (blk_setCell h.out.zb 0 (.int .i64 t.f)) 1 (.int .i64 t.b)) 2 (.int .i64 t.s)) 3 (.bool t.set)) 4 (.int .i64 t.has)
  have b : W9.heap[w.heap.size + 1]? = some (.cells #[.int .i64 t.f, .int .i64 t.b, .int .i64 t.s, .bool t.set, .int .i64 t.has] 56 (0, 0)) := by simpa using a
  have hb1 := h.out.b1
  refine ⟨(s5_of b).1, Lib.hid ⟨⟨b6 + 1, h.out.ow.kept hg ?_, by omega⟩, h.out.bl.grown hg h.out.bl.size (fun k e => by cases e; omega)⟩⟩
  cases hk : v.ownBlock with
  | none => exact .inl rfl
  | some k => exact .inr (fun e => by have := (h.out.ow.lt k hk).1; simp at e; omega)

set_option maxRecDepth 100000 in
set_option maxHeartbeats 16000000 in
theorem play_ref (l : Lw) (bs : List Int) (a : Option Addr) (c : Nat) (w : World) (ok : l.Ok) (hs : BallsAt w a bs) (hn : bs.length ≤ 45) :
    Calls Tryd.prog 21 #[l.val, .slice a bs.length c] w fun e w' => ∃ v, e = .returned (.tuple #[(refS l (playS l (begS l) bs)).val, v]) ∧
      (∃ base, w'.ownsRow base 93 2 v (playL l (begS l) bs).length (ballC (playL l (begS l) bs)) ∧ w.heap.size ≤ base) ∧ Below w.heap.size w w' := by
  have HS := Lib.hid hs
  have BEG := Lib.hid (begin_ref l)
  have FIT := Lib.hid (fits_ref l)
  have THR := Lib.hid (fun t k w => throw_ref l t k w ok)
  have OK := Lib.hid ok
  clear hs ok
  unfold Lw.val St.val at *
  go_enter Tryd.func21, Tryd.ntmps21
  go_wp2_with fail
  have L1 : Hid ((((w.alloc (.cells #[.int .i64 l.fr, .int .i64 l.pn, .int .i64 l.bl, .int .i64 l.tp] 23)).alloc (.cells #[.int .i64 0, .int .i64 0, .int .i64 0, .bool false, .int .i64 0] 56)).heap[w.heap.size]? = some (.cells #[.int .i64 l.fr, .int .i64 l.pn, .int .i64 l.bl, .int .i64 l.tp] 23 (0, 0)))) := Lib.hid ((Below.heap_alloc _ _ _ (by simp)).trans (heap_alloc_new w _))
  have Z1 : Hid ((((w.alloc (.cells #[.int .i64 l.fr, .int .i64 l.pn, .int .i64 l.bl, .int .i64 l.tp] 23)).alloc (.cells #[.int .i64 0, .int .i64 0, .int .i64 0, .bool false, .int .i64 0] 56)).heap[w.heap.size + 1]? = some (.cells #[.int .i64 0, .int .i64 0, .int .i64 0, .bool false, .int .i64 0] 56 (0, 0)))) := Lib.hid (by
    have := heap_alloc_new (w.alloc (.cells #[.int .i64 l.fr, .int .i64 l.pn, .int .i64 l.bl, .int .i64 l.tp] 23)) (.cells #[.int .i64 0, .int .i64 0, .int .i64 0, .bool false, .int .i64 0] 56)
    rwa [World.size_alloc] at this)
  have B1 : Hid (Below w.heap.size w ((w.alloc (.cells #[.int .i64 l.fr, .int .i64 l.pn, .int .i64 l.bl, .int .i64 l.tp] 23)).alloc (.cells #[.int .i64 0, .int .i64 0, .int .i64 0, .bool false, .int .i64 0] 56))) := Lib.hid (((Below.refl _ _).alloc (Nat.le_refl _) _).alloc (by simp) _)
  generalize World.alloc (World.alloc w _) _ = w1 at L1 Z1 B1 ⊢
  refine (BEG.out w1).mono ?_
  rintro e w2 ⟨rfl, hb2⟩
  have L2 := Lib.hid ((hb2.block _ (lt_of_block L1.out)).trans L1.out)
  have Z2 := Lib.hid ((hb2.block _ (lt_of_block Z1.out)).trans Z1.out)
  have B2 := Lib.hid (B1.out.trans (hb2.mono B1.out.size))
  clear L1 Z1 B1 hb2
  go_wp2_with fail
  have P3 : Hid (PI w (w2.alloc (.cells #[.int .i64 0, .int .i64 0, .int .i64 l.pn, .bool true, .int .i64 l.bl] 56)) l (begS l) w2.heap.size (.slice none 0 0) []) :=
    Lib.hid ⟨(Below.heap_alloc _ _ _ (lt_of_block L2.out)).trans L2.out, (Below.heap_alloc _ _ _ (lt_of_block Z2.out)).trans Z2.out, by rw [refS_beg OK.out]; exact heap_alloc_new w2 _, by have := lt_of_block Z2.out; omega, World.ownsRow_nil _ _ _ _, B2.out.alloc B2.out.size _⟩
  clear L2 Z2 B2
  generalize World.alloc w2 _ = w3 at P3 ⊢
  obtain ⟨b6, hb6⟩ : ∃ b6, w2.heap.size = b6 := ⟨_, rfl⟩
  rw [hb6] at P3 ⊢
  clear hb6
  have p1 := OK.out.p1
  have p2 := OK.out.p2
  have o1 := OK.out.f1
  have o2 := OK.out.f2
  have o3 := OK.out.b
  obtain ⟨i90, hi90, hy0, hy1, hy2⟩ := info_parts info90
  go_loopg [7, 8] bs.length (fun g s7 s8 wx => ∃ (i : Nat) (s : Sd) (pre : List (Int × Int)), i ≤ bs.length ∧ g = bs.length - i ∧ s8 = .int .i64 (i : Int) ∧ Hid (PI w wx l s b6 s7 pre) ∧ pre.length = i ∧ Hid (Vd l s) ∧
    Hid (playL l (begS l) bs = pre ++ playL l s (bs.drop i) ∧ playS l (begS l) bs = playS l s (bs.drop i)))
  case atStart => exact ⟨0, begS l, [], by omega, by omega, rfl, P3, rfl, Lib.hid (beg_vd l OK.out), Lib.hid ⟨rfl, rfl⟩⟩
  case round =>
    obtain ⟨i, s, pre, hi, rfl, rfl, hP, hpl, hv, hR⟩ := hrel
    by_cases hlt : i < bs.length
    · obtain ⟨k, hk⟩ : ∃ k, Hid (bs[i]? = some k) := ⟨bs[i]'hlt, Lib.hid (List.getElem?_eq_getElem _)⟩
      have hi0 : (0 : Int) ≤ (i : Int) := by omega
      have hi1 : (i : Int) < (bs.length : Int) := by omega
      obtain ⟨g, o, rfl, hc⟩ := HS.out i k hk.out
      have cK : wr.cell? ⟨g, o + i, none⟩ = some (.int .i64 k) := below_cell hP.out.bl hc
      obtain ⟨t, ht⟩ : ∃ t, refS l s = t := ⟨_, rfl⟩
      have HTT := Lib.hid ht
      have HC := Lib.hid hc
      obtain ⟨k0, k1, k2, k3, c0, c1, c2, c3, c4, cK⟩ := PI.cells hP HTT HC
      clear hc ht
      have P4 : Hid (PI w wr.drew l s b6 u7 pre) := PI.lo hP ⟨rfl, rfl, rfl, Nat.le_refl _, fun _ _ => rfl⟩
      go_wp2
      go_still_tail 11, (by kernel_rfl)
      go_wp2_with fail
      clear k0 k1 k2 k3 c0 c1 c2 c3 c4 cK
      refine (FIT.out t k wr.drew).mono ?_
      rintro e w5 ⟨rfl, hb5⟩
      have P5 := PI.lo P4 hb5
      clear P4 hb5 hP
      have hfo := fits_ok hv.out k
      rw [HTT.out] at hfo
      rw [hfo]
      clear hfo
      cases hok : okT l s k
      · obtain ⟨k0, k1, k2, k3, c0, c1, c2, c3, c4, cK⟩ := PI.cells P5 HTT HC
        have hEnd := Lib.hid (show playL l (begS l) bs = pre ∧ playS l (begS l) bs = s from by
          have h1 := playL_stop hk.out hok
          have h2 := hR.out
          rw [h1.1, h1.2, List.append_nil] at h2
          exact h2)
        obtain ⟨d0, d1, d2, d3, d4, z0, z1, z2, z3, z4⟩ := z5_of P5.out.zb
        go_wp2_with fail
        obtain ⟨⟨g0, g1, g2, g3, g4⟩, hE⟩ := PI.fin P5 HTT
        clear d0 d1 d2 d3 d4 z0 z1 z2 z3 z4 k0 k1 k2 k3 c0 c1 c2 c3 c4
        generalize World.setCell _ _ _ = W9 at g0 g1 g2 g3 g4 hE ⊢
        refine bodyPost_ret (v := .tuple #[.agg #[.int .i64 t.f, .int .i64 t.b, .int .i64 t.s, .bool t.set, .int .i64 t.has], u7]) (by simp [results, Tryd.results21, go_sem, g0, g1, g2, g3, g4]) rfl ?_
        exact ⟨u7, by rw [hEnd.out.2, HTT.out], by rw [hEnd.out.1]; exact hE.out.1, hE.out.2⟩
      · obtain ⟨hnf, hk1, hk2⟩ := okT_out hok
        have hvv := hv.out
        have hflt : s.f < l.fr := by have := hvv.f2; omega
        have hk10 : k ≤ 10 := by have := hvv.s2; omega
        have htf : t.f = s.f ∧ t.b = s.b ∧ t.s = s.s := by rw [← HTT.out, refS, if_neg hnf]; exact ⟨rfl, rfl, rfl⟩
        have hbv := beh_vd (k := k) OK.out hvv hflt hk1 hk2
        have hcn := cnt_le OK.out hvv hk1 hk2
        have hstep := playL_step hk.out hok
        obtain ⟨cn, hcn2⟩ : ∃ cn, Hid (cnt l s k = cn) := ⟨_, Lib.hid rfl⟩
        obtain ⟨s1, hs1⟩ : ∃ s1, Hid (behS l s k = s1) := ⟨_, Lib.hid rfl⟩
        obtain ⟨t1, ht1⟩ : ∃ t1, Hid (refS l s1 = t1) := ⟨_, Lib.hid rfl⟩
        have THR1 : Hid (∀ W, Calls Tryd.prog 22 #[.agg #[.int .i64 l.fr, .int .i64 l.pn, .int .i64 l.bl, .int .i64 l.tp], .agg #[.int .i64 t.f, .int .i64 t.b, .int .i64 t.s, .bool t.set, .int .i64 t.has], .int .i64 k] W fun e W' =>
            e = .returned (.tuple #[.agg #[.int .i64 t1.f, .int .i64 t1.b, .int .i64 t1.s, .bool t1.set, .int .i64 t1.has], .int .i64 cn]) ∧ Below W.heap.size W W') := Lib.hid (fun W => by
          have h := THR.out t k W (by have := hvv.f1; omega) (by omega) (by have := hvv.b1; omega) (by have := hvv.b2; omega) (by have := hvv.s1; omega) (by have := hvv.s2; omega) hk1 hk10
          have e1 : nR l t k = cn := by rw [← HTT.out, nr_cnt OK.out hnf hk1, hcn2.out]
          have e2 : thrR l t cn = t1 := by rw [← HTT.out, ← hcn2.out, thr_eq OK.out hvv hflt hk1 hk2, hs1.out, ht1.out]
          rw [e1, e2] at h
          exact h)
        have V1 := Lib.hid (show Vd l s1 from by rw [← hs1.out]; exact hbv.1)
        have R1 := Lib.hid (show playL l (begS l) bs = (pre ++ [(s.f, cn)]) ++ playL l s1 (bs.drop (i + 1)) ∧ playS l (begS l) bs = playS l s1 (bs.drop (i + 1)) from by
          have h2 := hR.out
          rw [hstep.1, hstep.2, hcn2.out, hs1.out] at h2
          exact ⟨by rw [h2.1]; simp, h2.2⟩)
        have HFF := Lib.hid htf.1
        clear hvv hflt hk10 htf hbv hcn hstep hR hv
        go_upto_region 6 with fail
        go_cut [9, 10] (fun s9 s10 wx => ∃ g9 : Nat, s9 = .pointer (some ⟨g9, 0, none⟩) ∧ s10 = .int .i64 cn ∧ Hid (PI w wx l s b6 u7 pre) ∧ Hid (w.heap.size + 2 ≤ g9 ∧ g9 ≠ b6 ∧ u7.ownBlock ≠ some g9) ∧ Hid (wx.heap[g9]? = some (.cells #[.int .i64 t1.f, .int .i64 t1.b, .int .i64 t1.s, .bool t1.set, .int .i64 t1.has] 56 (0, 0))))
        case first =>
          have P6 := PI.dr P5
          have P6a := PI.dr (PI.al P5 (.cells #[.int .i64 0, .int .i64 0, .int .i64 0, .bool false, .int .i64 0] 56))
          have H9 := PI.new P5
          have hlt9 : w5.heap.size < ((w5.alloc (.cells #[.int .i64 0, .int .i64 0, .int .i64 0, .bool false, .int .i64 0] 56)).drew).heap.size := by simp
          have HLT9 := Lib.hid hlt9
          clear hlt9
          clear P5
          go_region_held3 (fun W => W.cell? ⟨w.heap.size, 0, none⟩ = some (.int .i64 l.fr) ∧ W.cell? ⟨w.heap.size, 1, none⟩ = some (.int .i64 l.pn) ∧ W.cell? ⟨w.heap.size, 2, none⟩ = some (.int .i64 l.bl) ∧ W.cell? ⟨w.heap.size, 3, none⟩ = some (.int .i64 l.tp) ∧
            W.cell? ⟨b6, 0, none⟩ = some (.int .i64 t.f) ∧ W.cell? ⟨b6, 1, none⟩ = some (.int .i64 t.b) ∧ W.cell? ⟨b6, 2, none⟩ = some (.int .i64 t.s) ∧ W.cell? ⟨b6, 3, none⟩ = some (.bool t.set) ∧ W.cell? ⟨b6, 4, none⟩ = some (.int .i64 t.has) ∧
            W.cell? ⟨g, o + i, none⟩ = some (.int .i64 k))
            (first | with_reducible exact PI.cells P6 HTT HC | with_reducible exact PI.cells P6a HTT HC | with_reducible exact PI.cells P7 HTT HC | with_reducible exact PI.cells (PI.al P7 _) HTT HC | with_reducible exact PI.cells (PI.nine P7 H9 _ _ _ _ _) HTT HC)
            (first
              | (go_at_call 22; refine (THR1.out w5.drew).mono ?_; rintro e w6 ⟨rfl, hb6⟩; have P7 := PI.lo P6 hb6)
              | (go_at_call 22; refine (THR1.out _).mono ?_; rintro e w6 ⟨rfl, hb6⟩; have P7 := PI.lo P6a hb6; have hz9 := Lib.hid ((hb6.block _ HLT9.out).trans (heap_alloc_new w5 _)); obtain ⟨d0, d1, d2, d3, d4, z0, z1, z2, z3, z4⟩ := z5_of hz9.out))
          · go_wp2_with fail
            go_meet
            exact ⟨w6.heap.size, rfl, rfl, PI.al P7 _, PI.new P7, Lib.hid (heap_alloc_new w6 _)⟩
          · go_wp2_with fail
            go_meet
            exact ⟨w5.heap.size, rfl, rfl, PI.nine P7 H9 _ _ _ _ _, H9, Lib.hid (by simpa using blk_setCell (blk_setCell (blk_setCell (blk_setCell (blk_setCell hz9.out 0 (.int .i64 t1.f)) 1 (.int .i64 t1.b)) 2 (.int .i64 t1.s)) 3 (.bool t1.set)) 4 (.int .i64 t1.has))⟩
        case rest =>
          obtain ⟨g9, rfl, rfl, hP7, hG9, hN7⟩ := hcut
          clear P5 THR1
          obtain ⟨⟨c0, c1, c2, c3, c4⟩, -⟩ := s5_of hP7.out.sb
          rw [HTT.out] at c0 c1 c2 c3 c4
          have how := hP7.out.ow
          have hbs := lt_of_block hP7.out.sb
          go_wp2_with (at_builtin; go_must (refine wpList_append_own_at _ rfl _ _ 57 rfl (b6 + 1) 93 i90 (.agg #[.int .i64 0, .int .i64 0]) 2 16 Tryd.underlying57 hi90 hy0 hy1 hy2 rfl (by decide) _ _ _ rfl (how.alloc _) ⟨wc.heap.size, 0, none⟩ 1 1 [.int .i64 t.f, .int .i64 cn] rfl rfl (cell_two_new _ _ _ _) (by simp [Value.oneCell']) (by unfold maxLen; omega) (by omega) (by simp; omega) ?_); intro v' w9 hown' hgrow hnil hloc; have O9 := Lib.hid hown'; have G9 := Lib.hid hgrow; clear hown' hgrow hnil hloc how c0 c1 c2 c3 c4; obtain ⟨⟨n0, n1, n2, n3, n4⟩, ⟨m0, m1, m2, m3, m4⟩, y0, y1, y2, y3, y4⟩ := PI.app hP7 HTT hG9 hN7 G9)
          have O9b := Lib.hid (show w9.ownsRow (b6 + 1) 93 2 v' (pre.length + 1) (ballC pre ++ [.int .i64 s.f, .int .i64 cn]) from by have := O9.out; rwa [HFF.out] at this)
          rw [← ht1.out] at n0 n1 n2 n3 n4 ⊢
          have PN := PI.next (PI.al hP7 _) G9 O9b (s' := s1) (p := (s.f, cn)) rfl
          clear n0 n1 n2 n3 n4 m0 m1 m2 m3 m4 y0 y1 y2 y3 y4
          generalize World.setCell _ _ _ = w10 at PN ⊢
          go_wp2_with fail
          go_roundg (bs.length - (i + 1))
          case measure => omega
          case rel => exact ⟨i + 1, s1, pre ++ [(s.f, cn)], by omega, rfl, by simp, PN, by simp [hpl], V1, R1⟩
    · have hke : i = bs.length := by omega
      have hlt1 : decide ((i : Int) < (bs.length : Int)) = false := by simp; omega
      obtain ⟨t, ht⟩ : ∃ t, refS l s = t := ⟨_, rfl⟩
      have HTT := Lib.hid ht
      have hEnd := Lib.hid (show playL l (begS l) bs = pre ∧ playS l (begS l) bs = s from by
        have h2 := hR.out
        have h3 : bs.drop i = [] := List.drop_eq_nil_of_le (by omega)
        rw [h3, playL, playS, List.append_nil] at h2
        exact h2)
      clear ht hlt
      go_wp2
      go_quiet (fail)
      have P5 : Hid (PI w (wr.drewN nq) l s b6 u7 pre) := PI.lo hP (below_drewN (Below.refl _ _) nq)
      clear hP
      generalize wr.drewN nq = w5 at P5 ⊢
      obtain ⟨k0, k1, k2, k3⟩ := l4_of P5.out.lb
      obtain ⟨⟨c0, c1, c2, c3, c4⟩, -⟩ := s5_of P5.out.sb
      rw [HTT.out] at c0 c1 c2 c3 c4
      obtain ⟨d0, d1, d2, d3, d4, z0, z1, z2, z3, z4⟩ := z5_of P5.out.zb
      go_wp2_with fail
      obtain ⟨⟨g0, g1, g2, g3, g4⟩, hE⟩ := PI.fin P5 HTT
      clear d0 d1 d2 d3 d4 z0 z1 z2 z3 z4 k0 k1 k2 k3 c0 c1 c2 c3 c4
      generalize World.setCell _ _ _ = W9 at g0 g1 g2 g3 g4 hE ⊢
      refine bodyPost_ret (v := .tuple #[.agg #[.int .i64 t.f, .int .i64 t.b, .int .i64 t.s, .bool t.set, .int .i64 t.has], u7]) (by simp [results, Tryd.results21, go_sem, g0, g1, g2, g3, g4]) rfl ?_
      exact ⟨u7, by rw [hEnd.out.2, HTT.out], by rw [hEnd.out.1]; exact hE.out.1, hE.out.2⟩

end Go.Proofs.YtmjbidnlknmcgabDoor
