/- The contract of the game behind a ball. -/
import Derived.Test.YtmjbidnlknmcgabDoorLA
set_option linter.unusedVariables false
set_option linter.unusedSimpArgs false
namespace Go.Proofs.YtmjbidnlknmcgabDoor
open Go.RowKit

/-- The stand when the ball has been thrown, before the frame is looked at. -/
def thrS (l : Lw) (s : Sd) (k : Int) : Sd := ⟨s.f, s.b + 1, s.s - cnt l s k, false, s.more, s.y, 0⟩
def midS (l : Lw) (t : Sd) : Sd := if t.s = 0 then allS l t else t
def finS (l : Lw) (u : Sd) : Sd := if endS l u = true then nextS l u else if u.s = 0 then setS l u else u
def behS (l : Lw) (s : Sd) (k : Int) : Sd := finS l (midS l (thrS l s k))

/-- The ranges in which a stand's numbers lie. -/
structure Sd.In (l : Lw) (s : Sd) : Prop where
  f1 : 0 ≤ s.f
  f2 : s.f < l.fr
  b1 : 0 ≤ s.b
  b2 : s.b ≤ 2
  s1 : 0 ≤ s.s
  s2 : s.s ≤ l.pn
  x1 : 0 ≤ s.x
  x2 : s.x ≤ 2
  y1 : 0 ≤ s.y
  y2 : s.y ≤ 1

theorem calls_right {f : FuncId} {args : Array Value} {w : World} {v : Value} (c : Calls Tryd.prog f args w fun e w' => e = .returned v ∧ w = w') :
    Calls Tryd.prog f args w fun e w' => e = .returned v ∧ w' = w := c.mono fun _ _ ⟨a, b⟩ => ⟨a, b.symm⟩

theorem midS_f (l : Lw) (t : Sd) : (midS l t).f = t.f := by
  unfold midS allS
  split
  · split <;> rfl
  · rfl

theorem GB.far {w w' : World} {b c : Nat} {l : Lw} {s : Sd} (h : GB w b l s) (hg : w.grownBy w' (some c)) (hne : b ≠ c) : GB w' b l s :=
  ⟨(hg.block b (lt_of_block h.blk) (fun e => hne (by cases e; rfl))).trans h.blk⟩

theorem GB.set11 {w : World} {b : Nat} {l0 : Lw} {s0 : Sd} (h : GB w b l0 s0) (l : Lw) (r : Sd) :
    GB (((((((((((w.setCell ⟨b, 0, none⟩ (.int .i64 l.fr)).setCell ⟨b, 1, none⟩ (.int .i64 l.pn)).setCell ⟨b, 2, none⟩ (.int .i64 l.bl)).setCell ⟨b, 3, none⟩ (.int .i64 l.tp)).setCell ⟨b, 4, none⟩ (.int .i64 r.f)).setCell ⟨b, 5, none⟩ (.int .i64 r.b)).setCell ⟨b, 6, none⟩ (.int .i64 r.s)).setCell ⟨b, 7, none⟩ (.bool r.fresh)).setCell ⟨b, 8, none⟩ (.bool r.more)).setCell ⟨b, 9, none⟩ (.int .i64 r.x)).setCell ⟨b, 10, none⟩ (.int .i64 r.y)) b l r := by
  have a0 : GB (w.setCell ⟨b, 0, none⟩ (.int .i64 l.fr)) b { l0 with fr := l.fr } s0 := ⟨by simpa using blk_setCell h.blk 0 (.int .i64 l.fr)⟩
  have a1 : GB ((w.setCell ⟨b, 0, none⟩ (.int .i64 l.fr)).setCell ⟨b, 1, none⟩ (.int .i64 l.pn)) b { l0 with fr := l.fr, pn := l.pn } s0 := ⟨by simpa using blk_setCell a0.blk 1 (.int .i64 l.pn)⟩
  have a2 : GB (((w.setCell ⟨b, 0, none⟩ (.int .i64 l.fr)).setCell ⟨b, 1, none⟩ (.int .i64 l.pn)).setCell ⟨b, 2, none⟩ (.int .i64 l.bl)) b { l0 with fr := l.fr, pn := l.pn, bl := l.bl } s0 := ⟨by simpa using blk_setCell a1.blk 2 (.int .i64 l.bl)⟩
  have a3 : GB ((((w.setCell ⟨b, 0, none⟩ (.int .i64 l.fr)).setCell ⟨b, 1, none⟩ (.int .i64 l.pn)).setCell ⟨b, 2, none⟩ (.int .i64 l.bl)).setCell ⟨b, 3, none⟩ (.int .i64 l.tp)) b l s0 := ⟨by simpa using blk_setCell a2.blk 3 (.int .i64 l.tp)⟩
  exact ((((((a3.set4 r.f).set5 r.b).set6 r.s).set7' r.fresh).set8 r.more).set9 r.x).set10 r.y

theorem grown_below {w w' : World} {b B : Nat} (hg : w.grownBy w' (some b)) (hb : B ≤ b) (hs : B ≤ w.heap.size) : Below B w w' :=
  (Below.refl B w).grown hg hs (fun k e => by cases e; exact hb)

set_option maxRecDepth 100000 in
set_option maxHeartbeats 2000000 in
theorem behind_any (l : Lw) (s : Sd) (k : Int) (w : World) (ok : l.Ok) (si : s.In l) (k1 : -1 ≤ k) (k2 : k ≤ 10) :
    Calls Tryd.prog 52 #[gval l s, .int .i64 k] w fun e w' => e = .returned (gval l (behS l s k)) ∧ Below w.heap.size w w' := by
  have hc := fun W h => Lib.hid (counts_any w.heap.size l s k W h)
  have hb := cnt_bd l s k ok k1 k2
  obtain ⟨f1, f2, b1, b2, s1, s2, x1, x2, y1, y2⟩ := si
  have p2 := ok.p2
  have e1 : IntKind.i64.wrap (s.b + 1) = s.b + 1 := IntWalk.i64_in _ (by omega)
  have e2 : IntKind.i64.wrap (s.s - cnt l s k) = s.s - cnt l s k := IntWalk.i64_in _ (by omega)
  unfold gval
  go_enter Tryd.func52, Tryd.ntmps52
  go_wp2_with fail
  have G := Lib.hid (show GB ((w.alloc (.cells #[.int .i64 l.fr, .int .i64 l.pn, .int .i64 l.bl, .int .i64 l.tp, .int .i64 s.f, .int .i64 s.b, .int .i64 s.s, .bool s.fresh, .bool s.more, .int .i64 s.x, .int .i64 s.y] 72)).alloc (.cells #[.int .i64 0, .int .i64 0, .int .i64 0, .int .i64 0, .int .i64 0, .int .i64 0, .int .i64 0, .bool false, .bool false, .int .i64 0, .int .i64 0] 72)) w.heap.size l s from ⟨(Below.heap_alloc _ _ _ (by simp)).trans (heap_alloc_new w _)⟩)
  have R := Lib.hid (heap_alloc_new (w.alloc (.cells #[.int .i64 l.fr, .int .i64 l.pn, .int .i64 l.bl, .int .i64 l.tp, .int .i64 s.f, .int .i64 s.b, .int .i64 s.s, .bool s.fresh, .bool s.more, .int .i64 s.x, .int .i64 s.y] 72)) (.cells #[.int .i64 0, .int .i64 0, .int .i64 0, .int .i64 0, .int .i64 0, .int .i64 0, .int .i64 0, .bool false, .bool false, .int .i64 0, .int .i64 0] 72))
  have L := Lib.hid (((Below.refl w.heap.size w).alloc (Nat.le_refl _) (.cells #[.int .i64 l.fr, .int .i64 l.pn, .int .i64 l.bl, .int .i64 l.tp, .int .i64 s.f, .int .i64 s.b, .int .i64 s.s, .bool s.fresh, .bool s.more, .int .i64 s.x, .int .i64 s.y] 72)).alloc (by simp) (.cells #[.int .i64 0, .int .i64 0, .int .i64 0, .int .i64 0, .int .i64 0, .int .i64 0, .int .i64 0, .bool false, .bool false, .int .i64 0, .int .i64 0] 72))
  generalize hw1 : World.alloc (World.alloc w _) _ = w1 at G R L ⊢
  clear hw1
  simp only [World.size_alloc] at R
  obtain ⟨h0, h1, h2, h3, h4, h5, h6, h7, h8, h9, h10⟩ := G.out.at
  have z5 := G.out.free 5
  have z6 := G.out.free 6
  have z7 := G.out.free 7
  have z9 := G.out.free 9
  have z10 := G.out.free 10
  go_still_tail 8, (by kernel_rfl)
  still_call (calls_right (hc _ ((G.out.drewN 1).at)).out)
  repeat still_step
  refine wpStill_nil ?_
  change wpList _ _ _ _ _ w1.drew
  have G2 := Lib.hid ((((((G.out.set6 (s.s - cnt l s k)).set7' false).set5 (s.b + 1)).set9 s.y).set10 0).drewN 1)
  have W2 := Lib.hid (grown_drewN (grown_set (grown_set (grown_set (grown_set (grown_set (World.grownBy.refl w1 (some w.heap.size)) 6 (.int .i64 (s.s - cnt l s k))) 7 (.bool false)) 5 (.int .i64 (s.b + 1))) 9 (.int .i64 s.y)) 10 (.int .i64 0)) 1)
  change Hid (GB _ w.heap.size l (thrS l s k)) at G2
  have hR : w.heap.size + 1 < w1.heap.size := lt_of_block R.out
  have T := Lib.hid (show (thrS l s k).s = s.s - cnt l s k ∧ (thrS l s k).f = s.f ∧ (thrS l s k).b = s.b + 1 ∧ (thrS l s k).x = s.y ∧ (thrS l s k).y = 0 from ⟨rfl, rfl, rfl, rfl, rfl⟩)
  obtain ⟨r, hr⟩ : ∃ r, Hid (r = behS l s k) := ⟨_, Lib.hid rfl⟩
  have hB : Hid (r = finS l (midS l (thrS l s k))) := Lib.hid hr.out
  generalize thrS l s k = t at G2 T hB
  have Z1 := Lib.hid (show GB w1 (w.heap.size + 1) ⟨0, 0, 0, 0⟩ ⟨0, 0, 0, false, false, 0, 0⟩ from ⟨R.out⟩)
  have F := Lib.hid (show 0 ≤ (midS l t).f ∧ (midS l t).f < l.fr from by rw [midS_f, T.out.2.1]; exact ⟨f1, f2⟩)
  have Z1 := Lib.hid (show GB w1 (w.heap.size + 1) ⟨0, 0, 0, 0⟩ ⟨0, 0, 0, false, false, 0, 0⟩ from ⟨R.out⟩)
  have F := Lib.hid (show 0 ≤ (midS l t).f ∧ (midS l t).f < l.fr from by rw [midS_f, T.out.2.1]; exact ⟨f1, f2⟩)
  have Z1 := Lib.hid (show GB w1 (w.heap.size + 1) ⟨0, 0, 0, 0⟩ ⟨0, 0, 0, false, false, 0, 0⟩ from ⟨R.out⟩)
  have F := Lib.hid (show 0 ≤ (midS l t).f ∧ (midS l t).f < l.fr from by rw [midS_f, T.out.2.1]; exact ⟨f1, f2⟩)
  by_cases hz : s.s - cnt l s k = 0
  · have hzb : (s.s - cnt l s k == 0) = true := by simpa using hz
    have U := Lib.hid (show midS l t = allS l t from if_pos (T.out.1.trans hz))
    clear hz
    go_wp2_with fail
    clear h0 h1 h2 h3 h4 h5 h6 h7 h8 h9 h10 z5 z6 z7 z9 z10 e1 e2 hc hb
    have Z2 := Lib.hid (Z1.out.far W2.out (by simp))
    have L2 := Lib.hid (L.out.trans (grown_below W2.out (Nat.le_refl _) L.out.size))
    clear G L R W2 Z1
    generalize hw2 : World.drew _ = w2
    have G3 : Hid (GB w2 w.heap.size l t) := by rw [← hw2]; exact G2
    have Z3 : Hid (GB w2 (w.heap.size + 1) ⟨0, 0, 0, 0⟩ ⟨0, 0, 0, false, false, 0, 0⟩) := by rw [← hw2]; exact Z2
    have L3 : Hid (Below w.heap.size w w2) := by rw [← hw2]; exact L2
    clear hw2 G2 Z2 L2
    refine (allDown_any _ l t _ G3.out ok (by have := T.out; omega) (by have := T.out; omega) (by have := T.out; omega) (by have := T.out; omega) (by have := T.out; omega) (by have := T.out; omega)).mono ?_
    rintro e w3 ⟨rfl, G4, W4⟩
    have Z4 := Lib.hid (Z3.out.far W4.out (by simp))
    have L4 := Lib.hid (L3.out.trans (grown_below W4.out (Nat.le_refl _) L3.out.size))
    have G5 : Hid (GB w3 w.heap.size l (midS l t)) := Lib.hid (by rw [U.out]; exact G4.out)
    clear G3 Z3 L3 W4 G4 U T
    generalize midS l t = u at hB F G5
    have G3 := G5
    have Z3 := Z4
    have L3 := L4
    clear G5 Z4 L4
    go_wp2_with fail
    refine (keep_gb G3.out (ended_any _ l u _ G3.out.at ok)).mono ?_
    rintro e w4 ⟨rfl, G4, W4⟩
    have Z4 := Lib.hid (Z3.out.far W4.out (by simp))
    have L4 := Lib.hid (L3.out.trans (grown_below W4.out (Nat.le_refl _) L3.out.size))
    clear G3 Z3 L3 W4
    cases hend : endS l u
    · have B5 := Lib.hid (show r = if u.s = 0 then setS l u else u from by rw [hB.out]; unfold finS; rw [hend]; rfl)
      clear hend hB
      obtain ⟨h0, h1, h2, h3, h4, h5, h6, h7, h8, h9, h10⟩ := G4.out.at
      by_cases hu : u.s = 0
      · have hub : (u.s == 0) = true := by simpa using hu
        have B6 := Lib.hid (B5.out.trans (if_pos hu))
        clear hu B5
        go_wp2_with fail
        refine (set_any _ l u _ G4.out).mono ?_
        rintro e w5 ⟨rfl, G5, W5⟩
        have G5 := Lib.hid (show GB w5 w.heap.size l r from by rw [B6.out]; exact G5)
        have Z5 := Lib.hid (Z4.out.far W5 (by simp))
        have L5 := Lib.hid (L4.out.trans (grown_below W5 (Nat.le_refl _) L4.out.size))
        clear h0 h1 h2 h3 h4 h5 h6 h7 h8 h9 h10 G4 Z4 L4 W5 B6
        obtain ⟨h0, h1, h2, h3, h4, h5, h6, h7, h8, h9, h10⟩ := G5.out.at
        obtain ⟨r0, r1, r2, r3, r4, r5, r6, r7, r8, r9, r10⟩ := Z5.out.at
        have q0 := Z5.out.free 0
        have q1 := Z5.out.free 1
        have q2 := Z5.out.free 2
        have q3 := Z5.out.free 3
        have q4 := Z5.out.free 4
        have q5 := Z5.out.free 5
        have q6 := Z5.out.free 6
        have q7 := Z5.out.free 7
        have q8 := Z5.out.free 8
        have q9 := Z5.out.free 9
        have q10 := Z5.out.free 10
        go_wp2_with fail
        have L6 := Lib.hid ((((((((((((L5.out.setCell (p := ⟨w.heap.size + 1, 0, none⟩) (by simp) (.int .i64 l.fr)).setCell (p := ⟨w.heap.size + 1, 1, none⟩) (by simp) (.int .i64 l.pn)).setCell (p := ⟨w.heap.size + 1, 2, none⟩) (by simp) (.int .i64 l.bl)).setCell (p := ⟨w.heap.size + 1, 3, none⟩) (by simp) (.int .i64 l.tp)).setCell (p := ⟨w.heap.size + 1, 4, none⟩) (by simp) (.int .i64 r.f)).setCell (p := ⟨w.heap.size + 1, 5, none⟩) (by simp) (.int .i64 r.b)).setCell (p := ⟨w.heap.size + 1, 6, none⟩) (by simp) (.int .i64 r.s)).setCell (p := ⟨w.heap.size + 1, 7, none⟩) (by simp) (.bool r.fresh)).setCell (p := ⟨w.heap.size + 1, 8, none⟩) (by simp) (.bool r.more)).setCell (p := ⟨w.heap.size + 1, 9, none⟩) (by simp) (.int .i64 r.x)).setCell (p := ⟨w.heap.size + 1, 10, none⟩) (by simp) (.int .i64 r.y)))
        have G6 := Lib.hid (Z5.out.set11 l r)
        clear h0 h1 h2 h3 h4 h5 h6 h7 h8 h9 h10 r0 r1 r2 r3 r4 r5 r6 r7 r8 r9 r10 q0 q1 q2 q3 q4 q5 q6 q7 q8 q9 q10
        generalize hw7 : World.setCell _ _ _ = w7 at L6 G6 ⊢
        obtain ⟨h0, h1, h2, h3, h4, h5, h6, h7, h8, h9, h10⟩ := G6.out.at
        rw [← hr.out]
        refine bodyPost_ret (v := .agg #[.int .i64 l.fr, .int .i64 l.pn, .int .i64 l.bl, .int .i64 l.tp, .int .i64 r.f, .int .i64 r.b, .int .i64 r.s, .bool r.fresh, .bool r.more, .int .i64 r.x, .int .i64 r.y]) (by simp [results, Tryd.results52, go_sem, h0, h1, h2, h3, h4, h5, h6, h7, h8, h9, h10]) rfl ⟨rfl, L6.out⟩
      · have B6 := Lib.hid (B5.out.trans (if_neg hu))
        have hub : (r.s == 0) = false := by rw [B6.out]; simpa using hu
        have G5 := Lib.hid (show GB w4 w.heap.size l r from by rw [B6.out]; exact G4.out)
        have Z5 := Z4
        have L5 := L4
        clear h0 h1 h2 h3 h4 h5 h6 h7 h8 h9 h10 G4 Z4 L4 B6 hu B5
        obtain ⟨h0, h1, h2, h3, h4, h5, h6, h7, h8, h9, h10⟩ := G5.out.at
        obtain ⟨r0, r1, r2, r3, r4, r5, r6, r7, r8, r9, r10⟩ := Z5.out.at
        have q0 := Z5.out.free 0
        have q1 := Z5.out.free 1
        have q2 := Z5.out.free 2
        have q3 := Z5.out.free 3
        have q4 := Z5.out.free 4
        have q5 := Z5.out.free 5
        have q6 := Z5.out.free 6
        have q7 := Z5.out.free 7
        have q8 := Z5.out.free 8
        have q9 := Z5.out.free 9
        have q10 := Z5.out.free 10
        go_wp2_with fail
        have L6 := Lib.hid ((((((((((((L5.out.setCell (p := ⟨w.heap.size + 1, 0, none⟩) (by simp) (.int .i64 l.fr)).setCell (p := ⟨w.heap.size + 1, 1, none⟩) (by simp) (.int .i64 l.pn)).setCell (p := ⟨w.heap.size + 1, 2, none⟩) (by simp) (.int .i64 l.bl)).setCell (p := ⟨w.heap.size + 1, 3, none⟩) (by simp) (.int .i64 l.tp)).setCell (p := ⟨w.heap.size + 1, 4, none⟩) (by simp) (.int .i64 r.f)).setCell (p := ⟨w.heap.size + 1, 5, none⟩) (by simp) (.int .i64 r.b)).setCell (p := ⟨w.heap.size + 1, 6, none⟩) (by simp) (.int .i64 r.s)).setCell (p := ⟨w.heap.size + 1, 7, none⟩) (by simp) (.bool r.fresh)).setCell (p := ⟨w.heap.size + 1, 8, none⟩) (by simp) (.bool r.more)).setCell (p := ⟨w.heap.size + 1, 9, none⟩) (by simp) (.int .i64 r.x)).setCell (p := ⟨w.heap.size + 1, 10, none⟩) (by simp) (.int .i64 r.y)))
        have G6 := Lib.hid (Z5.out.set11 l r)
        clear h0 h1 h2 h3 h4 h5 h6 h7 h8 h9 h10 r0 r1 r2 r3 r4 r5 r6 r7 r8 r9 r10 q0 q1 q2 q3 q4 q5 q6 q7 q8 q9 q10
        generalize hw7 : World.setCell _ _ _ = w7 at L6 G6 ⊢
        obtain ⟨h0, h1, h2, h3, h4, h5, h6, h7, h8, h9, h10⟩ := G6.out.at
        rw [← hr.out]
        refine bodyPost_ret (v := .agg #[.int .i64 l.fr, .int .i64 l.pn, .int .i64 l.bl, .int .i64 l.tp, .int .i64 r.f, .int .i64 r.b, .int .i64 r.s, .bool r.fresh, .bool r.more, .int .i64 r.x, .int .i64 r.y]) (by simp [results, Tryd.results52, go_sem, h0, h1, h2, h3, h4, h5, h6, h7, h8, h9, h10]) rfl ⟨rfl, L6.out⟩
    · have B5 := Lib.hid (show r = nextS l u from by rw [hB.out]; unfold finS; rw [hend]; rfl)
      clear hend hB
      go_wp2_with fail
      refine (next_any _ l u _ G4.out ok (by have := F.out; omega) (by have := F.out; omega)).mono ?_
      rintro e w5 ⟨rfl, G5, W5⟩
      have G5 := Lib.hid (show GB w5 w.heap.size l r from by rw [B5.out]; exact G5)
      have Z5 := Lib.hid (Z4.out.far W5 (by simp))
      have L5 := Lib.hid (L4.out.trans (grown_below W5 (Nat.le_refl _) L4.out.size))
      clear G4 Z4 L4 W5 B5
      obtain ⟨h0, h1, h2, h3, h4, h5, h6, h7, h8, h9, h10⟩ := G5.out.at
      obtain ⟨r0, r1, r2, r3, r4, r5, r6, r7, r8, r9, r10⟩ := Z5.out.at
      have q0 := Z5.out.free 0
      have q1 := Z5.out.free 1
      have q2 := Z5.out.free 2
      have q3 := Z5.out.free 3
      have q4 := Z5.out.free 4
      have q5 := Z5.out.free 5
      have q6 := Z5.out.free 6
      have q7 := Z5.out.free 7
      have q8 := Z5.out.free 8
      have q9 := Z5.out.free 9
      have q10 := Z5.out.free 10
      go_wp2_with fail
      have L6 := Lib.hid ((((((((((((L5.out.setCell (p := ⟨w.heap.size + 1, 0, none⟩) (by simp) (.int .i64 l.fr)).setCell (p := ⟨w.heap.size + 1, 1, none⟩) (by simp) (.int .i64 l.pn)).setCell (p := ⟨w.heap.size + 1, 2, none⟩) (by simp) (.int .i64 l.bl)).setCell (p := ⟨w.heap.size + 1, 3, none⟩) (by simp) (.int .i64 l.tp)).setCell (p := ⟨w.heap.size + 1, 4, none⟩) (by simp) (.int .i64 r.f)).setCell (p := ⟨w.heap.size + 1, 5, none⟩) (by simp) (.int .i64 r.b)).setCell (p := ⟨w.heap.size + 1, 6, none⟩) (by simp) (.int .i64 r.s)).setCell (p := ⟨w.heap.size + 1, 7, none⟩) (by simp) (.bool r.fresh)).setCell (p := ⟨w.heap.size + 1, 8, none⟩) (by simp) (.bool r.more)).setCell (p := ⟨w.heap.size + 1, 9, none⟩) (by simp) (.int .i64 r.x)).setCell (p := ⟨w.heap.size + 1, 10, none⟩) (by simp) (.int .i64 r.y)))
      have G6 := Lib.hid (Z5.out.set11 l r)
      clear h0 h1 h2 h3 h4 h5 h6 h7 h8 h9 h10 r0 r1 r2 r3 r4 r5 r6 r7 r8 r9 r10 q0 q1 q2 q3 q4 q5 q6 q7 q8 q9 q10
      generalize hw7 : World.setCell _ _ _ = w7 at L6 G6 ⊢
      obtain ⟨h0, h1, h2, h3, h4, h5, h6, h7, h8, h9, h10⟩ := G6.out.at
      rw [← hr.out]
      refine bodyPost_ret (v := .agg #[.int .i64 l.fr, .int .i64 l.pn, .int .i64 l.bl, .int .i64 l.tp, .int .i64 r.f, .int .i64 r.b, .int .i64 r.s, .bool r.fresh, .bool r.more, .int .i64 r.x, .int .i64 r.y]) (by simp [results, Tryd.results52, go_sem, h0, h1, h2, h3, h4, h5, h6, h7, h8, h9, h10]) rfl ⟨rfl, L6.out⟩

  · have hzb : (s.s - cnt l s k == 0) = false := by simpa using hz
    have U := Lib.hid (show midS l t = t from if_neg (by rw [T.out.1]; exact hz))
    clear hz
    go_wp2_with fail
    clear h0 h1 h2 h3 h4 h5 h6 h7 h8 h9 h10 z5 z6 z7 z9 z10 e1 e2 hc hb
    have Z2 := Lib.hid (Z1.out.far W2.out (by simp))
    have L2 := Lib.hid (L.out.trans (grown_below W2.out (Nat.le_refl _) L.out.size))
    clear G L R W2 Z1
    generalize hw2 : World.drew _ = w2
    have G3 : Hid (GB w2 w.heap.size l (midS l t)) := by rw [← hw2]; exact Lib.hid (by rw [U.out]; exact G2.out)
    have Z3 : Hid (GB w2 (w.heap.size + 1) ⟨0, 0, 0, 0⟩ ⟨0, 0, 0, false, false, 0, 0⟩) := by rw [← hw2]; exact Z2
    have L3 : Hid (Below w.heap.size w w2) := by rw [← hw2]; exact L2
    clear hw2 G2 Z2 L2 U T
    generalize midS l t = u at hB F G3
    refine (keep_gb G3.out (ended_any _ l u _ G3.out.at ok)).mono ?_
    rintro e w4 ⟨rfl, G4, W4⟩
    have Z4 := Lib.hid (Z3.out.far W4.out (by simp))
    have L4 := Lib.hid (L3.out.trans (grown_below W4.out (Nat.le_refl _) L3.out.size))
    clear G3 Z3 L3 W4
    cases hend : endS l u
    · have B5 := Lib.hid (show r = if u.s = 0 then setS l u else u from by rw [hB.out]; unfold finS; rw [hend]; rfl)
      clear hend hB
      obtain ⟨h0, h1, h2, h3, h4, h5, h6, h7, h8, h9, h10⟩ := G4.out.at
      by_cases hu : u.s = 0
      · have hub : (u.s == 0) = true := by simpa using hu
        have B6 := Lib.hid (B5.out.trans (if_pos hu))
        clear hu B5
        go_wp2_with fail
        refine (set_any _ l u _ G4.out).mono ?_
        rintro e w5 ⟨rfl, G5, W5⟩
        have G5 := Lib.hid (show GB w5 w.heap.size l r from by rw [B6.out]; exact G5)
        have Z5 := Lib.hid (Z4.out.far W5 (by simp))
        have L5 := Lib.hid (L4.out.trans (grown_below W5 (Nat.le_refl _) L4.out.size))
        clear h0 h1 h2 h3 h4 h5 h6 h7 h8 h9 h10 G4 Z4 L4 W5 B6
        obtain ⟨h0, h1, h2, h3, h4, h5, h6, h7, h8, h9, h10⟩ := G5.out.at
        obtain ⟨r0, r1, r2, r3, r4, r5, r6, r7, r8, r9, r10⟩ := Z5.out.at
        have q0 := Z5.out.free 0
        have q1 := Z5.out.free 1
        have q2 := Z5.out.free 2
        have q3 := Z5.out.free 3
        have q4 := Z5.out.free 4
        have q5 := Z5.out.free 5
        have q6 := Z5.out.free 6
        have q7 := Z5.out.free 7
        have q8 := Z5.out.free 8
        have q9 := Z5.out.free 9
        have q10 := Z5.out.free 10
        go_wp2_with fail
        have L6 := Lib.hid ((((((((((((L5.out.setCell (p := ⟨w.heap.size + 1, 0, none⟩) (by simp) (.int .i64 l.fr)).setCell (p := ⟨w.heap.size + 1, 1, none⟩) (by simp) (.int .i64 l.pn)).setCell (p := ⟨w.heap.size + 1, 2, none⟩) (by simp) (.int .i64 l.bl)).setCell (p := ⟨w.heap.size + 1, 3, none⟩) (by simp) (.int .i64 l.tp)).setCell (p := ⟨w.heap.size + 1, 4, none⟩) (by simp) (.int .i64 r.f)).setCell (p := ⟨w.heap.size + 1, 5, none⟩) (by simp) (.int .i64 r.b)).setCell (p := ⟨w.heap.size + 1, 6, none⟩) (by simp) (.int .i64 r.s)).setCell (p := ⟨w.heap.size + 1, 7, none⟩) (by simp) (.bool r.fresh)).setCell (p := ⟨w.heap.size + 1, 8, none⟩) (by simp) (.bool r.more)).setCell (p := ⟨w.heap.size + 1, 9, none⟩) (by simp) (.int .i64 r.x)).setCell (p := ⟨w.heap.size + 1, 10, none⟩) (by simp) (.int .i64 r.y)))
        have G6 := Lib.hid (Z5.out.set11 l r)
        clear h0 h1 h2 h3 h4 h5 h6 h7 h8 h9 h10 r0 r1 r2 r3 r4 r5 r6 r7 r8 r9 r10 q0 q1 q2 q3 q4 q5 q6 q7 q8 q9 q10
        generalize hw7 : World.setCell _ _ _ = w7 at L6 G6 ⊢
        obtain ⟨h0, h1, h2, h3, h4, h5, h6, h7, h8, h9, h10⟩ := G6.out.at
        rw [← hr.out]
        refine bodyPost_ret (v := .agg #[.int .i64 l.fr, .int .i64 l.pn, .int .i64 l.bl, .int .i64 l.tp, .int .i64 r.f, .int .i64 r.b, .int .i64 r.s, .bool r.fresh, .bool r.more, .int .i64 r.x, .int .i64 r.y]) (by simp [results, Tryd.results52, go_sem, h0, h1, h2, h3, h4, h5, h6, h7, h8, h9, h10]) rfl ⟨rfl, L6.out⟩
      · have B6 := Lib.hid (B5.out.trans (if_neg hu))
        have hub : (r.s == 0) = false := by rw [B6.out]; simpa using hu
        have G5 := Lib.hid (show GB w4 w.heap.size l r from by rw [B6.out]; exact G4.out)
        have Z5 := Z4
        have L5 := L4
        clear h0 h1 h2 h3 h4 h5 h6 h7 h8 h9 h10 G4 Z4 L4 B6 hu B5
        obtain ⟨h0, h1, h2, h3, h4, h5, h6, h7, h8, h9, h10⟩ := G5.out.at
        obtain ⟨r0, r1, r2, r3, r4, r5, r6, r7, r8, r9, r10⟩ := Z5.out.at
        have q0 := Z5.out.free 0
        have q1 := Z5.out.free 1
        have q2 := Z5.out.free 2
        have q3 := Z5.out.free 3
        have q4 := Z5.out.free 4
        have q5 := Z5.out.free 5
        have q6 := Z5.out.free 6
        have q7 := Z5.out.free 7
        have q8 := Z5.out.free 8
        have q9 := Z5.out.free 9
        have q10 := Z5.out.free 10
        go_wp2_with fail
        have L6 := Lib.hid ((((((((((((L5.out.setCell (p := ⟨w.heap.size + 1, 0, none⟩) (by simp) (.int .i64 l.fr)).setCell (p := ⟨w.heap.size + 1, 1, none⟩) (by simp) (.int .i64 l.pn)).setCell (p := ⟨w.heap.size + 1, 2, none⟩) (by simp) (.int .i64 l.bl)).setCell (p := ⟨w.heap.size + 1, 3, none⟩) (by simp) (.int .i64 l.tp)).setCell (p := ⟨w.heap.size + 1, 4, none⟩) (by simp) (.int .i64 r.f)).setCell (p := ⟨w.heap.size + 1, 5, none⟩) (by simp) (.int .i64 r.b)).setCell (p := ⟨w.heap.size + 1, 6, none⟩) (by simp) (.int .i64 r.s)).setCell (p := ⟨w.heap.size + 1, 7, none⟩) (by simp) (.bool r.fresh)).setCell (p := ⟨w.heap.size + 1, 8, none⟩) (by simp) (.bool r.more)).setCell (p := ⟨w.heap.size + 1, 9, none⟩) (by simp) (.int .i64 r.x)).setCell (p := ⟨w.heap.size + 1, 10, none⟩) (by simp) (.int .i64 r.y)))
        have G6 := Lib.hid (Z5.out.set11 l r)
        clear h0 h1 h2 h3 h4 h5 h6 h7 h8 h9 h10 r0 r1 r2 r3 r4 r5 r6 r7 r8 r9 r10 q0 q1 q2 q3 q4 q5 q6 q7 q8 q9 q10
        generalize hw7 : World.setCell _ _ _ = w7 at L6 G6 ⊢
        obtain ⟨h0, h1, h2, h3, h4, h5, h6, h7, h8, h9, h10⟩ := G6.out.at
        rw [← hr.out]
        refine bodyPost_ret (v := .agg #[.int .i64 l.fr, .int .i64 l.pn, .int .i64 l.bl, .int .i64 l.tp, .int .i64 r.f, .int .i64 r.b, .int .i64 r.s, .bool r.fresh, .bool r.more, .int .i64 r.x, .int .i64 r.y]) (by simp [results, Tryd.results52, go_sem, h0, h1, h2, h3, h4, h5, h6, h7, h8, h9, h10]) rfl ⟨rfl, L6.out⟩
    · have B5 := Lib.hid (show r = nextS l u from by rw [hB.out]; unfold finS; rw [hend]; rfl)
      clear hend hB
      go_wp2_with fail
      refine (next_any _ l u _ G4.out ok (by have := F.out; omega) (by have := F.out; omega)).mono ?_
      rintro e w5 ⟨rfl, G5, W5⟩
      have G5 := Lib.hid (show GB w5 w.heap.size l r from by rw [B5.out]; exact G5)
      have Z5 := Lib.hid (Z4.out.far W5 (by simp))
      have L5 := Lib.hid (L4.out.trans (grown_below W5 (Nat.le_refl _) L4.out.size))
      clear G4 Z4 L4 W5 B5
      obtain ⟨h0, h1, h2, h3, h4, h5, h6, h7, h8, h9, h10⟩ := G5.out.at
      obtain ⟨r0, r1, r2, r3, r4, r5, r6, r7, r8, r9, r10⟩ := Z5.out.at
      have q0 := Z5.out.free 0
      have q1 := Z5.out.free 1
      have q2 := Z5.out.free 2
      have q3 := Z5.out.free 3
      have q4 := Z5.out.free 4
      have q5 := Z5.out.free 5
      have q6 := Z5.out.free 6
      have q7 := Z5.out.free 7
      have q8 := Z5.out.free 8
      have q9 := Z5.out.free 9
      have q10 := Z5.out.free 10
      go_wp2_with fail
      have L6 := Lib.hid ((((((((((((L5.out.setCell (p := ⟨w.heap.size + 1, 0, none⟩) (by simp) (.int .i64 l.fr)).setCell (p := ⟨w.heap.size + 1, 1, none⟩) (by simp) (.int .i64 l.pn)).setCell (p := ⟨w.heap.size + 1, 2, none⟩) (by simp) (.int .i64 l.bl)).setCell (p := ⟨w.heap.size + 1, 3, none⟩) (by simp) (.int .i64 l.tp)).setCell (p := ⟨w.heap.size + 1, 4, none⟩) (by simp) (.int .i64 r.f)).setCell (p := ⟨w.heap.size + 1, 5, none⟩) (by simp) (.int .i64 r.b)).setCell (p := ⟨w.heap.size + 1, 6, none⟩) (by simp) (.int .i64 r.s)).setCell (p := ⟨w.heap.size + 1, 7, none⟩) (by simp) (.bool r.fresh)).setCell (p := ⟨w.heap.size + 1, 8, none⟩) (by simp) (.bool r.more)).setCell (p := ⟨w.heap.size + 1, 9, none⟩) (by simp) (.int .i64 r.x)).setCell (p := ⟨w.heap.size + 1, 10, none⟩) (by simp) (.int .i64 r.y)))
      have G6 := Lib.hid (Z5.out.set11 l r)
      clear h0 h1 h2 h3 h4 h5 h6 h7 h8 h9 h10 r0 r1 r2 r3 r4 r5 r6 r7 r8 r9 r10 q0 q1 q2 q3 q4 q5 q6 q7 q8 q9 q10
      generalize hw7 : World.setCell _ _ _ = w7 at L6 G6 ⊢
      obtain ⟨h0, h1, h2, h3, h4, h5, h6, h7, h8, h9, h10⟩ := G6.out.at
      rw [← hr.out]
      refine bodyPost_ret (v := .agg #[.int .i64 l.fr, .int .i64 l.pn, .int .i64 l.bl, .int .i64 l.tp, .int .i64 r.f, .int .i64 r.b, .int .i64 r.s, .bool r.fresh, .bool r.more, .int .i64 r.x, .int .i64 r.y]) (by simp [results, Tryd.results52, go_sem, h0, h1, h2, h3, h4, h5, h6, h7, h8, h9, h10]) rfl ⟨rfl, L6.out⟩


end Go.Proofs.YtmjbidnlknmcgabDoor
