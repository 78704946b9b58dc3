/- The contract of an ending: one step. The contract of an ending, whole. -/
import Derived.Test.YtmjbidnlknmcgabDoorLT
import Derived.Test.YtmjbidnlknmcgabDoorLG
set_option linter.unusedVariables false
set_option linter.unusedSimpArgs false
namespace Go.Proofs.YtmjbidnlknmcgabDoor
open Go.RowKit Go.Shelf Go.Maps
attribute [local go_sem] Oper.semAt_some

theorem Kp2.far {a b : Nat} {W W' W'' : World} {row : Option Nat} (h : Kp2 a b W W') (hg : W'.grownBy W'' row) (hr : ∀ r, row = some r → r = a ∨ r = b ∨ W.heap.size ≤ r) : Kp2 a b W W'' :=
  ⟨Nat.le_trans h.size hg.size, fun k hk ha hb => (hg.block k (Nat.lt_of_lt_of_le hk h.size) (fun e => (hr k e.symm).elim ha (fun h' => h'.elim hb (fun h'' => by omega)))).trans (h.block k hk ha hb)⟩

theorem row_slice {w : World} {base n : Nat} {e : TypeId} {v : Value} {xs : List Value} (h : w.ownsRow base e 1 v n xs) : ∃ a c, v = .slice a n c := by
  rcases h.2 with ⟨h1, h0⟩ | ⟨g, cap, cur, hv, hb, hg, hc, hm, _⟩
  · exact ⟨none, 0, by rw [h1, h0]⟩
  · exact ⟨_, _, hv⟩

theorem own_one (w : World) (base : Nat) (hb : base ≤ w.heap.size) (x : Int) : (w.alloc (.cells #[.int .i64 x] 3)).ownsRow base 3 1 (.slice (some ⟨w.heap.size, 0, none⟩) 1 1) 1 [.int .i64 x] :=
  ⟨rfl, .inr ⟨w.heap.size, 1, _, rfl, hb, heap_alloc_new w _, Nat.le_refl _, by unfold maxLen; omega, rfl, rfl⟩⟩

/-- What a round owes in which the ending has been found. -/
theorem hit_ok {w W w6 : World} {l : Lw} {s : Sd} {n : Int} {bf br bm B : Nat} {pre : List (Ball s)} {x : Ball s} {v' : Value} {L : List Int} (hbm : bm < w.heap.size) (hbf : bf < w.heap.size) (hbr : br < w.heap.size)
    (E6 : Hid (EI w w6 l s n bf br bm)) (K6 : Hid (Kp2 bm (w.heap.size + 3) W w6)) (o6 : Hid (w6.ownsRow w.heap.size 3 1 v' (L.length + 1) (.int .i64 x.1 :: L.map (Value.int .i64)))) (nb : Hid (∀ k, v'.ownBlock = some k → w.heap.size + 4 ≤ k))
    (hL : Hid (endL l (behS l s x.1) (n - cnt l s x.1 * (1 + s.x)) = L)) (hp : Hid (∀ k ∈ pre, hitB l s n k.1 = false)) (hx : Hid (hitB l s n x.1 = true)) (h1 : bm < B) (h2 : w.heap.size + 3 < B) :
    KeepsFrom B W (w6.setCell ⟨w.heap.size + 1 + 1 + 1, 0, none⟩ v') ∧ LX w l s n bf br bm .ret (pre ++ [x]) (w6.setCell ⟨w.heap.size + 1 + 1 + 1, 0, none⟩ v') := by
  have hg := grown_set (World.grownBy.refl w6 (some (w.heap.size + 3))) 0 v'
  have k := K6.out.grown hg (fun r e => by cases e; exact .inr rfl)
  refine ⟨⟨k.size, fun i o hi ho _ => (k.block i (lt_of_block ho) (by omega) (by omega)).trans ho⟩, rfl, pre, x, v', rfl, hp.out, hx.out, ?_⟩
  rw [hL.out]
  refine ⟨by simpa using blk_setCell E6.out.b3 0 v', o6.out.kept hg ?_, E6.out.sw.kept hg (by omega) (by omega) (by omega), E6.out.gr.andThen hg (fun j e => .inl (by cases e; omega))⟩
  cases hk : v'.ownBlock with
  | none => exact .inl rfl
  | some g => exact .inr (fun e => by have := nb.out g hk; simp at e; omega)

theorem EI.start {w : World} {l : Lw} {s : Sd} {n : Int} {bf br bm : Nat} (h : SW w l bf br bm) :
    EI w ((((w.alloc (.cells #[.int .i64 l.fr, .int .i64 l.pn, .int .i64 l.bl, .int .i64 l.tp, .int .i64 s.f, .int .i64 s.b, .int .i64 s.s, .bool s.fresh, .bool s.more, .int .i64 s.x, .int .i64 s.y] 72)).alloc (.cells #[.int .i64 n] 3)).alloc (.cells #[fnv bf br] 84)).alloc (.cells #[.slice none 0 0] 28)) l s n bf br bm := by
  have g1 := World.grownBy_alloc w (.cells #[.int .i64 l.fr, .int .i64 l.pn, .int .i64 l.bl, .int .i64 l.tp, .int .i64 s.f, .int .i64 s.b, .int .i64 s.s, .bool s.fresh, .bool s.more, .int .i64 s.x, .int .i64 s.y] 72) none
  refine ⟨?_, ?_, ?_, ?_, ?_, ?_⟩
  · exact GB.alloc (GB.alloc (GB.alloc ⟨heap_alloc_new w _⟩ _) _) _
  · refine (Below.heap_alloc _ _ _ (by simp)).trans ((Below.heap_alloc _ _ _ (by simp)).trans ?_)
    have := heap_alloc_new (w.alloc (.cells #[.int .i64 l.fr, .int .i64 l.pn, .int .i64 l.bl, .int .i64 l.tp, .int .i64 s.f, .int .i64 s.b, .int .i64 s.s, .bool s.fresh, .bool s.more, .int .i64 s.x, .int .i64 s.y] 72)) (.cells #[.int .i64 n] 3)
    rwa [World.size_alloc] at this
  · refine (Below.heap_alloc _ _ _ (by simp)).trans ?_
    have := heap_alloc_new ((w.alloc (.cells #[.int .i64 l.fr, .int .i64 l.pn, .int .i64 l.bl, .int .i64 l.tp, .int .i64 s.f, .int .i64 s.b, .int .i64 s.s, .bool s.fresh, .bool s.more, .int .i64 s.x, .int .i64 s.y] 72)).alloc (.cells #[.int .i64 n] 3)) (.cells #[fnv bf br] 84)
    simpa using this
  · have := heap_alloc_new (((w.alloc (.cells #[.int .i64 l.fr, .int .i64 l.pn, .int .i64 l.bl, .int .i64 l.tp, .int .i64 s.f, .int .i64 s.b, .int .i64 s.s, .bool s.fresh, .bool s.more, .int .i64 s.x, .int .i64 s.y] 72)).alloc (.cells #[.int .i64 n] 3)).alloc (.cells #[fnv bf br] 84)) (.cells #[.slice none 0 0] 28)
    simpa using this
  · exact h.below (((g1.trans (World.grownBy_alloc _ _ none)).trans (World.grownBy_alloc _ _ none)).trans (World.grownBy_alloc _ _ none))
  · exact (((World.grownBy_alloc w _ _).trans (World.grownBy_alloc _ _ _)).trans (World.grownBy_alloc _ _ _)).trans (World.grownBy_alloc _ _ _)

set_option maxRecDepth 100000 in
set_option maxHeartbeats 40000000 in
theorem ending_step (l : Lw) (ok : l.Ok) (bf br bm : Nat) (s : Sd) (n : Int) (w : World) (v : Vd l s) (n0 : 0 ≤ n) (n3 : n ≤ 300) (sw : SW w l bf br bm)
    (ih : Hid (∀ (s' : Sd) (n' : Int) (w' : World), mu l s' < mu l s → Vd l s' → 0 ≤ n' → n' ≤ 300 → SW w' l bf br bm → Calls Tryd.prog 37 #[gval l s', .int .i64 n', fnv bf br] w' fun e w'' =>
      ∃ v, e = .returned v ∧ w''.ownsRow w'.heap.size 3 1 v (endL l s' n').length ((endL l s' n').map (Value.int .i64)) ∧ SW w'' l bf br bm ∧ w'.grownBy w'' (some bm))) :
    CallsIn Fence.wide 5 Tryd.prog 37 #[gval l s, .int .i64 n, fnv bf br] w fun e w' =>
      ∃ v, e = .returned v ∧ w'.ownsRow w.heap.size 3 1 v (endL l s n).length ((endL l s n).map (Value.int .i64)) ∧ SW w' l bf br bm ∧ w.grownBy w' (some bm) := by
  have SW0 := Lib.hid sw
  have hlf := lt_of_block sw.cf
  have hlr := lt_of_block sw.cr
  have hbm : bm < w.heap.size := by obtain ⟨D, h, _⟩ := sw.mem; exact h.lt
  clear sw
  unfold gval
  refine callsIn_of_wp_marks Tryd.func37 rfl trivial ?_ rfl
  simp only [Tryd.ntmps37, List.size_toArray, List.length_cons, List.length_nil, Nat.reduceAdd, Nat.reduceSub, Array.replicate_succ, Array.replicate_zero, List.push_toArray, List.append_toArray, List.nil_append, List.cons_append]
  gi_wp2_with fail
  have E1 := Lib.hid (EI.start (s := s) (n := n) SW0.out)
  clear SW0
  generalize World.alloc (World.alloc (World.alloc (World.alloc w _) _) _) _ = w1 at E1 ⊢
  have hz0 : w.heap.size ≤ w1.heap.size := E1.out.gr.size
  refine ⟨trivial, (following_any _ l s w1).mono ?_⟩
  rintro e w2 ⟨rfl, rfl⟩
  gi_wp2_with fail
  have hz4 : w.heap.size + 3 < w1.heap.size := lt_of_block E1.out.b3
  have E2 := Lib.hid (E1.out.step hbm hlf hlr (World.grownBy_alloc w1 (.cells #[.int .i64 l.fr, .int .i64 l.pn, .int .i64 l.bl, .int .i64 l.tp, .int .i64 s.f, .int .i64 s.b, .int .i64 s.s, .bool s.fresh, .bool s.more, .int .i64 s.x, .int .i64 s.y] 72) none) (fun r e => by cases e))
  have G2 := Lib.hid (show GB (w1.alloc (.cells #[.int .i64 l.fr, .int .i64 l.pn, .int .i64 l.bl, .int .i64 l.tp, .int .i64 s.f, .int .i64 s.b, .int .i64 s.s, .bool s.fresh, .bool s.more, .int .i64 s.x, .int .i64 s.y] 72)) w1.heap.size l s from ⟨heap_alloc_new w1 _⟩)
  have hs2 : (w1.alloc (.cells #[.int .i64 l.fr, .int .i64 l.pn, .int .i64 l.bl, .int .i64 l.tp, .int .i64 s.f, .int .i64 s.b, .int .i64 s.s, .bool s.fresh, .bool s.more, .int .i64 s.x, .int .i64 s.y] 72)).heap.size = w1.heap.size + 1 := by simp
  clear E1
  generalize World.alloc w1 _ = w2 at E2 G2 hs2 ⊢
  have hs2' : w1.heap.size + 1 ≤ w2.heap.size := by omega
  have Hs2 := Lib.hid hs2
  clear hs2
  have p2 := ok.p2
  have v1 := v.s1
  have v2 := v.s2
  have v3 := v.x1
  have v4 := v.x2
  refine wpIn_rangeFunc_ownG rfl (by omega) (gf := 57) (lb := #[.pointer (some ⟨w1.heap.size, 0, none⟩)]) rfl trivial (enters_of Tryd.func57 (by kernel_rfl) rfl)
    (foll_stops (5 - 1) (by omega) l s w1.heap.size ok v1 (by omega) v3 (by omega) w2 G2.out) (fun h k => KpB.t h k) (KpB.b (by omega)) (Below.refl _ _) (fun _ => rfl)
    (LE w l s n bf br bm w2.heap.size)
    (LX w l s n bf br bm)
    (LE.own hbm hlf hlr (by omega))
    (fun _ => LX.own hbm hlf hlr (by omega))
    ⟨E2.out, Nat.le_refl _, fun k hk => by cases hk⟩
    (fun (x : Ball s) => { tmps := #[.agg #[.int .i64 l.fr, .int .i64 l.pn, .int .i64 l.bl, .int .i64 l.tp, .int .i64 s.f, .int .i64 s.b, .int .i64 s.s, .bool s.fresh, .bool s.more, .int .i64 s.x, .int .i64 s.y], .int .i64 n, fnv bf br, .pointer (some ⟨w.heap.size, 0, none⟩), .pointer (some ⟨w.heap.size + 1, 0, none⟩), .pointer (some ⟨w.heap.size + 1 + 1, 0, none⟩), .pointer (some ⟨w.heap.size + 1 + 1 + 1, 0, none⟩),
        .int .i64 x.1, .int .i64 (cnt l s x.1 * (1 + s.x)), undef, .agg #[.int .i64 l.fr, .int .i64 l.pn, .int .i64 l.bl, .int .i64 l.tp, .int .i64 s.f, .int .i64 s.b, .int .i64 s.s, .bool s.fresh, .bool s.more, .int .i64 s.x, .int .i64 s.y], .func (.func 57) #[] #[.pointer (some ⟨w1.heap.size, 0, none⟩)], .int .i64 x.1, .int .i64 (cnt l s x.1 * (1 + s.x)),
        undef, undef, undef, undef, undef, undef, undef, undef, undef, undef, undef, undef, undef, undef, undef, undef, undef, undef, undef], defers := [] }) ?assign ?body ?done ?stop
  case assign =>
    intro lp x W K hK
    dsimp only [encs]
    gi_wp2
    exact hK
  case body =>
    rintro lp pre x W ⟨hE, hsz, hpre⟩ hlen
    have hx1 := x.2.1
    have hx2 := x.2.2
    have hE0 := Lib.hid hE
    have HP := Lib.hid hpre
    obtain ⟨h0, h1, h2, h3, h4, h5, h6, h7, h8, h9, h10⟩ := hE.gb.at
    have hsW : w.heap.size ≤ W.heap.size := hE.gr.size
    clear hE hpre
    have hfl : s.f < l.fr := by
      have : nB l s ≠ 0 := by omega
      have hv := v.f2
      unfold nB at this
      split at this
      · exact absurd rfl this
      · omega
    have hbv := beh_vd (k := x.1) ok v hfl (by omega) hx2
    have hc := cnt_le ok v (by omega) hx2
    have hadd : 0 ≤ cnt l s x.1 * (1 + s.x) ∧ cnt l s x.1 * (1 + s.x) ≤ 10 * 3 := ⟨Int.mul_nonneg hc.1 (by omega), Int.mul_le_mul (by omega) (by omega) (by omega) (by omega)⟩
    generalize hA : cnt l s x.1 * (1 + s.x) = A at hadd ⊢
    have e1 : IntKind.i64.wrap (n - A) = n - A := IntWalk.i64_in _ (by omega)
    obtain ⟨s1, hs1⟩ : ∃ s1, Hid (behS l s x.1 = s1) := ⟨_, Lib.hid rfl⟩
    obtain ⟨q, hq⟩ : ∃ q, Hid (hitB l s n x.1 = q) := ⟨_, Lib.hid rfl⟩
    have hq1 := Lib.hid (show hasB (Rs l s1) (n - A) = q from by rw [← hq.out, hitB, hs1.out, hA])
    have HA := Lib.hid hA
    have vd1 := Lib.hid (show Vd l s1 from by rw [← hs1.out]; exact hbv.1)
    have mu1 := Lib.hid (show mu l s1 < mu l s from by rw [← hs1.out]; exact hbv.2)
    have hbe := behind_any l s x.1 W ok ⟨v.f1, by have := v.f2; omega, v.b1, v.b2, v.s1, v.s2, v.x1, v.x2, v.y1, v.y2⟩ (by omega) (by omega)
    rw [hs1.out] at hbe
    unfold gval at hbe
    have Hbe := Lib.hid hbe
    clear hbe hbv hc hA hadd
    gi_wp2_with fail
    refine ⟨trivial, (CallsIn.inRound lp (callsIn_wide.2 Hbe.out)).mono ?_⟩
    rintro e W1 ⟨rfl, hb1⟩
    have E1 := Lib.hid (hE0.out.step hbm hlf hlr (below_row hb1) (fun r e => by cases e))
    have K1 := Lib.hid ((Kp2.refl bm (w.heap.size + 3) W).grown (below_row hb1) (fun r e => by cases e))
    have hsW1 : W.heap.size ≤ W1.heap.size := hb1.size
    clear hb1 h0 h1 h2 h3 h4 h5 h6 h7 h8 h9 h10 Hbe
    gi_upto_region 5 with fail
    have B2 : Hid (BE w W (W1.alloc (.cells #[.int .i64 l.fr, .int .i64 l.pn, .int .i64 l.bl, .int .i64 l.tp, .int .i64 s1.f, .int .i64 s1.b, .int .i64 s1.s, .bool s1.fresh, .bool s1.more, .int .i64 s1.x, .int .i64 s1.y] 72)) l s n bf br bm s1 W1.heap.size) :=
      Lib.hid ⟨E1.out.step hbm hlf hlr (World.grownBy_alloc W1 _ none) (fun r e => by cases e), K1.out.grown (World.grownBy_alloc W1 _ none) (fun r e => by cases e), ⟨heap_alloc_new W1 _⟩, hsW1⟩
    clear E1 K1
    generalize World.alloc W1 _ = W2 at B2 ⊢
    have ro := Lib.hid (rest_ok l ok bf br bm)
    gi_cut [23] from 17 (fun s23 wx => s23 = .bool q ∧ Hid (BE w W wx l s n bf br bm s1 W1.heap.size))
    case first =>
      have hmx : Tryd.prog.follows .mixedOrders = true := by kernel_rfl
      have B3 : Hid (BE w W W2.drew l s n bf br bm s1 W1.heap.size) := Lib.hid ⟨B2.out.ei.drewN 1, B2.out.kp.grown (grown_drewN (World.grownBy.refl W2 none) 1) (fun r e => by cases e), B2.out.g1.drewN 1, B2.out.n1⟩
      obtain ⟨g0, g1, g2, g3, g4, g5, g6, g7, g8, g9, g10⟩ := B2.out.g1.at
      have f4 := cell_of_blk1 B2.out.ei.b1
      have f5 := cell_of_blk1 B2.out.ei.b2
      clear B2
      gi_region_with_o (first | (refine ⟨trivial, ?_⟩; gi_at_call 50; refine (CallsIn.inRound lp (callsIn_wide.2 (rest_be ro.out hbm hsW vd1.out (by assumption)))).mono ?_; rintro e w' ⟨rfl, hb2, hc2⟩) | (refine ⟨trivial, ?_⟩; gi_at_call 36; refine (CallsIn.inRound lp (callsIn_wide.2 (has_be hbm hlf hlr (n - A) q hq1.out (by assumption)))).mono ?_; rintro e w' ⟨rfl, hb3⟩))
      all_goals (gi_wp2_with fail; gi_meet; exact ⟨rfl, by assumption⟩)
    case rest =>
      obtain ⟨rfl, hb⟩ := hcut
      clear B2
      cases q
      · gi_wp2_with fail
        exact miss_ok hb HP hq (by omega) (by omega) (by omega) (by omega) (by omega) hsz
      · have hn1 := hasB_bd hq1.out
        have hb5 : Hid (BE w W (wc.alloc (.cells #[.int .i64 x.1] 3)) l s n bf br bm s1 W1.heap.size) :=
          Lib.hid ⟨hb.out.ei.step hbm hlf hlr (World.grownBy_alloc wc _ none) (fun r e => by cases e), hb.out.kp.grown (World.grownBy_alloc wc _ none) (fun r e => by cases e), ⟨(Below.heap_alloc _ _ _ (lt_of_block hb.out.g1.blk)).trans hb.out.g1.blk⟩, hb.out.n1⟩
        obtain ⟨g0, g1, g2, g3, g4, g5, g6, g7, g8, g9, g10⟩ := hb5.out.g1.at
        have f4 := cell_of_blk1 hb5.out.ei.b1
        have f5 := cell_of_blk1 hb5.out.ei.b2
        have o5 := Lib.hid (own_one wc w.heap.size hb.out.ei.gr.size x.1)
        have hlw : w.heap.size + 3 < wc.heap.size := lt_of_block hb.out.ei.b3
        have hWc : W.heap.size ≤ wc.heap.size := hb.out.kp.size
        gi_wp2_with fail
        refine ⟨trivial, (CallsIn.inRound lp (callsIn_wide.2 (ih.out s1 (n - A) _ mu1.out vd1.out (by omega) (by omega) hb5.out.ei.sw))).mono ?_⟩
        rintro e w5 ⟨v5, rfl, how5, hsw5, hgr5⟩
        have E5 := Lib.hid (hb5.out.ei.turn hbm hgr5 hsw5)
        have K5 := Lib.hid (hb5.out.kp.grown hgr5 (fun r e => by cases e; exact .inl rfl))
        have O5 := Lib.hid (o5.out.kept hgr5 (.inr (fun e => by simp [Value.ownBlock] at e; omega)))
        have hlw5 : wc.heap.size < w5.heap.size := by have := hgr5.size; simp at this; omega
        have hll := endL_len (n - A) ok vd1.out
        have hL := Lib.hid (show endL l (behS l s x.1) (n - cnt l s x.1 * (1 + s.x)) = endL l s1 (n - A) from by rw [hs1.out, HA.out])
        obtain ⟨L, hL1⟩ : ∃ L, endL l s1 (n - A) = L := ⟨_, rfl⟩
        rw [hL1] at hL how5 hll
        clear hb hb5 o5 hgr5 hsw5 f4 f5 g0 g1 g2 g3 g4 g5 g6 g7 g8 g9 g10 hL1
        obtain ⟨i3, hi3, hy0, hy1, hy2⟩ := info_parts info3
        have hn5 := Lib.hid (show ∀ k : Nat, (Value.slice (some ⟨wc.heap.size, 0, none⟩) 1 1).ownBlock = some k → w.heap.size + 4 ≤ k ∧ W.heap.size ≤ k from fun k e => by simp [Value.ownBlock] at e; omega)
        rcases how5.2 with ⟨rfl, h0⟩ | ⟨g, cap, cur, rfl, _⟩
        · have hLn : L = [] := List.eq_nil_of_length_eq_zero h0
          subst hLn
          have c3 := cell_of_blk1 E5.out.b3
          have f3 := free_of_blk1 E5.out.b3
          have hnb := Lib.hid (show ∀ k : Nat, (Value.slice (some ⟨wc.heap.size, 0, none⟩) 1 1).ownBlock = some k → w.heap.size + 4 ≤ k from fun k e => by simp [Value.ownBlock] at e; omega)
          gi_wp2_with (gi_at_builtin; refine wpListIn_append_none _ rfl _ _ 28 rfl w.heap.size 3 i3 1 Tryd.underlying28 hi3 _ _ _ rfl O5.out rfl ?_)
          exact hit_ok (L := []) hbm hlf hlr E5 K5 O5 hnb hL HP hq (by omega) (by omega)
        · have hnews := fun j u hj => how5.cells (g := g) rfl j u hj
          gi_wp2_with (gi_at_builtin; refine wpListIn_append_own_at _ rfl _ _ 28 rfl w.heap.size 3 i3 (.int .i64 0) 1 8 Tryd.underlying28 hi3 hy0 hy1 hy2 rfl (by decide) _ _ _ rfl O5.out ⟨g, 0, none⟩ L.length cap (L.map (Value.int .i64)) rfl (by simp) hnews (by simp [Value.oneCell']) (by unfold maxLen; omega) (by omega) (by omega) ?_; intro v' w6 ho6 hgr6 hnil6 hloc6; have O6 := Lib.hid ho6; have G6 := Lib.hid hgr6; have L6 := Lib.hid hloc6; clear ho6 hgr6 hnil6 hloc6; obtain ⟨va, vc, rfl⟩ := row_slice O6.out; have E6 := Lib.hid (E5.out.step hbm hlf hlr G6.out (fun r e => (hn5.out r e).1)); have c3 := cell_of_blk1 E6.out.b3; have f3 := free_of_blk1 E6.out.b3)
          have K6 := Lib.hid (K5.out.far G6.out (fun r e => .inr (.inr (hn5.out r e).2)))
          have hnb := Lib.hid (show ∀ k : Nat, (Value.slice va (1 + L.length) vc).ownBlock = some k → w.heap.size + 4 ≤ k from fun k e => by
            rcases L6.out with h | h
            · rw [h] at e; exact (hn5.out k e).1
            · have h8 : w.heap.size + 4 ≤ w5.heap.size := by omega
              exact Nat.le_trans h8 (Nat.le_of_eq (Option.some.inj (h.symm.trans e))))
          rw [Nat.add_comm 1 L.length] at O6 hnb ⊢
          exact hit_ok hbm hlf hlr E6 K6 O6 hnb hL HP hq (by omega) (by omega)
  case done =>
    rintro D xs W hD hS ⟨hE, hsz, hpre⟩ hK
    have hend := Lib.hid (endL_none (find_miss hS hpre))
    have HE := Lib.hid hE
    have HK := Lib.hid hK
    have c3 := cell_of_blk1 hE.b3
    have f3 := free_of_blk1 hE.b3
    clear hE hK
    gi_wp2_with fail
    clear c3 f3
    have X := Lib.hid (HE.out.nilEnd hbm hlf hlr)
    have K := Lib.hid ((grown_set (World.grownBy.refl W (some (w.heap.size + 3))) 0 (.slice none 0 0)).block D (lt_of_block HK.out) (fun e => by cases e; omega) |>.trans HK.out)
    refine ⟨by simp, .inl ⟨_, _, rfl, run_takeDeferred K.out, ?_⟩⟩
    have X2 := Lib.hid (X.out.put hbm hlf hlr (by omega) K.out)
    clear X K HE HK
    generalize World.putObj _ _ _ = w7 at X2 ⊢
    have r0 := cell_of_blk1 X2.out.b3
    refine ⟨.slice none 0 0, by simp [results, Tryd.results37, go_sem, r0], .slice none 0 0, rfl, ?_, X2.out.sw, X2.out.gr⟩
    rw [hend.out]
    exact X2.out.ow
  case stop =>
    rintro D c pre W hD hS ⟨rfl, pre0, x, v', rfl, hp0, hx, hX⟩ hK
    have hend := Lib.hid (endL_some ok v (find_hit hS hp0 hx))
    have HX := Lib.hid hX
    have HK := Lib.hid hK
    clear hX hK
    gi_wp2_with fail
    refine ⟨by simp, .inl ⟨_, _, rfl, run_takeDeferred HK.out, ?_⟩⟩
    have X2 := Lib.hid (HX.out.put hbm hlf hlr (by omega) HK.out)
    clear HX HK
    generalize World.putObj _ _ _ = w7 at X2 ⊢
    have r0 := cell_of_blk1 X2.out.b3
    refine ⟨v', by simp [results, Tryd.results37, go_sem, r0], v', rfl, ?_, X2.out.sw, X2.out.gr⟩
    rw [hend.out]
    exact X2.out.ow

end Go.Proofs.YtmjbidnlknmcgabDoor

namespace Go.Proofs.YtmjbidnlknmcgabDoor
open Go.RowKit

theorem ending_upto (l : Lw) (ok : l.Ok) (bf br bm : Nat) : ∀ (N : Nat) (s : Sd) (n : Int) (w : World), mu l s < N → Vd l s → 0 ≤ n → n ≤ 300 → SW w l bf br bm →
    Calls Tryd.prog 37 #[gval l s, .int .i64 n, fnv bf br] w fun e w' =>
      ∃ v, e = .returned v ∧ w'.ownsRow w.heap.size 3 1 v (endL l s n).length ((endL l s n).map (Value.int .i64)) ∧ SW w' l bf br bm ∧ w.grownBy w' (some bm) := by
  intro N
  induction N with
  | zero => intro s n w h; omega
  | succ N ih => intro s n w h v n0 n3 sw; exact callsIn_wide.1 (ending_step l ok bf br bm s n w v n0 n3 sw (Lib.hid (fun s' n' w' hs v' a b sw' => ih s' n' w' (by omega) v' a b sw')))

theorem ending_any (l : Lw) (ok : l.Ok) (bf br bm : Nat) (s : Sd) (n : Int) (w : World) (v : Vd l s) (n0 : 0 ≤ n) (n3 : n ≤ 300) (sw : SW w l bf br bm) :
    Calls Tryd.prog 37 #[gval l s, .int .i64 n, fnv bf br] w fun e w' =>
      ∃ v, e = .returned v ∧ w'.ownsRow w.heap.size 3 1 v (endL l s n).length ((endL l s n).map (Value.int .i64)) ∧ SW w' l bf br bm ∧ w.grownBy w' (some bm) :=
  ending_upto l ok bf br bm (mu l s + 1) s n w (by omega) v n0 n3 sw

end Go.Proofs.YtmjbidnlknmcgabDoor
