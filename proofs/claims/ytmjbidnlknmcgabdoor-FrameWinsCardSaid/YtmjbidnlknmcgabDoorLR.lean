/- The contract of the search: by how much the endings of a game can make its count greater. -/
import Derived.Test.YtmjbidnlknmcgabDoorLM
import Derived.RangeFuncBox
import Derived.Maps.Range
set_option linter.unusedVariables false
set_option linter.unusedSimpArgs false
namespace Go.Proofs.YtmjbidnlknmcgabDoor
open Go.RowKit Go.Shelf Go.Maps
attribute [local go_sem] Oper.semAt_some

/-- The search's variables. -/
structure SW (w : World) (l : Lw) (bf br bm : Nat) : Prop where
  cf : w.heap[bf]? = some (.cells #[.map (some bm)] 103 (0, 0))
  cr : w.heap[br]? = some (.cells #[.func (.func 50) #[] #[.pointer (some ⟨bf, 0, none⟩), .pointer (some ⟨br, 0, none⟩)]] 84 (0, 0))
  mem : Memo w bm l

set_option maxRecDepth 100000 in
set_option maxHeartbeats 2000000 in
theorem rest_hit (l : Lw) (ok : l.Ok) (bf br bm : Nat) (s : Sd) (w : World) (v : Vd l s) (D : DataW Unit) (hown : Hid (w.ownsMap Tryd.prog 70 tread bm 8712 D)) (hg : Hid (Good l D))
    (cf : w.heap[bf]? = some (.cells #[.map (some bm)] 103 (0, 0))) (hh : Maps.has D (kl s) = true) :
    CallsIn Fence.wide 5 Tryd.prog 50 #[gval l s, .pointer (some ⟨bf, 0, none⟩), .pointer (some ⟨br, 0, none⟩)] w fun e w' =>
      e = .returned (tval fun i => (wd (Rs l s) i : Int)) ∧ Hid (Below w.heap.size w w') := by
  have c1 := cell_of_one cf
  have hlt := lt_of_block cf
  have hkey := Lib.hid (key77 s (v.wf ok))
  unfold gval
  refine callsIn_of_wp Tryd.func50 rfl trivial ?_ rfl
  simp only [Tryd.ntmps50, List.size_toArray, List.length_cons, List.length_nil, Nat.reduceAdd, Nat.reduceSub, Array.replicate_succ, Array.replicate_zero, List.push_toArray, List.append_toArray, List.nil_append, List.cons_append]
  gi_wp2_with fail
  obtain ⟨v1, ps, hrun, hv⟩ := World.ownsMap.look_ok (World.ownsMap.alloc (World.ownsMap.alloc hown.out (.cells #[.int .i64 l.fr, .int .i64 l.pn, .int .i64 l.bl, .int .i64 l.tp, .int .i64 s.f, .int .i64 s.b, .int .i64 s.s, .bool s.fresh, .bool s.more, .int .i64 s.x, .int .i64 s.y] 72)) (.cells #[.int .u64 0, .int .u64 0, .int .u64 0, .int .u64 0, .int .u64 0] 82)) law77 Tryd.underlying103 (zero95 _) (tread_val _) hkey.out
  rw [hg.out.els s v hh] at hv
  have hv1 := tread_inv hv
  subst hv1
  rw [hh] at hrun
  unfold Sd.val at hrun
  unfold tval at hrun
  obtain ⟨g, hgw⟩ : ∃ g, Hid (g = wd (Rs l s)) := ⟨_, Lib.hid rfl⟩
  rw [← hgw.out] at hrun
  rw [hrun]
  clear hrun hv hh hkey
  gi_wp2_with fail
  have hB : w.heap.size ≤ w.heap.size + 1 := by omega
  refine bodyPost_ret (v := .agg #[.int .u64 (g 0), .int .u64 (g 1), .int .u64 (g 2), .int .u64 (g 3), .int .u64 (g 4)]) (by simp [results, Tryd.results50, go_sem]) rfl ⟨by rw [← hgw.out]; rfl, Lib.hid ?_⟩
  exact (((Below.refl w.heap.size w).alloc (Nat.le_refl _) _).alloc (by simp) _).alloc (by simp; omega) _

/-- The search's own blocks, and its variables, N being what has been joined so far. -/
structure RW (w W : World) (l : Lw) (s : Sd) (bf br bm N : Nat) : Prop where
  gb : GB W w.heap.size l s
  r : T5 W (w.heap.size + 1) (fun _ => 0)
  t : T5 W (w.heap.size + 3) (fun i => (wd N i : Int))
  sw : SW W l bf br bm
  gr : w.grownBy W (some bm)

theorem Memo.kept {w w' : World} {b : Nat} {l : Lw} {row : Option Nat} (h : Memo w b l) (hg : w.grownBy w' row) (hne : some b ≠ row) : Memo w' b l := by
  obtain ⟨D, h1, h2⟩ := h
  exact ⟨D, h1.kept hg hne, h2⟩

theorem SW.kept {w w' : World} {l : Lw} {bf br bm c : Nat} (h : SW w l bf br bm) (hg : w.grownBy w' (some c)) (h1 : bf ≠ c) (h2 : br ≠ c) (h3 : bm ≠ c) : SW w' l bf br bm :=
  ⟨(hg.block bf (lt_of_block h.cf) (fun e => h1 (by cases e; rfl))).trans h.cf, (hg.block br (lt_of_block h.cr) (fun e => h2 (by cases e; rfl))).trans h.cr, h.mem.kept hg (fun e => h3 (by cases e; rfl))⟩

theorem SW.below {w w' : World} {l : Lw} {bf br bm : Nat} (h : SW w l bf br bm) (hg : w.grownBy w' none) : SW w' l bf br bm :=
  ⟨(hg.block bf (lt_of_block h.cf) (fun e => by cases e)).trans h.cf, (hg.block br (lt_of_block h.cr) (fun e => by cases e)).trans h.cr, h.mem.kept hg (fun e => by cases e)⟩

theorem wd_zero (i : Nat) : wd 0 i = 0 := by simp [wd]
theorem wd_one (i : Nat) : wd 1 i = if i = 0 then 1 else 0 := by
  unfold wd
  by_cases h : i = 0
  · subst h; rfl
  · rw [if_neg h, Nat.div_eq_of_lt (Nat.one_lt_two_pow (by omega))]

theorem RW.drewN {w W : World} {l : Lw} {s : Sd} {bf br bm N : Nat} (h : RW w W l s bf br bm N) (n : Nat) : RW w (W.drewN n) l s bf br bm N :=
  ⟨h.gb.drewN n, h.r.drewN n, h.t.drewN n, h.sw.below (grown_drewN (World.grownBy.refl _ _) n), grown_drewN h.gr n⟩

/-- Whatever turns beyond the search's own blocks leaves them as they are. -/
theorem RW.step {w W W' : World} {l : Lw} {s : Sd} {bf br bm N : Nat} {row : Option Nat} (h : RW w W l s bf br bm N) (hbm : bm < w.heap.size) (hbf : bf < w.heap.size) (hbr : br < w.heap.size) (hg : W.grownBy W' row) (hr : ∀ r, row = some r → w.heap.size + 4 ≤ r) : RW w W' l s bf br bm N := by
  have ne : ∀ k, k < w.heap.size + 4 → some k ≠ row := fun k hk e => by have := hr k e.symm; omega
  refine ⟨⟨(hg.block _ (lt_of_block h.gb.blk) (ne _ (by omega))).trans h.gb.blk⟩, ⟨(hg.block _ (lt_of_block h.r.blk) (ne _ (by omega))).trans h.r.blk⟩, ⟨(hg.block _ (lt_of_block h.t.blk) (ne _ (by omega))).trans h.t.blk⟩, ⟨(hg.block _ (lt_of_block h.sw.cf) (ne _ (by omega))).trans h.sw.cf, (hg.block _ (lt_of_block h.sw.cr) (ne _ (by omega))).trans h.sw.cr, h.sw.mem.kept hg (ne _ (by omega))⟩, h.gr.andThen hg (fun j e => .inl (by have := hr j e; omega))⟩

theorem T5.set5 {w : World} {b : Nat} {g0 : Nat → Int} (h : T5 w b g0) (g : Nat → Int) :
    T5 (((((w.setCell ⟨b, 0, none⟩ (.int .u64 (g 0))).setCell ⟨b, 1, none⟩ (.int .u64 (g 1))).setCell ⟨b, 2, none⟩ (.int .u64 (g 2))).setCell ⟨b, 3, none⟩ (.int .u64 (g 3))).setCell ⟨b, 4, none⟩ (.int .u64 (g 4))) b g :=
  ⟨((((((h.set 0 (by omega) (g 0)).set 1 (by omega) (g 1)).set 2 (by omega) (g 2)).set 3 (by omega) (g 3)).set 4 (by omega) (g 4))).blk⟩

theorem grown_set5 (w : World) (b : Nat) (g : Nat → Int) :
    w.grownBy (((((w.setCell ⟨b, 0, none⟩ (.int .u64 (g 0))).setCell ⟨b, 1, none⟩ (.int .u64 (g 1))).setCell ⟨b, 2, none⟩ (.int .u64 (g 2))).setCell ⟨b, 3, none⟩ (.int .u64 (g 3))).setCell ⟨b, 4, none⟩ (.int .u64 (g 4))) (some b) :=
  grown_set (grown_set (grown_set (grown_set (grown_set (World.grownBy.refl _ _) _ _) _ _) _ _) _ _) _ _

theorem SW.ne {w : World} {l : Lw} {bf br bm : Nat} (h : SW w l bf br bm) : bf ≠ bm ∧ br ≠ bm := by
  obtain ⟨D, ⟨es, ck, hb, _⟩, _⟩ := h.mem
  exact ⟨fun e => (by rw [← e, h.cf] at hb; cases hb), fun e => (by rw [← e, h.cr] at hb; cases hb)⟩

theorem T5.alloc {w : World} {b : Nat} {g : Nat → Int} (h : T5 w b g) (o : Obj) : T5 (w.alloc o) b g := ⟨(Below.heap_alloc _ _ _ (lt_of_block h.blk)).trans h.blk⟩
theorem GB.alloc {w : World} {b : Nat} {l : Lw} {s : Sd} (h : GB w b l s) (o : Obj) : GB (w.alloc o) b l s := ⟨(Below.heap_alloc _ _ _ (lt_of_block h.blk)).trans h.blk⟩

theorem wd_words (i : Nat) : ((wd 1 i : Nat) : Int) = if i = 0 then 1 else 0 := by rw [wd_one]; split <;> rfl

/-- The set of the number 0 alone. -/
theorem RW.one {w W : World} {l : Lw} {s : Sd} {bf br bm N : Nat} (h : RW w W l s bf br bm N) (hne1 : bf ≠ bm) (hne2 : br ≠ bm) (hbm : bm < w.heap.size) (hbf : bf < w.heap.size) (hbr : br < w.heap.size) :
    RW w (((((W.setCell ⟨w.heap.size + 1 + 1 + 1, 0, none⟩ (.int .u64 1)).setCell ⟨w.heap.size + 1 + 1 + 1, 1, none⟩ (.int .u64 0)).setCell ⟨w.heap.size + 1 + 1 + 1, 2, none⟩ (.int .u64 0)).setCell ⟨w.heap.size + 1 + 1 + 1, 3, none⟩ (.int .u64 0)).setCell ⟨w.heap.size + 1 + 1 + 1, 4, none⟩ (.int .u64 0)) l s bf br bm 1 := by
  have hg := grown_set5 W (w.heap.size + 3) (fun i => if i = 0 then 1 else 0)
  have ht := h.t.set5 (fun i => if i = 0 then 1 else 0)
  refine ⟨h.gb.far hg (by omega), h.r.far hg (by omega), ?_, h.sw.kept hg (by omega) (by omega) (by omega), h.gr.andThen hg (fun j e => .inl (by cases e; omega))⟩
  simp only [wd_words]
  exact ht

theorem RW.start {w : World} {l : Lw} {s : Sd} {bf br bm : Nat} (h : SW w l bf br bm) :
    RW w ((((w.alloc (.cells #[.int .i64 l.fr, .int .i64 l.pn, .int .i64 l.bl, .int .i64 l.tp, .int .i64 s.f, .int .i64 s.b, .int .i64 s.s, .bool s.fresh, .bool s.more, .int .i64 s.x, .int .i64 s.y] 72)).alloc (.cells #[.int .u64 0, .int .u64 0, .int .u64 0, .int .u64 0, .int .u64 0] 82)).alloc (.cells #[.int .u64 0, .int .u64 0, .int .u64 0, .int .u64 0, .int .u64 0] 82)).alloc (.cells #[.int .u64 0, .int .u64 0, .int .u64 0, .int .u64 0, .int .u64 0] 82)) l s bf br bm 0 := by
  have g1 := World.grownBy_alloc w (.cells #[.int .i64 l.fr, .int .i64 l.pn, .int .i64 l.bl, .int .i64 l.tp, .int .i64 s.f, .int .i64 s.b, .int .i64 s.s, .bool s.fresh, .bool s.more, .int .i64 s.x, .int .i64 s.y] 72) none
  refine ⟨?_, ?_, ?_, ?_, ?_⟩
  · exact GB.alloc (GB.alloc (GB.alloc ⟨heap_alloc_new w _⟩ _) _) _
  · refine T5.alloc (T5.alloc ⟨?_⟩ _) _
    have := heap_alloc_new (w.alloc (.cells #[.int .i64 l.fr, .int .i64 l.pn, .int .i64 l.bl, .int .i64 l.tp, .int .i64 s.f, .int .i64 s.b, .int .i64 s.s, .bool s.fresh, .bool s.more, .int .i64 s.x, .int .i64 s.y] 72)) (.cells #[.int .u64 0, .int .u64 0, .int .u64 0, .int .u64 0, .int .u64 0] 82)
    rwa [World.size_alloc] at this
  · refine ⟨?_⟩
    simp only [wd_zero]
    have := heap_alloc_new (((w.alloc (.cells #[.int .i64 l.fr, .int .i64 l.pn, .int .i64 l.bl, .int .i64 l.tp, .int .i64 s.f, .int .i64 s.b, .int .i64 s.s, .bool s.fresh, .bool s.more, .int .i64 s.x, .int .i64 s.y] 72)).alloc (.cells #[.int .u64 0, .int .u64 0, .int .u64 0, .int .u64 0, .int .u64 0] 82)).alloc (.cells #[.int .u64 0, .int .u64 0, .int .u64 0, .int .u64 0, .int .u64 0] 82)) (.cells #[.int .u64 0, .int .u64 0, .int .u64 0, .int .u64 0, .int .u64 0] 82)
    simp only [World.size_alloc] at this
    exact this
  · exact h.below (((g1.trans (World.grownBy_alloc _ _ none)).trans (World.grownBy_alloc _ _ none)).trans (World.grownBy_alloc _ _ none))
  · exact (((World.grownBy_alloc w _ _).trans (World.grownBy_alloc _ _ _)).trans (World.grownBy_alloc _ _ _)).trans (World.grownBy_alloc _ _ _)

/-- What a round leaves as it was: all blocks but two. -/
structure Kp2 (a b : Nat) (W W' : World) : Prop where
  size : W.heap.size ≤ W'.heap.size
  block : ∀ k, k < W.heap.size → k ≠ a → k ≠ b → W'.heap[k]? = W.heap[k]?

theorem Kp2.refl (a b : Nat) (W : World) : Kp2 a b W W := ⟨Nat.le_refl _, fun _ _ _ _ => rfl⟩
theorem Kp2.grown {a b : Nat} {W W' W'' : World} {row : Option Nat} (h : Kp2 a b W W') (hg : W'.grownBy W'' row) (hr : ∀ r, row = some r → r = a ∨ r = b) : Kp2 a b W W'' :=
  ⟨Nat.le_trans h.size hg.size, fun k hk ha hb => (hg.block k (Nat.lt_of_lt_of_le hk h.size) (fun e => (hr k e.symm).elim ha hb)).trans (h.block k hk ha hb)⟩

structure BI (w W0 W : World) (l : Lw) (s : Sd) (bf br bm N : Nat) : Prop where
  rw' : RW w W l s bf br bm N
  kp : Kp2 bm (w.heap.size + 3) W0 W

/-- The loop's invariant. -/
def LI (w : World) (l : Lw) (s : Sd) (bf br bm h : Nat) (pre : List (Ball s)) (W : World) : Prop := RW w W l s bf br bm (part l s (pre.map fun k => k.1)) ∧ h ≤ W.heap.size

theorem below_row {W W' : World} (h : Below W.heap.size W W') : W.grownBy W' none := ⟨h.os, h.tape, h.output, h.size, fun k hk _ => h.block k hk⟩

theorem beh_bi {w W0 W : World} {l : Lw} {s : Sd} {bf br bm N : Nat} (ok : l.Ok) (hbm : bm < w.heap.size) (hbf : bf < w.heap.size) (hbr : br < w.heap.size) (v : Vd l s) (hf : s.f ≠ l.fr) (k : Int) (k1 : 0 ≤ k) (k2 : k ≤ s.s) (h : Hid (BI w W0 W l s bf br bm N)) :
    Calls Tryd.prog 52 #[.agg #[.int .i64 l.fr, .int .i64 l.pn, .int .i64 l.bl, .int .i64 l.tp, .int .i64 s.f, .int .i64 s.b, .int .i64 s.s, .bool s.fresh, .bool s.more, .int .i64 s.x, .int .i64 s.y], .int .i64 k] W fun e W' =>
      e = .returned (gval l (behS l s k)) ∧ Hid (BI w W0 W' l s bf br bm N) ∧ W'.cell? ⟨br, 0, none⟩ = some (.func (.func 50) #[] #[.pointer (some ⟨bf, 0, none⟩), .pointer (some ⟨br, 0, none⟩)]) := by
  have a1 := v.f2
  have a2 := v.s2
  have a3 := ok.p2
  refine (behind_any l s k W ok ⟨v.f1, by omega, v.b1, v.b2, v.s1, v.s2, v.x1, v.x2, v.y1, v.y2⟩ (by omega) (by omega)).mono ?_
  rintro e W' ⟨rfl, hb⟩
  have hg := below_row hb
  have hr := h.out.rw'.step hbm hbf hbr hg (fun r e => by cases e)
  exact ⟨rfl, Lib.hid ⟨hr, h.out.kp.grown hg (fun r e => by cases e)⟩, cell_of_one hr.sw.cr⟩

theorem rest_bi {w W0 W : World} {l : Lw} {s : Sd} {bf br bm N : Nat} (ok : l.Ok) (hbm : bm < w.heap.size) (v : Vd l s) (hf : s.f ≠ l.fr) (k : Int) (k1 : 0 ≤ k) (k2 : k ≤ s.s)
    (ih : Hid (∀ (s' : Sd) (w' : World), mu l s' < mu l s → Vd l s' → SW w' l bf br bm → Calls Tryd.prog 50 #[gval l s', .pointer (some ⟨bf, 0, none⟩), .pointer (some ⟨br, 0, none⟩)] w' fun e w'' =>
      e = .returned (tval fun i => (wd (Rs l s') i : Int)) ∧ Hid (SW w'' l bf br bm) ∧ Hid (w'.grownBy w'' (some bm)))) (h : Hid (BI w W0 W l s bf br bm N)) :
    Calls Tryd.prog 50 #[gval l (behS l s k), .pointer (some ⟨bf, 0, none⟩), .pointer (some ⟨br, 0, none⟩)] W fun e W' =>
      e = .returned (tval fun i => (wd (Rs l (behS l s k)) i : Int)) ∧ Hid (BI w W0 W' l s bf br bm N) := by
  have a1 := v.f2
  have hb := beh_vd (k := k) ok v (by omega) (by omega) k2
  refine (ih.out _ W hb.2 hb.1 h.out.rw'.sw).mono ?_
  rintro e W' ⟨rfl, hs, hg⟩
  have r := h.out.rw'
  have hz4 : w.heap.size ≤ W.heap.size := r.gr.size
  refine ⟨rfl, Lib.hid ⟨⟨r.gb.far hg.out (by omega), r.r.far hg.out (by omega), r.t.far hg.out (by omega), hs.out, r.gr.trans hg.out⟩, h.out.kp.grown hg.out (fun r e => by cases e; exact .inl rfl)⟩⟩

theorem join_bi {w W0 W : World} {l : Lw} {s : Sd} {bf br bm N : Nat} (hbm : bm < w.heap.size) (hbf : bf < w.heap.size) (hbr : br < w.heap.size) (M : Nat) (a : Int) (r : Nat) (ha : a = (r : Int)) (hr : r < 64) (h : Hid (BI w W0 W l s bf br bm N)) :
    Calls Tryd.prog 49 #[.pointer (some ⟨w.heap.size + 1 + 1 + 1, 0, none⟩), tval fun i => (wd M i : Int), .int .i64 a] W fun e W' =>
      e = .returned (.tuple #[]) ∧ Hid (BI w W0 W' l s bf br bm (N ||| M <<< r)) := by
  have R := h.out.rw'
  have := join_any (w.heap.size + 3) (wd N) (wd M) 0 r W R.t hr (by omega) (wd_lt N) (wd_lt M)
  rw [Nat.zero_mul, Nat.zero_add, ← ha] at this
  refine this.mono ?_
  rintro e W' ⟨rfl, ht, hg⟩
  have e1 : (fun i => ((jn (wd N) (wd M) 0 r i : Nat) : Int)) = fun i => (wd (N ||| M <<< r) i : Int) := by
    funext i; rw [jn_wd _ _ _ _ _ hr, Nat.zero_mul, Nat.zero_add]
  refine ⟨rfl, Lib.hid ⟨⟨R.gb.far hg.out (by omega), R.r.far hg.out (by omega), by rw [← e1]; exact ht.out, R.sw.kept hg.out (by omega) (by omega) (by omega), R.gr.andThen hg.out (fun j e => .inl (by cases e; omega))⟩, h.out.kp.grown hg.out (fun r e => by cases e; exact .inr rfl)⟩⟩

theorem LI.own {w : World} {l : Lw} {s : Sd} {bf br bm h B : Nat} (hbm : bm < w.heap.size) (hbf : bf < w.heap.size) (hbr : br < w.heap.size) (hB : w.heap.size + 4 ≤ B) : OwnFrom B (LI w l s bf br bm h) :=
  fun _ _ _ _ hs hg hr => ⟨hs.1.step hbm hbf hbr hg (fun r e => by have := (hr r e).1; omega), Nat.le_trans hs.2 hg.size⟩

/-- What a round that is over owes. -/
theorem end_ok {w W W' : World} {l : Lw} {s : Sd} {bf br bm B Bn h : Nat} {pre : List (Ball s)} {x : Ball s} (hb : Hid (BI w W W' l s bf br bm (part l s (pre.map fun k => k.1) ||| Rs l (behS l s x.1) <<< ad l s x.1)))
    (h1 : bm < B) (h2 : w.heap.size + 3 < B) (h3 : Bn ≠ bm) (h4 : Bn ≠ w.heap.size + 3) (h5 : Bn < W.heap.size) (h6 : h ≤ W.heap.size) :
    KeepsFrom B W W' ∧ KpB Bn W W' ∧ LI w l s bf br bm h (pre ++ [x]) W' := by
  have k := hb.out.kp
  refine ⟨⟨k.size, fun i o hi ho _ => (k.block i (lt_of_block ho) (by omega) (by omega)).trans ho⟩, ⟨k.size, k.block Bn h5 h3 h4⟩, ?_, Nat.le_trans h6 k.size⟩
  rw [List.map_append]
  show RW w W' l s bf br bm (part l s (_ ++ [x.1]))
  rw [part_snoc]
  exact hb.out.rw'

set_option maxRecDepth 100000 in
set_option maxHeartbeats 30000000 in
theorem rest_miss (l : Lw) (ok : l.Ok) (bf br bm : Nat) (s : Sd) (w : World) (v : Vd l s) (D : DataW Unit) (hown : Hid (w.ownsMap Tryd.prog 70 tread bm 8712 D)) (hg : Hid (Good l D))
    (SWw : Hid (SW w l bf br bm)) (hh : Maps.has D (kl s) = false)
    (ih : Hid (∀ (s' : Sd) (w' : World), mu l s' < mu l s → Vd l s' → SW w' l bf br bm → Calls Tryd.prog 50 #[gval l s', .pointer (some ⟨bf, 0, none⟩), .pointer (some ⟨br, 0, none⟩)] w' fun e w'' =>
      e = .returned (tval fun i => (wd (Rs l s') i : Int)) ∧ Hid (SW w'' l bf br bm) ∧ Hid (w'.grownBy w'' (some bm)))) :
    CallsIn Fence.wide 5 Tryd.prog 50 #[gval l s, .pointer (some ⟨bf, 0, none⟩), .pointer (some ⟨br, 0, none⟩)] w fun e w' =>
      e = .returned (tval fun i => (wd (Rs l s) i : Int)) ∧ Hid (SW w' l bf br bm) ∧ Hid (w.grownBy w' (some bm)) := by
  have c1 := cell_of_one SWw.out.cf
  have hlt := lt_of_block SWw.out.cf
  have hlr := lt_of_block SWw.out.cr
  have hkey := Lib.hid (key77 s (v.wf ok))
  have hne := SWw.out.ne
  have hne1 := hne.1
  have hne2 := hne.2
  unfold gval
  refine callsIn_of_wp_marks Tryd.func50 rfl trivial ?_ rfl
  simp only [Tryd.ntmps50, List.size_toArray, List.length_cons, List.length_nil, Nat.reduceAdd, Nat.reduceSub, Array.replicate_succ, Array.replicate_zero, List.push_toArray, List.append_toArray, List.nil_append, List.cons_append]
  gi_wp2_with fail
  obtain ⟨v1, ps, hrun, hv⟩ := World.ownsMap.look_ok (World.ownsMap.alloc (World.ownsMap.alloc hown.out (.cells #[.int .i64 l.fr, .int .i64 l.pn, .int .i64 l.bl, .int .i64 l.tp, .int .i64 s.f, .int .i64 s.b, .int .i64 s.s, .bool s.fresh, .bool s.more, .int .i64 s.x, .int .i64 s.y] 72)) (.cells #[.int .u64 0, .int .u64 0, .int .u64 0, .int .u64 0, .int .u64 0] 82)) law77 Tryd.underlying103 (zero95 _) (tread_val _) hkey.out
  rw [atKey_of_not_has hh] at hv
  have hv1 := tread_inv hv
  subst hv1
  rw [hh] at hrun
  unfold Sd.val at hrun
  unfold tval at hrun
  rw [hrun]
  clear hrun hv
  gi_wp2_with fail
  have hRW := Lib.hid (RW.start (s := s) SWw.out)
  generalize World.alloc (World.alloc (World.alloc (World.alloc w _) _) _) _ = w1 at hRW ⊢
  refine ⟨trivial, (callsIn_wide.2 (done_any _ l s w1 hRW.out.gb.at)).mono ?_⟩
  rintro e w2 ⟨rfl, hw2⟩
  have RW2 : Hid (RW w w2 l s bf br bm 0) := Lib.hid (by obtain ⟨m, hm⟩ := hw2; rw [hm]; exact hRW.out.drewN m)
  clear hw2 hRW
  have hg0 : w.heap.size ≤ w2.heap.size := RW2.out.gr.size
  by_cases hf : s.f = l.fr
  · have hfb : (s.f == l.fr) = true := by simpa using hf
    have hyf := Lib.hid hf
    clear hf
    have q0 := RW2.out.t.free 0
    have q1 := RW2.out.t.free 1
    have q2 := RW2.out.t.free 2
    have q3 := RW2.out.t.free 3
    have q4 := RW2.out.t.free 4
    have t0 : w2.cell? ⟨w.heap.size + 1 + 1 + 1, 0, none⟩ = some (.int .u64 (wd 0 0 : Int)) := RW2.out.t.cell 0 (by omega)
    have t1 : w2.cell? ⟨w.heap.size + 1 + 1 + 1, 1, none⟩ = some (.int .u64 (wd 0 1 : Int)) := RW2.out.t.cell 1 (by omega)
    have t2 : w2.cell? ⟨w.heap.size + 1 + 1 + 1, 2, none⟩ = some (.int .u64 (wd 0 2 : Int)) := RW2.out.t.cell 2 (by omega)
    have t3 : w2.cell? ⟨w.heap.size + 1 + 1 + 1, 3, none⟩ = some (.int .u64 (wd 0 3 : Int)) := RW2.out.t.cell 3 (by omega)
    have t4 : w2.cell? ⟨w.heap.size + 1 + 1 + 1, 4, none⟩ = some (.int .u64 (wd 0 4 : Int)) := RW2.out.t.cell 4 (by omega)
    obtain ⟨h0, h1, h2, h3, h4, h5, h6, h7, h8, h9, h10⟩ := RW2.out.gb.at
    have RW2b := Lib.hid (RW2.out.one hne1 hne2 hown.out.lt hlt hlr)
    gi_wp2_with fail
    clear RW2 t0 t1 t2 t3 t4 q0 q1 q2 q3 q4 h0 h1 h2 h3 h4 h5 h6 h7 h8 h9 h10
    generalize World.setCell _ _ _ = w2b at RW2b ⊢
    clear hg0
    clear w2
    have RW2 := RW2b
    clear RW2b
    obtain ⟨w2, hw2⟩ : ∃ w2, w2 = w2b := ⟨_, rfl⟩
    rw [← hw2] at RW2 ⊢
    clear hw2
    have hg0 : w.heap.size ≤ w2.heap.size := RW2.out.gr.size
    obtain ⟨h0, h1, h2, h3, h4, h5, h6, h7, h8, h9, h10⟩ := RW2.out.gb.at
    gi_wp2_with fail
    refine ⟨trivial, (following_any _ l s w2).mono ?_⟩
    rintro e w3 ⟨rfl, rfl⟩
    gi_wp2_with fail
    have hbm : bm < w.heap.size := hown.out.lt
    have hz4 : w.heap.size + 3 < w2.heap.size := lt_of_block RW2.out.t.blk
    have RW3 := Lib.hid (RW2.out.step hbm hlt hlr (World.grownBy_alloc w2 (.cells #[.int .i64 l.fr, .int .i64 l.pn, .int .i64 l.bl, .int .i64 l.tp, .int .i64 s.f, .int .i64 s.b, .int .i64 s.s, .bool s.fresh, .bool s.more, .int .i64 s.x, .int .i64 s.y] 72) none) (fun r e => by cases e))
    have GB3 := Lib.hid (show GB (w2.alloc (.cells #[.int .i64 l.fr, .int .i64 l.pn, .int .i64 l.bl, .int .i64 l.tp, .int .i64 s.f, .int .i64 s.b, .int .i64 s.s, .bool s.fresh, .bool s.more, .int .i64 s.x, .int .i64 s.y] 72)) w2.heap.size l s from ⟨heap_alloc_new w2 _⟩)
    clear h0 h1 h2 h3 h4 h5 h6 h7 h8 h9 h10
    have hs3 : (w2.alloc (.cells #[.int .i64 l.fr, .int .i64 l.pn, .int .i64 l.bl, .int .i64 l.tp, .int .i64 s.f, .int .i64 s.b, .int .i64 s.s, .bool s.fresh, .bool s.more, .int .i64 s.x, .int .i64 s.y] 72)).heap.size = w2.heap.size + 1 := by simp
    generalize World.alloc w2 _ = w3 at RW3 GB3 hs3 ⊢
    have hs3' : w2.heap.size + 1 ≤ w3.heap.size := by omega
    have Hs3 := Lib.hid hs3
    clear hs3
    have p2 := ok.p2
    have v1 := v.s1
    have v2 := v.s2
    have v3 := v.x1
    have v4 := v.x2
    refine wpIn_rangeFunc_ownG rfl (by omega) (gf := 57) (lb := #[.pointer (some ⟨w2.heap.size, 0, none⟩)]) rfl trivial (enters_of Tryd.func57 (by kernel_rfl) rfl)
      (foll_stops (5 - 1) (by omega) l s w2.heap.size ok v1 (by omega) v3 (by omega) w3 GB3.out) (fun h k => KpB.t h k) (KpB.b (by omega)) (Below.refl _ _) (fun _ => rfl)
      (LI w l s bf br bm w3.heap.size)
      (fun _ _ _ => False)
      (LI.own hbm hlt hlr (by omega))
      (fun _ _ _ _ _ hs _ _ => hs)
      ⟨by simpa [part, hyf.out] using RW3.out, Nat.le_refl _⟩
      (fun (x : Ball s) => { tmps := #[.agg #[.int .i64 l.fr, .int .i64 l.pn, .int .i64 l.bl, .int .i64 l.tp, .int .i64 s.f, .int .i64 s.b, .int .i64 s.s, .bool s.fresh, .bool s.more, .int .i64 s.x, .int .i64 s.y],
          .pointer (some ⟨bf, 0, none⟩), .pointer (some ⟨br, 0, none⟩), .pointer (some ⟨w.heap.size, 0, none⟩), .pointer (some ⟨w.heap.size + 1, 0, none⟩), .pointer (some ⟨w.heap.size + 1 + 1, 0, none⟩), .bool false, .pointer (some ⟨w.heap.size + 1 + 1 + 1, 0, none⟩),
          .int .i64 x.1, .int .i64 (cnt l s x.1 * (1 + s.x)),
          .tuple #[.agg #[.int .u64 0, .int .u64 0, .int .u64 0, .int .u64 0, .int .u64 0], .bool false], .map (some bm), .pointer (some ⟨w.heap.size, 4, none⟩),
          .agg #[.int .i64 s.f, .int .i64 s.b, .int .i64 s.s, .bool s.fresh, .bool s.more, .int .i64 s.x, .int .i64 s.y],
          .tuple #[.agg #[.int .u64 0, .int .u64 0, .int .u64 0, .int .u64 0, .int .u64 0], .bool false], .agg #[.int .u64 0, .int .u64 0, .int .u64 0, .int .u64 0, .int .u64 0],
          .bool false, .bool false, undef, .bool true, .agg #[.int .u64 1, .int .u64 0, .int .u64 0, .int .u64 0, .int .u64 0],
          .agg #[.int .i64 l.fr, .int .i64 l.pn, .int .i64 l.bl, .int .i64 l.tp, .int .i64 s.f, .int .i64 s.b, .int .i64 s.s, .bool s.fresh, .bool s.more, .int .i64 s.x, .int .i64 s.y],
          .func (.func 57) #[] #[.pointer (some ⟨w2.heap.size, 0, none⟩)], .int .i64 x.1, .int .i64 (cnt l s x.1 * (1 + s.x)), undef, undef, undef, undef, undef, undef, undef, undef, undef, undef, undef, undef], defers := [] }) ?assign ?body ?done ?stop
    case assign =>
      intro lp x W K hK
      dsimp only [encs]
      gi_wp2
      exact hK
    case body =>
      rintro lp pre x W _ hlt'
      exact absurd hlt' (by simp [nB, hyf.out])
    case done =>
      rintro D' ys W hD hS ⟨hI, hsz⟩ hK
      have hpart : Hid (part l s (ys.map fun k => k.1) = Rs l s) := Lib.hid (by rw [Rs_eq ok s v, ← hS])
      rw [hpart.out] at hI
      have HI := Lib.hid hI
      have HK := Lib.hid hK
      have HD : w.heap.size + 4 ≤ D' := by omega
      clear hI hK hS hpart hD
      obtain ⟨D2, hown2, hgood2⟩ := HI.out.sw.mem
      have Hown2 := Lib.hid hown2
      have Hgood2 := Lib.hid hgood2
      clear hown2 hgood2
      obtain ⟨h0, h1, h2, h3, h4, h5, h6, h7, h8, h9, h10⟩ := HI.out.gb.at
      have cf := cell_of_one HI.out.sw.cf
      have t0 : W.cell? ⟨w.heap.size + 1 + 1 + 1, 0, none⟩ = some (.int .u64 (wd (Rs l s) 0 : Int)) := HI.out.t.cell 0 (by omega)
      have t1 : W.cell? ⟨w.heap.size + 1 + 1 + 1, 1, none⟩ = some (.int .u64 (wd (Rs l s) 1 : Int)) := HI.out.t.cell 1 (by omega)
      have t2 : W.cell? ⟨w.heap.size + 1 + 1 + 1, 2, none⟩ = some (.int .u64 (wd (Rs l s) 2 : Int)) := HI.out.t.cell 2 (by omega)
      have t3 : W.cell? ⟨w.heap.size + 1 + 1 + 1, 3, none⟩ = some (.int .u64 (wd (Rs l s) 3 : Int)) := HI.out.t.cell 3 (by omega)
      have t4 : W.cell? ⟨w.heap.size + 1 + 1 + 1, 4, none⟩ = some (.int .u64 (wd (Rs l s) 4 : Int)) := HI.out.t.cell 4 (by omega)
      obtain ⟨w5, hrun, hown5, hgr5⟩ := World.ownsMap.update Hown2.out law77 Tryd.underlying103 (by unfold maxLen; omega) hkey.out (tread_val fun i => (wd (Rs l s) i : Int))
      unfold Sd.val tval at hrun
      have Hown5 := Lib.hid hown5
      have Hgr5 := Lib.hid hgr5
      clear hown5 hgr5
      have hz4' : w.heap.size + 3 < W.heap.size := lt_of_block HI.out.t.blk
      have T5a := Lib.hid (HI.out.t.far Hgr5.out (by omega))
      have R5 := Lib.hid (HI.out.r.far Hgr5.out (by omega))
      have u0 : w5.cell? ⟨w.heap.size + 1 + 1 + 1, 0, none⟩ = some (.int .u64 (wd (Rs l s) 0 : Int)) := T5a.out.cell 0 (by omega)
      have u1 : w5.cell? ⟨w.heap.size + 1 + 1 + 1, 1, none⟩ = some (.int .u64 (wd (Rs l s) 1 : Int)) := T5a.out.cell 1 (by omega)
      have u2 : w5.cell? ⟨w.heap.size + 1 + 1 + 1, 2, none⟩ = some (.int .u64 (wd (Rs l s) 2 : Int)) := T5a.out.cell 2 (by omega)
      have u3 : w5.cell? ⟨w.heap.size + 1 + 1 + 1, 3, none⟩ = some (.int .u64 (wd (Rs l s) 3 : Int)) := T5a.out.cell 3 (by omega)
      have u4 : w5.cell? ⟨w.heap.size + 1 + 1 + 1, 4, none⟩ = some (.int .u64 (wd (Rs l s) 4 : Int)) := T5a.out.cell 4 (by omega)
      have r0 := R5.out.cell 0 (by omega)
      have r1 := R5.out.cell 1 (by omega)
      have r2 := R5.out.cell 2 (by omega)
      have r3 := R5.out.cell 3 (by omega)
      have r4 := R5.out.cell 4 (by omega)
      have q0 := R5.out.free 0
      have q1 := R5.out.free 1
      have q2 := R5.out.free 2
      have q3 := R5.out.free 3
      have q4 := R5.out.free 4
      gi_wp2_with fail
      have hgp := Hgood2.out.put ok v
      have SW5 : Hid (SW w5 l bf br bm) := Lib.hid ⟨(Hgr5.out.block bf (lt_of_block HI.out.sw.cf) (fun e => hne.1 (by cases e; rfl))).trans HI.out.sw.cf, (Hgr5.out.block br (lt_of_block HI.out.sw.cr) (fun e => hne.2 (by cases e; rfl))).trans HI.out.sw.cr, ⟨_, owns_size Hown5.out hgp.size, hgp⟩⟩
      have K5 : Hid (w5.heap[D']? = some (.deferred (some []))) := Lib.hid ((Hgr5.out.block D' (lt_of_block HK.out) (fun e => by cases e; omega)).trans HK.out)
      have G5 := Lib.hid (HI.out.gr.trans Hgr5.out)
      clear HI HK Hown2 Hgood2 Hown5 Hgr5 hgp t0 t1 t2 t3 t4 u0 u1 u2 u3 u4 r0 r1 r2 r3 r4 q0 q1 q2 q3 q4 h0 h1 h2 h3 h4 h5 h6 h7 h8 h9 h10 cf T5a hrun
      have R6 := Lib.hid (R5.out.set5 fun i => (wd (Rs l s) i : Int))
      have g6 := Lib.hid (grown_set5 w5 (w.heap.size + 1) fun i => (wd (Rs l s) i : Int))
      generalize World.setCell _ _ _ = w6 at R6 g6 ⊢
      have SW6 := Lib.hid (SW5.out.kept g6.out (by omega) (by omega) (by omega))
      have K6 := Lib.hid ((g6.out.block D' (lt_of_block K5.out) (fun e => by cases e; omega)).trans K5.out)
      have G6 := Lib.hid (G5.out.andThen g6.out (fun j e => .inl (by cases e; omega)))
      clear R5 g6 SW5 K5 G5
      have g7 := Lib.hid (grownBy_putObj' w6 D' (.deferred none))
      have R7 := Lib.hid (R6.out.far g7.out (by omega))
      have SW7 := Lib.hid (SW6.out.kept g7.out (by omega) (by omega) (by omega))
      have G7 := Lib.hid (G6.out.andThen g7.out (fun j e => .inl (by cases e; omega)))
      refine ⟨by simp, .inl ⟨_, _, rfl, run_takeDeferred K6.out, ?_⟩⟩
      clear K6 g7
      generalize World.putObj _ _ _ = w7 at R7 SW7 G7 ⊢
      have r0 := R7.out.cell 0 (by omega)
      have r1 := R7.out.cell 1 (by omega)
      have r2 := R7.out.cell 2 (by omega)
      have r3 := R7.out.cell 3 (by omega)
      have r4 := R7.out.cell 4 (by omega)
      refine ⟨tval fun i => (wd (Rs l s) i : Int), by unfold tval; simp [results, Tryd.results50, go_sem, r0, r1, r2, r3, r4], rfl, SW7, G7⟩
    case stop =>
      rintro D' c pre W _ _ h _
      exact h.elim
  · have hfb : (s.f == l.fr) = false := by simpa using hf
    have hnf := Lib.hid hf
    clear hf
    obtain ⟨h0, h1, h2, h3, h4, h5, h6, h7, h8, h9, h10⟩ := RW2.out.gb.at
    gi_wp2_with fail
    refine ⟨trivial, (following_any _ l s w2).mono ?_⟩
    rintro e w3 ⟨rfl, rfl⟩
    gi_wp2_with fail
    have hbm : bm < w.heap.size := hown.out.lt
    have hz4 : w.heap.size + 3 < w2.heap.size := lt_of_block RW2.out.t.blk
    have RW3 := Lib.hid (RW2.out.step hbm hlt hlr (World.grownBy_alloc w2 (.cells #[.int .i64 l.fr, .int .i64 l.pn, .int .i64 l.bl, .int .i64 l.tp, .int .i64 s.f, .int .i64 s.b, .int .i64 s.s, .bool s.fresh, .bool s.more, .int .i64 s.x, .int .i64 s.y] 72) none) (fun r e => by cases e))
    have GB3 := Lib.hid (show GB (w2.alloc (.cells #[.int .i64 l.fr, .int .i64 l.pn, .int .i64 l.bl, .int .i64 l.tp, .int .i64 s.f, .int .i64 s.b, .int .i64 s.s, .bool s.fresh, .bool s.more, .int .i64 s.x, .int .i64 s.y] 72)) w2.heap.size l s from ⟨heap_alloc_new w2 _⟩)
    clear h0 h1 h2 h3 h4 h5 h6 h7 h8 h9 h10
    have hs3 : (w2.alloc (.cells #[.int .i64 l.fr, .int .i64 l.pn, .int .i64 l.bl, .int .i64 l.tp, .int .i64 s.f, .int .i64 s.b, .int .i64 s.s, .bool s.fresh, .bool s.more, .int .i64 s.x, .int .i64 s.y] 72)).heap.size = w2.heap.size + 1 := by simp
    generalize World.alloc w2 _ = w3 at RW3 GB3 hs3 ⊢
    have hs3' : w2.heap.size + 1 ≤ w3.heap.size := by omega
    have Hs3 := Lib.hid hs3
    clear hs3
    have p2 := ok.p2
    have v1 := v.s1
    have v2 := v.s2
    have v3 := v.x1
    have v4 := v.x2
    refine wpIn_rangeFunc_ownG rfl (by omega) (gf := 57) (lb := #[.pointer (some ⟨w2.heap.size, 0, none⟩)]) rfl trivial (enters_of Tryd.func57 (by kernel_rfl) rfl)
      (foll_stops (5 - 1) (by omega) l s w2.heap.size ok v1 (by omega) v3 (by omega) w3 GB3.out) (fun h k => KpB.t h k) (KpB.b (by omega)) (Below.refl _ _) (fun _ => rfl)
      (LI w l s bf br bm w3.heap.size)
      (fun _ _ _ => False)
      (LI.own hbm hlt hlr (by omega))
      (fun _ _ _ _ _ hs _ _ => hs)
      ⟨by simpa [part, hnf.out] using RW3.out, Nat.le_refl _⟩
      (fun (x : Ball s) => { tmps := #[.agg #[.int .i64 l.fr, .int .i64 l.pn, .int .i64 l.bl, .int .i64 l.tp, .int .i64 s.f, .int .i64 s.b, .int .i64 s.s, .bool s.fresh, .bool s.more, .int .i64 s.x, .int .i64 s.y],
          .pointer (some ⟨bf, 0, none⟩), .pointer (some ⟨br, 0, none⟩), .pointer (some ⟨w.heap.size, 0, none⟩), .pointer (some ⟨w.heap.size + 1, 0, none⟩), .pointer (some ⟨w.heap.size + 1 + 1, 0, none⟩), .bool false, .pointer (some ⟨w.heap.size + 1 + 1 + 1, 0, none⟩),
          .int .i64 x.1, .int .i64 (cnt l s x.1 * (1 + s.x)),
          .tuple #[.agg #[.int .u64 0, .int .u64 0, .int .u64 0, .int .u64 0, .int .u64 0], .bool false], .map (some bm), .pointer (some ⟨w.heap.size, 4, none⟩),
          .agg #[.int .i64 s.f, .int .i64 s.b, .int .i64 s.s, .bool s.fresh, .bool s.more, .int .i64 s.x, .int .i64 s.y],
          .tuple #[.agg #[.int .u64 0, .int .u64 0, .int .u64 0, .int .u64 0, .int .u64 0], .bool false], .agg #[.int .u64 0, .int .u64 0, .int .u64 0, .int .u64 0, .int .u64 0],
          .bool false, .bool false, undef, .bool false, undef,
          .agg #[.int .i64 l.fr, .int .i64 l.pn, .int .i64 l.bl, .int .i64 l.tp, .int .i64 s.f, .int .i64 s.b, .int .i64 s.s, .bool s.fresh, .bool s.more, .int .i64 s.x, .int .i64 s.y],
          .func (.func 57) #[] #[.pointer (some ⟨w2.heap.size, 0, none⟩)], .int .i64 x.1, .int .i64 (cnt l s x.1 * (1 + s.x)), undef, undef, undef, undef, undef, undef, undef, undef, undef, undef, undef, undef], defers := [] }) ?assign ?body ?done ?stop
    case assign =>
      intro lp x W K hK
      dsimp only [encs]
      gi_wp2
      exact hK
    case body =>
      rintro lp pre x W hI0 _
      have hB1 : Hid (BI w W W.drew l s bf br bm (part l s (pre.map fun k => k.1))) := Lib.hid ⟨hI0.1.drewN 1, (Kp2.refl _ _ _).grown (grown_drewN (World.grownBy.refl W none) 1) (fun r e => by cases e)⟩
      have hsz := hI0.2
      have cr := cell_of_one hI0.1.sw.cr
      obtain ⟨h0, h1, h2, h3, h4, h5, h6, h7, h8, h9, h10⟩ := hI0.1.gb.at
      have hx1 := x.2.1
      have hx2 := x.2.2
      have hmx : Tryd.prog.follows .mixedOrders = true := by kernel_rfl
      have hc := cnt_le ok v (by omega) hx2
      have hadd : cnt l s x.1 * (1 + s.x) = ((ad l s x.1 : Nat) : Int) := (Int.toNat_of_nonneg (Int.mul_nonneg hc.1 (by omega))).symm
      have hadl : ad l s x.1 < 64 := by
        have : cnt l s x.1 * (1 + s.x) ≤ 10 * 3 := Int.mul_le_mul (by omega) (by omega) (by omega) (by omega)
        unfold ad; omega
      have Hadd := Lib.hid hadd
      clear hadd hc
      clear hI0
      gi_wp2_with fail
      gi_region_with_o (first | (refine ⟨trivial, ?_⟩; gi_at_call 52; refine (CallsIn.inRound lp (callsIn_wide.2 (beh_bi ok hbm hlt hlr v hnf.out x.1 hx1 hx2 (by assumption)))).mono ?_; rintro e w' ⟨rfl, hb, cr'⟩) | (refine ⟨trivial, ?_⟩; gi_at_call 50; refine (CallsIn.inRound lp (callsIn_wide.2 (rest_bi ok hbm v hnf.out x.1 hx1 hx2 ih (by assumption)))).mono ?_; rintro e w' ⟨rfl, hb2⟩) | (refine ⟨trivial, ?_⟩; gi_at_call 49; refine (CallsIn.inRound lp (callsIn_wide.2 (join_bi hbm hlt hlr _ _ (ad l s x.1) Hadd.out hadl (by assumption)))).mono ?_; rintro e w' ⟨rfl, hb3⟩))
      all_goals
        first
        | exact end_ok (by assumption) (by omega) (by omega) (by omega) (by omega) (by omega) hsz
        | (gi_wp2_with fail; exact end_ok (by assumption) (by omega) (by omega) (by omega) (by omega) (by omega) hsz)
    case done =>
      rintro D' ys W hD hS ⟨hI, hsz⟩ hK
      have hpart : Hid (part l s (ys.map fun k => k.1) = Rs l s) := Lib.hid (by rw [Rs_eq ok s v, ← hS])
      rw [hpart.out] at hI
      have HI := Lib.hid hI
      have HK := Lib.hid hK
      have HD : w.heap.size + 4 ≤ D' := by omega
      clear hI hK hS hpart hD
      obtain ⟨D2, hown2, hgood2⟩ := HI.out.sw.mem
      have Hown2 := Lib.hid hown2
      have Hgood2 := Lib.hid hgood2
      clear hown2 hgood2
      obtain ⟨h0, h1, h2, h3, h4, h5, h6, h7, h8, h9, h10⟩ := HI.out.gb.at
      have cf := cell_of_one HI.out.sw.cf
      have t0 : W.cell? ⟨w.heap.size + 1 + 1 + 1, 0, none⟩ = some (.int .u64 (wd (Rs l s) 0 : Int)) := HI.out.t.cell 0 (by omega)
      have t1 : W.cell? ⟨w.heap.size + 1 + 1 + 1, 1, none⟩ = some (.int .u64 (wd (Rs l s) 1 : Int)) := HI.out.t.cell 1 (by omega)
      have t2 : W.cell? ⟨w.heap.size + 1 + 1 + 1, 2, none⟩ = some (.int .u64 (wd (Rs l s) 2 : Int)) := HI.out.t.cell 2 (by omega)
      have t3 : W.cell? ⟨w.heap.size + 1 + 1 + 1, 3, none⟩ = some (.int .u64 (wd (Rs l s) 3 : Int)) := HI.out.t.cell 3 (by omega)
      have t4 : W.cell? ⟨w.heap.size + 1 + 1 + 1, 4, none⟩ = some (.int .u64 (wd (Rs l s) 4 : Int)) := HI.out.t.cell 4 (by omega)
      obtain ⟨w5, hrun, hown5, hgr5⟩ := World.ownsMap.update Hown2.out law77 Tryd.underlying103 (by unfold maxLen; omega) hkey.out (tread_val fun i => (wd (Rs l s) i : Int))
      unfold Sd.val tval at hrun
      have Hown5 := Lib.hid hown5
      have Hgr5 := Lib.hid hgr5
      clear hown5 hgr5
      have hz4' : w.heap.size + 3 < W.heap.size := lt_of_block HI.out.t.blk
      have T5a := Lib.hid (HI.out.t.far Hgr5.out (by omega))
      have R5 := Lib.hid (HI.out.r.far Hgr5.out (by omega))
      have u0 : w5.cell? ⟨w.heap.size + 1 + 1 + 1, 0, none⟩ = some (.int .u64 (wd (Rs l s) 0 : Int)) := T5a.out.cell 0 (by omega)
      have u1 : w5.cell? ⟨w.heap.size + 1 + 1 + 1, 1, none⟩ = some (.int .u64 (wd (Rs l s) 1 : Int)) := T5a.out.cell 1 (by omega)
      have u2 : w5.cell? ⟨w.heap.size + 1 + 1 + 1, 2, none⟩ = some (.int .u64 (wd (Rs l s) 2 : Int)) := T5a.out.cell 2 (by omega)
      have u3 : w5.cell? ⟨w.heap.size + 1 + 1 + 1, 3, none⟩ = some (.int .u64 (wd (Rs l s) 3 : Int)) := T5a.out.cell 3 (by omega)
      have u4 : w5.cell? ⟨w.heap.size + 1 + 1 + 1, 4, none⟩ = some (.int .u64 (wd (Rs l s) 4 : Int)) := T5a.out.cell 4 (by omega)
      have r0 := R5.out.cell 0 (by omega)
      have r1 := R5.out.cell 1 (by omega)
      have r2 := R5.out.cell 2 (by omega)
      have r3 := R5.out.cell 3 (by omega)
      have r4 := R5.out.cell 4 (by omega)
      have q0 := R5.out.free 0
      have q1 := R5.out.free 1
      have q2 := R5.out.free 2
      have q3 := R5.out.free 3
      have q4 := R5.out.free 4
      gi_wp2_with fail
      have hgp := Hgood2.out.put ok v
      have SW5 : Hid (SW w5 l bf br bm) := Lib.hid ⟨(Hgr5.out.block bf (lt_of_block HI.out.sw.cf) (fun e => hne.1 (by cases e; rfl))).trans HI.out.sw.cf, (Hgr5.out.block br (lt_of_block HI.out.sw.cr) (fun e => hne.2 (by cases e; rfl))).trans HI.out.sw.cr, ⟨_, owns_size Hown5.out hgp.size, hgp⟩⟩
      have K5 : Hid (w5.heap[D']? = some (.deferred (some []))) := Lib.hid ((Hgr5.out.block D' (lt_of_block HK.out) (fun e => by cases e; omega)).trans HK.out)
      have G5 := Lib.hid (HI.out.gr.trans Hgr5.out)
      clear HI HK Hown2 Hgood2 Hown5 Hgr5 hgp t0 t1 t2 t3 t4 u0 u1 u2 u3 u4 r0 r1 r2 r3 r4 q0 q1 q2 q3 q4 h0 h1 h2 h3 h4 h5 h6 h7 h8 h9 h10 cf T5a hrun
      have R6 := Lib.hid (R5.out.set5 fun i => (wd (Rs l s) i : Int))
      have g6 := Lib.hid (grown_set5 w5 (w.heap.size + 1) fun i => (wd (Rs l s) i : Int))
      generalize World.setCell _ _ _ = w6 at R6 g6 ⊢
      have SW6 := Lib.hid (SW5.out.kept g6.out (by omega) (by omega) (by omega))
      have K6 := Lib.hid ((g6.out.block D' (lt_of_block K5.out) (fun e => by cases e; omega)).trans K5.out)
      have G6 := Lib.hid (G5.out.andThen g6.out (fun j e => .inl (by cases e; omega)))
      clear R5 g6 SW5 K5 G5
      have g7 := Lib.hid (grownBy_putObj' w6 D' (.deferred none))
      have R7 := Lib.hid (R6.out.far g7.out (by omega))
      have SW7 := Lib.hid (SW6.out.kept g7.out (by omega) (by omega) (by omega))
      have G7 := Lib.hid (G6.out.andThen g7.out (fun j e => .inl (by cases e; omega)))
      refine ⟨by simp, .inl ⟨_, _, rfl, run_takeDeferred K6.out, ?_⟩⟩
      clear K6 g7
      generalize World.putObj _ _ _ = w7 at R7 SW7 G7 ⊢
      have r0 := R7.out.cell 0 (by omega)
      have r1 := R7.out.cell 1 (by omega)
      have r2 := R7.out.cell 2 (by omega)
      have r3 := R7.out.cell 3 (by omega)
      have r4 := R7.out.cell 4 (by omega)
      refine ⟨tval fun i => (wd (Rs l s) i : Int), by unfold tval; simp [results, Tryd.results50, go_sem, r0, r1, r2, r3, r4], rfl, SW7, G7⟩
    case stop =>
      rintro D' c pre W _ _ h _
      exact h.elim

end Go.Proofs.YtmjbidnlknmcgabDoor
