/- The contract of the search, whole. The contracts of the checks, of a new game, of the search and of the final counts. The contract of the membership of a set. The first ending that makes the count greater by just so much, as a list; and an append of nothing. The contract of an ending: one step. -/
import Derived.Test.YtmjbidnlknmcgabDoorLR
import Derived.Test.YtmjbidnlknmcgabDoorLM
import Derived.Deep.RegionWith
import Derived.Laws.EntriesVeiled
import Derived.OwnWalkIn
import Derived.Maps.OwnIn
import Derived.RangeFuncBox
import Derived.Maps.Range
import Derived.Sort.CutIn
set_option linter.unusedVariables false
set_option linter.unusedSimpArgs false
namespace Go.Proofs.YtmjbidnlknmcgabDoor
open Go.RowKit Go.Maps

/-- What the search promises. -/
def RestOK (l : Lw) (bf br bm : Nat) : Prop := ∀ (s : Sd) (w : World), Vd l s → SW w l bf br bm →
  Calls Tryd.prog 50 #[gval l s, .pointer (some ⟨bf, 0, none⟩), .pointer (some ⟨br, 0, none⟩)] w fun e w' =>
    e = .returned (tval fun i => (wd (Rs l s) i : Int)) ∧ Hid (SW w' l bf br bm) ∧ Hid (w.grownBy w' (some bm))

theorem rest_upto (l : Lw) (ok : l.Ok) (bf br bm : Nat) : ∀ (N : Nat) (s : Sd) (w : World), mu l s < N → Vd l s → SW w l bf br bm →
    Calls Tryd.prog 50 #[gval l s, .pointer (some ⟨bf, 0, none⟩), .pointer (some ⟨br, 0, none⟩)] w fun e w' =>
      e = .returned (tval fun i => (wd (Rs l s) i : Int)) ∧ Hid (SW w' l bf br bm) ∧ Hid (w.grownBy w' (some bm)) := by
  intro N
  induction N with
  | zero => intro s w h; omega
  | succ N ih =>
    intro s w h v sw
    obtain ⟨D, hown, hg⟩ := sw.mem
    cases hh : Maps.has D (kl s)
    · exact callsIn_wide.1 (rest_miss l ok bf br bm s w v D (Lib.hid hown) (Lib.hid hg) (Lib.hid sw) hh (Lib.hid (fun s' w' hs v' sw' => ih s' w' (by omega) v' sw')))
    · refine (callsIn_wide.1 (rest_hit l ok bf br bm s w v D (Lib.hid hown) (Lib.hid hg) sw.cf hh)).mono ?_
      rintro e w' ⟨rfl, hb⟩
      have hr := below_row hb.out
      exact ⟨rfl, Lib.hid (sw.below hr), Lib.hid ⟨hr.os, hr.tape, hr.output, hr.size, fun k hk _ => hb.out.block k hk⟩⟩

theorem rest_ok (l : Lw) (ok : l.Ok) (bf br bm : Nat) : RestOK l bf br bm := fun s w v sw => rest_upto l ok bf br bm (mu l s + 1) s w (by omega) v sw

end Go.Proofs.YtmjbidnlknmcgabDoor

namespace Go.Proofs.YtmjbidnlknmcgabDoor
open Go.RowKit Go.Maps

set_option maxRecDepth 100000 in
set_option maxHeartbeats 1000000 in
theorem checkLaw_any (l : Lw) (w : World) :
    Calls Tryd.prog 45 #[l.val] w fun e w' => e = .returned (.int .i64 (if okB l = true then 0 else 1)) ∧ Below w.heap.size w w' := by
  have hv := fun w => valid_any l w
  unfold Lw.val at hv ⊢
  cases hb : okB l
  all_goals
    rw [hb] at hv
    have HV := Lib.hid hv
    clear hv hb
    go_enter Tryd.func45, Tryd.ntmps45
    go_wp2_with fail
    refine (HV.out _).mono ?_
    rintro e w' ⟨rfl, hw⟩
    have HW := Lib.hid hw
    clear hw
    go_wp2_with fail
    go_ret
    exact ⟨rfl, ((Below.refl w.heap.size w).alloc (Nat.le_refl _) _).trans (HW.out.mono (by simp))⟩

set_option maxHeartbeats 400000 in
theorem short_any (a : Option Addr) (n c : Nat) (w : World) :
    Calls Tryd.prog 43 #[.slice a n c] w fun e w' => e = .returned (.bool (decide (n ≤ 40))) ∧ w = w' := by
  go_enter Tryd.func43, Tryd.ntmps43
  go_wp2_with fail
  go_ret
  exact ⟨congrArg Ending.returned (congrArg Value.bool (by simp; omega)), rfl⟩

/-- The error of a law and a sheet of so many balls. -/
def errS (l : Lw) (n : Nat) : Int := if okB l = true then (if n ≤ 40 then 0 else 3) else 1

set_option maxRecDepth 100000 in
set_option maxHeartbeats 1000000 in
theorem checkSheet_any (l : Lw) (a : Option Addr) (n c : Nat) (w : World) :
    Calls Tryd.prog 31 #[l.val, .slice a n c] w fun e w' => e = .returned (.int .i64 (errS l n)) ∧ Below w.heap.size w w' := by
  have hv := fun w => checkLaw_any l w
  have hs := fun w => short_any a n c w
  unfold Lw.val at hv ⊢
  unfold errS
  cases hb : okB l
  · rw [hb] at hv
    have HV := Lib.hid hv
    clear hv hb hs
    go_enter Tryd.func31, Tryd.ntmps31
    go_wp2_with fail
    refine (HV.out _).mono ?_
    rintro e w' ⟨rfl, hw⟩
    have HW := Lib.hid hw
    clear hw
    go_wp2_with fail
    go_ret
    exact ⟨rfl, ((Below.refl w.heap.size w).alloc (Nat.le_refl _) _).trans (HW.out.mono (by simp))⟩
  · rw [hb] at hv
    have HV := Lib.hid hv
    clear hv hb
    by_cases hn : n ≤ 40
    · rw [show decide (n ≤ 40) = true from by simpa using hn] at hs
      have HN := Lib.hid hn
      have HS := Lib.hid hs
      clear hn hs
      go_enter Tryd.func31, Tryd.ntmps31
      go_wp2_with fail
      refine (HV.out _).mono ?_
      rintro e w' ⟨rfl, hw⟩
      have HW := Lib.hid hw
      clear hw
      go_wp2_with fail
      refine (HS.out _).mono ?_
      rintro e w2 ⟨rfl, rfl⟩
      go_wp2_with fail
      go_ret
      exact ⟨rfl, ((Below.refl w.heap.size w).alloc (Nat.le_refl _) _).trans (HW.out.mono (by simp))⟩
    · rw [show decide (n ≤ 40) = false from by simpa using hn] at hs
      have HN := Lib.hid hn
      have HS := Lib.hid hs
      clear hn hs
      go_enter Tryd.func31, Tryd.ntmps31
      go_wp2_with fail
      refine (HV.out _).mono ?_
      rintro e w' ⟨rfl, hw⟩
      have HW := Lib.hid hw
      clear hw
      go_wp2_with fail
      refine (HS.out _).mono ?_
      rintro e w2 ⟨rfl, rfl⟩
      go_wp2_with fail
      go_ret
      exact ⟨rfl, ((Below.refl w.heap.size w).alloc (Nat.le_refl _) _).trans (HW.out.mono (by simp))⟩

def begS (l : Lw) : Sd := ⟨0, 0, l.pn, true, false, 0, 0⟩

set_option maxRecDepth 100000 in
set_option maxHeartbeats 1000000 in
theorem begin_any (l : Lw) (w : World) :
    Calls Tryd.prog 46 #[l.val] w fun e w' => e = .returned (gval l (begS l)) ∧ Below w.heap.size w w' := by
  unfold Lw.val gval begS
  go_enter Tryd.func46, Tryd.ntmps46
  go_wp2_with fail
  refine bodyPost_ret (v := .agg #[.int .i64 l.fr, .int .i64 l.pn, .int .i64 l.bl, .int .i64 l.tp, .int .i64 0, .int .i64 0, .int .i64 l.pn, .bool true, .bool false, .int .i64 0, .int .i64 0]) (by simp [results, Tryd.results46, go_sem]) rfl ⟨rfl, ?_⟩
  exact ((Below.refl _ _).alloc (Nat.le_refl _) _).alloc (by simp) _

set_option maxRecDepth 100000 in
set_option maxHeartbeats 1000000 in
theorem search_any (l : Lw) (w : World) :
    Calls Tryd.prog 34 #[] w fun e w' => e = .returned (.func (.func 50) #[] #[.pointer (some ⟨w.heap.size + 1, 0, none⟩), .pointer (some ⟨w.heap.size + 1 + 1, 0, none⟩)]) ∧
      SW w' l (w.heap.size + 1) (w.heap.size + 2) w.heap.size ∧ Below w.heap.size w w' := by
  have hmm := @run_makeMap Tryd.prog
  go_enter Tryd.func34, Tryd.ntmps34
  go_wp2_with fail
  go_ret
  refine ⟨rfl, ⟨?_, ?_, ?_⟩, (((Below.refl _ _).alloc (Nat.le_refl _) _).alloc (by simp) _).alloc (by simp; omega) _⟩
  · have := heap_alloc_new (w.alloc (.map #[] 0)) (.cells #[.map (some w.heap.size)] 103)
    rw [World.size_alloc] at this
    exact (Below.heap_alloc _ _ _ (by simp)).trans this
  · have := heap_alloc_new ((w.alloc (.map #[] 0)).alloc (.cells #[.map (some w.heap.size)] 103)) (.cells #[.func (.func 50) #[] #[.pointer (some ⟨w.heap.size + 1, 0, none⟩), .pointer (some ⟨w.heap.size + 1 + 1, 0, none⟩)]] 84)
    simp only [World.size_alloc] at this
    exact this
  · exact ⟨_, (((World.ownsMap_made w Tryd.prog 70 tread).mono (by omega)).alloc _).alloc _, good_empty l⟩

/-- A record lies at the head of block b. -/
structure RecAt (w : World) (b : Nat) (l : Lw) (s : Sd) (tot : Int) : Prop where
  game : GameAt w b l s
  c13 : w.cell? ⟨b, 13, none⟩ = some (.int .i64 tot)

/-- Where the final counts are reckoned: the record, the two new sets, the search's variables. -/
structure FI (w W : World) (b : Nat) (l : Lw) (s : Sd) (tot : Int) (bf br bm N : Nat) : Prop where
  rcd : RecAt W b l s tot
  r : T5 W w.heap.size (fun _ => 0)
  t : T5 W (w.heap.size + 1) (fun i => (wd N i : Int))
  sw : SW W l bf br bm
  gr : w.grownBy W (some bm)

theorem GameAt.far {w w' : World} {b c : Nat} {l : Lw} {s : Sd} (h : GameAt w b l s) (hg : w.grownBy w' (some c)) (hne : b ≠ c) : GameAt w' b l s := by
  obtain ⟨h0, h1, h2, h3, h4, h5, h6, h7, h8, h9, h10⟩ := h
  have ne : some b ≠ some c := fun e => hne (by cases e; rfl)
  exact ⟨hg.cell h0 ne, hg.cell h1 ne, hg.cell h2 ne, hg.cell h3 ne, hg.cell h4 ne, hg.cell h5 ne, hg.cell h6 ne, hg.cell h7 ne, hg.cell h8 ne, hg.cell h9 ne, hg.cell h10 ne⟩

theorem RecAt.far {w w' : World} {b c : Nat} {l : Lw} {s : Sd} {tot : Int} (h : RecAt w b l s tot) (hg : w.grownBy w' (some c)) (hne : b ≠ c) : RecAt w' b l s tot :=
  ⟨h.game.far hg hne, hg.cell h.c13 (fun e => hne (by cases e; rfl))⟩

theorem rest_fi {w W : World} {b : Nat} {l : Lw} {s : Sd} {tot : Int} {bf br bm N : Nat} (v : Vd l s) (hbb : b ≠ bm) (hbm : bm < w.heap.size) (hr : Hid (RestOK l bf br bm)) (h : Hid (FI w W b l s tot bf br bm N)) :
    Calls Tryd.prog 50 #[.agg #[.int .i64 l.fr, .int .i64 l.pn, .int .i64 l.bl, .int .i64 l.tp, .int .i64 s.f, .int .i64 s.b, .int .i64 s.s, .bool s.fresh, .bool s.more, .int .i64 s.x, .int .i64 s.y], .pointer (some ⟨bf, 0, none⟩), .pointer (some ⟨br, 0, none⟩)] W fun e W' =>
      e = .returned (tval fun i => (wd (Rs l s) i : Int)) ∧ Hid (FI w W' b l s tot bf br bm N) ∧ W'.cell? ⟨b, 13, none⟩ = some (.int .i64 tot) := by
  refine (hr.out s W v h.out.sw).mono ?_
  rintro e W' ⟨rfl, hs, hg⟩
  have f := h.out
  have hrec := f.rcd.far hg.out hbb
  exact ⟨rfl, Lib.hid ⟨hrec, f.r.far hg.out (by omega), f.t.far hg.out (by omega), hs.out, f.gr.trans hg.out⟩, hrec.c13⟩

theorem join_fi {w W : World} {b : Nat} {l : Lw} {s : Sd} {tot : Int} {bf br bm N : Nat} (hb : b < w.heap.size) (hbf : bf < w.heap.size) (hbr : br < w.heap.size) (hbm : bm < w.heap.size) (M q r : Nat) (ht : tot = ((q * 64 + r : Nat) : Int)) (hr : r < 64) (hq : q ≤ 4) (h : Hid (FI w W b l s tot bf br bm N)) :
    Calls Tryd.prog 49 #[.pointer (some ⟨w.heap.size + 1, 0, none⟩), tval fun i => (wd M i : Int), .int .i64 tot] W fun e W' =>
      e = .returned (.tuple #[]) ∧ Hid (FI w W' b l s tot bf br bm (N ||| M <<< (q * 64 + r))) := by
  have f := h.out
  have := join_any (w.heap.size + 1) (wd N) (wd M) q r W f.t hr hq (wd_lt N) (wd_lt M)
  rw [← ht] at this
  refine this.mono ?_
  rintro e W' ⟨rfl, ht, hg⟩
  have e1 : (fun i => ((jn (wd N) (wd M) q r i : Nat) : Int)) = fun i => (wd (N ||| M <<< (q * 64 + r)) i : Int) := by
    funext i; rw [jn_wd _ _ _ _ _ hr]
  refine ⟨rfl, Lib.hid ⟨f.rcd.far hg.out (by omega), f.r.far hg.out (by omega), by rw [← e1]; exact ht.out, f.sw.kept hg.out (by omega) (by omega) (by omega), f.gr.andThen hg.out (fun j e => .inl (by cases e; omega))⟩⟩

theorem FI.drewN {w W : World} {b : Nat} {l : Lw} {s : Sd} {tot : Int} {bf br bm N : Nat} (h : FI w W b l s tot bf br bm N) (n : Nat) : FI w (W.drewN n) b l s tot bf br bm N :=
  ⟨⟨h.rcd.game.drewN n, by simpa using h.rcd.c13⟩, h.r.drewN n, h.t.drewN n, h.sw.below (grown_drewN (World.grownBy.refl _ _) n), grown_drewN h.gr n⟩

theorem FI.start {w : World} {b : Nat} {l : Lw} {s : Sd} {tot : Int} {bf br bm : Nat} (h : RecAt w b l s tot) (sw : SW w l bf br bm) :
    FI w ((w.alloc (.cells #[.int .u64 0, .int .u64 0, .int .u64 0, .int .u64 0, .int .u64 0] 82)).alloc (.cells #[.int .u64 0, .int .u64 0, .int .u64 0, .int .u64 0, .int .u64 0] 82)) b l s tot bf br bm 0 := by
  have g1 := World.grownBy_alloc w (.cells #[.int .u64 0, .int .u64 0, .int .u64 0, .int .u64 0, .int .u64 0] 82) none
  have g2 := g1.trans (World.grownBy_alloc _ (.cells #[.int .u64 0, .int .u64 0, .int .u64 0, .int .u64 0, .int .u64 0] 82) none)
  obtain ⟨⟨h0, h1, h2, h3, h4, h5, h6, h7, h8, h9, h10⟩, h13⟩ := h
  have ne : some b ≠ none := fun e => by cases e
  refine ⟨⟨⟨g2.cell h0 ne, g2.cell h1 ne, g2.cell h2 ne, g2.cell h3 ne, g2.cell h4 ne, g2.cell h5 ne, g2.cell h6 ne, g2.cell h7 ne, g2.cell h8 ne, g2.cell h9 ne, g2.cell h10 ne⟩, g2.cell h13 ne⟩, T5.alloc (g := fun _ => 0) ⟨heap_alloc_new w _⟩ _, ⟨?_⟩, sw.below g2, (World.grownBy_alloc w _ _).trans (World.grownBy_alloc _ _ _)⟩
  simp only [wd_zero]
  have := heap_alloc_new (w.alloc (.cells #[.int .u64 0, .int .u64 0, .int .u64 0, .int .u64 0, .int .u64 0] 82)) (.cells #[.int .u64 0, .int .u64 0, .int .u64 0, .int .u64 0, .int .u64 0] 82)
  rw [World.size_alloc] at this
  exact this

set_option maxRecDepth 100000 in
set_option maxHeartbeats 2000000 in
theorem finals_any (b : Nat) (l : Lw) (s : Sd) (tot : Int) (bf br bm q r : Nat) (w : World) (v : Vd l s) (hr : Hid (RestOK l bf br bm)) (h : RecAt w b l s tot) (sw : SW w l bf br bm) (hbb : b ≠ bm) (hb : b < w.heap.size)
    (ht : tot = ((q * 64 + r : Nat) : Int)) (hr64 : r < 64) (hq : q ≤ 4) :
    Calls Tryd.prog 33 #[.pointer (some ⟨b, 0, none⟩), .func (.func 50) #[] #[.pointer (some ⟨bf, 0, none⟩), .pointer (some ⟨br, 0, none⟩)]] w fun e w' =>
      e = .returned (tval fun i => (wd (Rs l s <<< (q * 64 + r)) i : Int)) ∧ Hid (SW w' l bf br bm) ∧ Hid (w.grownBy w' (some bm)) := by
  have F0 := Lib.hid (FI.start h sw)
  have hbf := lt_of_block sw.cf
  have hbr := lt_of_block sw.cr
  have hbm : bm < w.heap.size := by obtain ⟨D, hD, _⟩ := sw.mem; exact hD.lt
  have T := Lib.hid ht
  clear ht h sw
  go_enter Tryd.func33, Tryd.ntmps33
  go_wp2_with fail
  generalize World.alloc (World.alloc w _) _ = w1 at F0 ⊢
  have F1 := Lib.hid (F0.out.drewN 1)
  have F2 : Hid (FI w w1.drew b l s tot bf br bm 0) := F1
  obtain ⟨⟨h0, h1, h2, h3, h4, h5, h6, h7, h8, h9, h10⟩, h13⟩ := F0.out.rcd
  clear F0 F1
  go_region_with (first | (go_at_call 50; refine (rest_fi v hbb hbm hr (by assumption)).mono ?_; rintro e w' ⟨rfl, hf, h13'⟩) | (go_at_call 49; refine (join_fi hb hbf hbr hbm _ q r T.out hr64 hq (by assumption)).mono ?_; rintro e w' ⟨rfl, hf2⟩))
  all_goals
    have F := hf2
    clear hf2 hf h0 h1 h2 h3 h4 h5 h6 h7 h8 h9 h10 h13 F2
    have e0 : 0 ||| Rs l s <<< (q * 64 + r) = Rs l s <<< (q * 64 + r) := Nat.zero_or _
    rw [e0] at F
    clear e0
    obtain ⟨N, hN⟩ : ∃ N, Hid (N = Rs l s <<< (q * 64 + r)) := ⟨_, Lib.hid rfl⟩
    rw [← hN.out] at F
    obtain ⟨g, hg⟩ : ∃ g : Nat → Int, Hid (g = fun i => (wd N i : Int)) := ⟨_, Lib.hid rfl⟩
    have T := Lib.hid (show T5 w' (w.heap.size + 1) g from by rw [hg.out]; exact F.out.t)
    have t0 := T.out.cell 0 (by omega)
    have t1 := T.out.cell 1 (by omega)
    have t2 := T.out.cell 2 (by omega)
    have t3 := T.out.cell 3 (by omega)
    have t4 := T.out.cell 4 (by omega)
    have r0 := F.out.r.cell 0 (by omega)
    have r1 := F.out.r.cell 1 (by omega)
    have r2 := F.out.r.cell 2 (by omega)
    have r3 := F.out.r.cell 3 (by omega)
    have r4 := F.out.r.cell 4 (by omega)
    have q0 := F.out.r.free 0
    have q1 := F.out.r.free 1
    have q2 := F.out.r.free 2
    have q3 := F.out.r.free 3
    have q4 := F.out.r.free 4
    go_wp2_with fail
    have R6 := Lib.hid (F.out.r.set5 g)
    have g6 := Lib.hid (grown_set5 w' w.heap.size g)
    have SW6 := Lib.hid (F.out.sw.kept g6.out (by omega) (by omega) (by omega))
    have G6 := Lib.hid (F.out.gr.andThen g6.out (fun j e => .inl (by cases e; omega)))
    clear r0 r1 r2 r3 r4 q0 q1 q2 q3 q4 t0 t1 t2 t3 t4
    generalize World.setCell _ _ _ = w6 at R6 SW6 G6 ⊢
    have r0 := R6.out.cell 0 (by omega)
    have r1 := R6.out.cell 1 (by omega)
    have r2 := R6.out.cell 2 (by omega)
    have r3 := R6.out.cell 3 (by omega)
    have r4 := R6.out.cell 4 (by omega)
    refine bodyPost_ret (v := tval g) (by unfold tval; simp [results, Tryd.results33, go_sem, r0, r1, r2, r3, r4]) rfl ⟨by rw [hg.out, hN.out], SW6, G6⟩

end Go.Proofs.YtmjbidnlknmcgabDoor

namespace Go.Proofs.YtmjbidnlknmcgabDoor
open Go.RowKit

def hasB (N : Nat) (n : Int) : Bool := decide (0 ≤ n) && decide (n ≤ 300) && N.testBit n.toNat

theorem has_bit (N q r : Nat) (hr : r < 64) : (bits BinOp.and IntKind.u64 (((wd N q : Nat) : Int) / 2 ^ r) 1 == 1) = N.testBit (q * 64 + r) := by
  have e : ((wd N q : Nat) : Int) / 2 ^ r = ((wd N q / 2 ^ r : Nat) : Int) := by simp
  have hd : wd N q / 2 ^ r < 2 ^ 64 := Nat.lt_of_le_of_lt (Nat.div_le_self _ _) (wd_lt N q)
  have ha : bits BinOp.and IntKind.u64 ((wd N q / 2 ^ r : Nat) : Int) ((1 : Nat) : Int) = (((wd N q / 2 ^ r) &&& 1 : Nat) : Int) := bits_and_u64_nat _ _ hd (by decide)
  rw [e]
  rw [show (1 : Int) = ((1 : Nat) : Int) from rfl, ha]
  have hb := wd_bit N q r
  rw [show (decide (r < 64)) = true from by simp [hr], Bool.true_and, Nat.mul_comm] at hb
  rw [← hb, Nat.testBit_eq_decide_div_mod_eq, Nat.and_one_is_mod]
  generalize wd N q / 2 ^ r % 2 = x
  by_cases hx : x = 1
  · subst hx; rfl
  · rw [show decide (x = 1) = false from by simp [hx]]
    simp
    omega

set_option maxRecDepth 100000 in
set_option maxHeartbeats 2000000 in
theorem has_any (N : Nat) (n : Int) (w : World) :
    Calls Tryd.prog 36 #[tval (fun i => ((wd N i : Nat) : Int)), .int .i64 n] w fun e w' => e = .returned (.bool (hasB N n)) ∧ Below w.heap.size w w' := by
  obtain ⟨g, hg⟩ : ∃ g : Nat → Int, Hid (∀ i, g i = ((wd N i : Nat) : Int)) := ⟨_, Lib.hid (fun _ => rfl)⟩
  simp only [← hg.out]
  unfold tval
  by_cases h0 : 0 ≤ n
  · by_cases h3 : n ≤ 300
    · obtain ⟨q, r, hqr, hq, hr⟩ : ∃ q r : Nat, n = ((q * 64 + r : Nat) : Int) ∧ q ≤ 4 ∧ r < 64 := ⟨n.toNat / 64, n.toNat % 64, by omega, by omega, by omega⟩
      have d1 : n / 64 = q := by omega
      have d2 : n % 64 = r := by omega
      have d3 : n.tdiv 64 = q := by rw [Int.tdiv_eq_ediv_of_nonneg h0]; exact d1
      have d4 : n.tmod 64 = r := by rw [Int.tmod_eq_emod_of_nonneg h0]; exact d2
      have hH := Lib.hid (show hasB N n = N.testBit (q * 64 + r) from by unfold hasB; rw [show n.toNat = q * 64 + r from by omega]; simp [h0, h3])
      have e2 : IntKind.i64.wrap (q : Int) = q := IntWalk.i64_in _ (by omega)
      have e3 : IntKind.i64.wrap (r : Int) = r := IntWalk.i64_in _ (by omega)
      have T := (show T5 (w.alloc (.cells #[.int .u64 (g 0), .int .u64 (g 1), .int .u64 (g 2), .int .u64 (g 3), .int .u64 (g 4)] 82)) w.heap.size g from ⟨heap_alloc_new w _⟩)
      have c1 := T.cell q (by omega)
      have hq5 : (q : Int) < 5 := by omega
      have hq0 : (0 : Int) ≤ (q : Int) := by omega
      have hr0 : (0 : Int) ≤ (r : Int) := by omega
      have hr64 : (r : Int) < 64 := by omega
      have hHB : Hid (Below w.heap.size w (w.alloc (.cells #[.int .u64 (g 0), .int .u64 (g 1), .int .u64 (g 2), .int .u64 (g 3), .int .u64 (g 4)] 82))) := Lib.hid ((Below.refl _ _).alloc (Nat.le_refl _) _)
      clear T hqr
      go_enter Tryd.func36, Tryd.ntmps36
      go_wp2_with fail
      rw [hg.out q, has_bit N q r (by omega), ← hH.out]
      go_ret
      exact ⟨rfl, hHB.out⟩
    · have hH := Lib.hid (show hasB N n = false from by unfold hasB; simp [h3])
      go_enter Tryd.func36, Tryd.ntmps36
      go_wp2_with fail
      go_ret
      exact ⟨by rw [hH.out]; first | done | rfl, (Below.refl _ _).alloc (Nat.le_refl _) _⟩
  · have hH := Lib.hid (show hasB N n = false from by unfold hasB; simp [h0])
    go_enter Tryd.func36, Tryd.ntmps36
    go_wp2_with fail
    go_ret
    exact ⟨by rw [hH.out]; first | done | rfl, (Below.refl _ _).alloc (Nat.le_refl _) _⟩

end Go.Proofs.YtmjbidnlknmcgabDoor

namespace Go.Proofs.YtmjbidnlknmcgabDoor
open Go.RowKit

/-- Can the game go on with this ball? -/
def hitB (l : Lw) (s : Sd) (n k : Int) : Bool := hasB (Rs l (behS l s k)) (n - cnt l s k * (1 + s.x))

def endN : Nat → Lw → Sd → Int → List Int
  | 0, _, _, _ => []
  | N + 1, l, s, n => match (allB l s).find? (hitB l s n) with
    | none => []
    | some k => k :: endN N l (behS l s k) (n - cnt l s k * (1 + s.x))

def endL (l : Lw) (s : Sd) (n : Int) : List Int := endN (mu l s + 1) l s n

theorem endN_stable {l : Lw} (ok : l.Ok) : ∀ (N : Nat) (s : Sd) (n : Int), Vd l s → mu l s < N → endN N l s n = endN (N + 1) l s n := by
  intro N
  induction N with
  | zero => intro s n _ h; omega
  | succ N ih =>
    intro s n v h
    rw [endN, endN]
    cases hf : (allB l s).find? (hitB l s n) with
    | none => rfl
    | some k =>
      obtain ⟨h0, h1, h2⟩ := mem_allB (List.mem_of_find?_eq_some hf)
      have b := beh_vd (k := k) ok v (by have := v.f2; omega) (by omega) (by have := v.s1; omega)
      show k :: _ = k :: _
      rw [ih _ _ b.1 (by omega)]

theorem endN_endL {l : Lw} (ok : l.Ok) (s : Sd) (n : Int) (v : Vd l s) : ∀ N, mu l s < N → endN N l s n = endL l s n := by
  intro N h
  obtain ⟨d, rfl⟩ : ∃ d, N = mu l s + 1 + d := ⟨N - (mu l s + 1), by omega⟩
  clear h
  induction d with
  | zero => rfl
  | succ d ih => rw [← ih]; exact (endN_stable ok (mu l s + 1 + d) s n v (by omega)).symm

theorem endL_none {l : Lw} {s : Sd} {n : Int} (h : (allB l s).find? (hitB l s n) = none) : endL l s n = [] := by
  rw [endL, endN, h]

theorem endL_some {l : Lw} {s : Sd} {n k : Int} (ok : l.Ok) (v : Vd l s) (h : (allB l s).find? (hitB l s n) = some k) :
    endL l s n = k :: endL l (behS l s k) (n - cnt l s k * (1 + s.x)) := by
  rw [endL, endN, h]
  show k :: _ = k :: _
  obtain ⟨h0, h1, h2⟩ := mem_allB (List.mem_of_find?_eq_some h)
  have b := beh_vd (k := k) ok v (by have := v.f2; omega) (by omega) (by have := v.s1; omega)
  rw [endN_endL ok _ _ b.1 _ (by omega)]

theorem endN_len (l : Lw) : ∀ (N : Nat) (s : Sd) (n : Int), (endN N l s n).length ≤ N
  | 0, _, _ => by simp [endN]
  | N + 1, s, n => by
    rw [endN]
    split
    · simp
    · rename_i k _
      have := endN_len l N (behS l s k) (n - cnt l s k * (1 + s.x))
      simp only [List.length_cons]
      omega

theorem mu_le {l : Lw} {s : Sd} (ok : l.Ok) (v : Vd l s) : mu l s ≤ 30 := by
  have h1 := v.f1
  have h2 := v.b1
  have h3 := ok.f2
  unfold mu
  omega

theorem endL_len {l : Lw} {s : Sd} (n : Int) (ok : l.Ok) (v : Vd l s) : (endL l s n).length ≤ 31 := by
  have h1 := endN_len l (mu l s + 1) s n
  have h2 := mu_le ok v
  unfold endL
  omega

theorem hasB_bd {N : Nat} {n : Int} (h : hasB N n = true) : 0 ≤ n ∧ n ≤ 300 := by
  unfold hasB at h
  simp at h
  omega

section
variable {P : Program} (w : World)

theorem run_append_none (base : Nat) (t ty e : TypeId) (i : TypeInfo) (size : Nat) (ht : P.underlying t = some (.slice e)) (hi : P.info? e = some i)
    (v : Value) (n : Nat) (xs : List Value) (hown : w.ownsRow base e size v n xs) :
    (Builtin.append_ #[t, t] ty #[v, .slice none 0 0]).run P w = .ok v w := by
  rcases hown.2 with ⟨rfl, rfl⟩ | ⟨g, cap, cur, rfl, hbg, hg, hnc, hcm, hcs, htake⟩
  · simp [Builtin.append_, run_underlying ht, sizeOf, typeInfo, hi, Builtin.lenOf, Builtin.firstCells, loadCells, loadCellsFrom]
  · simp [Builtin.append_, run_underlying ht, sizeOf, typeInfo, hi, Builtin.lenOf, Builtin.firstCells, loadCells, loadCellsFrom, hnc, storeCells]

theorem wpList_append_none {ops : Array Oper} {rest : List Oper} {o : Oper} {a : Act} {Q : Exit → Act → World → Prop} (hgd : o.guard = none) (s x : Operand) (t : TypeId)
    (ho : o.op = .call { callee := .builtin .append, args := #[s, x], argTypes := #[t, t] })
    (base : Nat) (e : TypeId) (i : TypeInfo) (size : Nat) (ht : P.underlying t = some (.slice e)) (hi : P.info? e = some i)
    (v : Value) (n : Nat) (xs : List Value) (hs : a.eval s = v) (hown : w.ownsRow base e size v n xs) (hx : a.eval x = .slice none 0 0)
    (h : wpList P ops Q rest (a.put o.dst v) w) :
    wpList P ops Q (o :: rest) a w := by
  refine wpList_plain hgd fun K hK => ?_
  have hr := run_append_none (P := P) w base t o.type e i size ht hi v n xs hown
  unfold Oper.wp execOp
  simp only [ho, resolve, invoke, builtin, Sem.run_bind, Sem.run_pure, Result.andThen_ok, List.map_toArray, List.map_cons, List.map_nil, hs, hx, hr]
  exact hK _ _ h

theorem wpListIn_append_none {F : Fence} {nF : Nat} {ops : Array Oper} {rest : List Oper} {o : Oper} {a : Act} {Q : Exit → Act → World → Prop} (hgd : o.guard = none) (s x : Operand) (t : TypeId)
    (ho : o.op = .call { callee := .builtin .append, args := #[s, x], argTypes := #[t, t] })
    (base : Nat) (e : TypeId) (i : TypeInfo) (size : Nat) (ht : P.underlying t = some (.slice e)) (hi : P.info? e = some i)
    (v : Value) (n : Nat) (xs : List Value) (hs : a.eval s = v) (hown : w.ownsRow base e size v n xs) (hx : a.eval x = .slice none 0 0)
    (h : wpListIn F nF P ops Q rest (a.put o.dst v) w) :
    wpListIn F nF P ops Q (o :: rest) a w := by
  refine wpListIn_plain hgd fun K hK => ?_
  have hr := run_append_none (P := P) w base t o.type e i size ht hi v n xs hown
  unfold Oper.wpIn
  refine ⟨by simp [Oper.about, ho, resolve, Target.leads, Sem.run_pure], ?_⟩
  rw [Oper.semAt_plain F _ _ (by rw [ho]; intro c hc'; cases hc')]
  simp [execOp, ho, resolve, invoke, builtin, hs, hx, hr, Result.andThen]
  exact hK _ _ h
end

end Go.Proofs.YtmjbidnlknmcgabDoor

namespace Go.Proofs.YtmjbidnlknmcgabDoor
open Go.RowKit Go.Shelf Go.Maps
attribute [local go_sem] Oper.semAt_some

/-- The search, as a value. -/
abbrev fnv (bf br : Nat) : Value := .func (.func 50) #[] #[.pointer (some ⟨bf, 0, none⟩), .pointer (some ⟨br, 0, none⟩)]

/-- The ending's own blocks. -/
structure EI (w W : World) (l : Lw) (s : Sd) (n : Int) (bf br bm : Nat) : Prop where
  gb : GB W w.heap.size l s
  b1 : W.heap[w.heap.size + 1]? = some (.cells #[.int .i64 n] 3 (0, 0))
  b2 : W.heap[w.heap.size + 2]? = some (.cells #[fnv bf br] 84 (0, 0))
  b3 : W.heap[w.heap.size + 3]? = some (.cells #[.slice none 0 0] 28 (0, 0))
  sw : SW W l bf br bm
  gr : w.grownBy W (some bm)

theorem EI.step {w W W' : World} {l : Lw} {s : Sd} {n : Int} {bf br bm : Nat} {row : Option Nat} (h : EI w W l s n bf br bm) (hbm : bm < w.heap.size) (hbf : bf < w.heap.size) (hbr : br < w.heap.size) (hg : W.grownBy W' row) (hr : ∀ r, row = some r → w.heap.size + 4 ≤ r) :
    EI w W' l s n bf br bm := by
  have ne : ∀ k, k < w.heap.size + 4 → some k ≠ row := fun k hk e => by have := hr k e.symm; omega
  exact ⟨⟨(hg.block _ (lt_of_block h.gb.blk) (ne _ (by omega))).trans h.gb.blk⟩, (hg.block _ (lt_of_block h.b1) (ne _ (by omega))).trans h.b1, (hg.block _ (lt_of_block h.b2) (ne _ (by omega))).trans h.b2, (hg.block _ (lt_of_block h.b3) (ne _ (by omega))).trans h.b3,
    ⟨(hg.block _ (lt_of_block h.sw.cf) (ne _ (by omega))).trans h.sw.cf, (hg.block _ (lt_of_block h.sw.cr) (ne _ (by omega))).trans h.sw.cr, h.sw.mem.kept hg (ne _ (by omega))⟩, h.gr.andThen hg (fun j e => .inl (by have := hr j e; omega))⟩

theorem EI.turn {w W W' : World} {l : Lw} {s : Sd} {n : Int} {bf br bm : Nat} (h : EI w W l s n bf br bm) (hbm : bm < w.heap.size) (hg : W.grownBy W' (some bm)) (sw : SW W' l bf br bm) : EI w W' l s n bf br bm := by
  have ne : ∀ k, w.heap.size ≤ k → some k ≠ some bm := fun k hk e => by cases e; omega
  exact ⟨⟨(hg.block _ (lt_of_block h.gb.blk) (ne _ (by omega))).trans h.gb.blk⟩, (hg.block _ (lt_of_block h.b1) (ne _ (by omega))).trans h.b1, (hg.block _ (lt_of_block h.b2) (ne _ (by omega))).trans h.b2, (hg.block _ (lt_of_block h.b3) (ne _ (by omega))).trans h.b3, sw, h.gr.trans hg⟩

theorem EI.drewN {w W : World} {l : Lw} {s : Sd} {n : Int} {bf br bm : Nat} (h : EI w W l s n bf br bm) (k : Nat) : EI w (W.drewN k) l s n bf br bm := by
  cases k <;> exact ⟨⟨h.gb.blk⟩, h.b1, h.b2, h.b3, h.sw.below (grown_drewN (World.grownBy.refl _ _) _), grown_drewN h.gr _⟩

/-- .. with the block of the game behind the ball. -/
structure BE (w W0 W : World) (l : Lw) (s : Sd) (n : Int) (bf br bm : Nat) (s1 : Sd) (nb : Nat) : Prop where
  ei : EI w W l s n bf br bm
  kp : Kp2 bm (w.heap.size + 3) W0 W
  g1 : GB W nb l s1
  n1 : W0.heap.size ≤ nb

theorem cell_of_blk1 {w : World} {b : Nat} {v : Value} {t : TypeId} {z : Nat × Nat} (h : w.heap[b]? = some (.cells #[v] t z)) : w.cell? ⟨b, 0, none⟩ = some v := by simp [World.cell?, h]
theorem free_of_blk1 {w : World} {b : Nat} {v : Value} {t : TypeId} (h : w.heap[b]? = some (.cells #[v] t (0, 0))) : w.frozen? ⟨b, 0, none⟩ = false := by simp [World.frozen?, h]

theorem rest_be {w W0 W : World} {l : Lw} {s : Sd} {n : Int} {bf br bm : Nat} {s1 : Sd} {nb : Nat} (ro : RestOK l bf br bm) (hbm : bm < w.heap.size) (hW0 : w.heap.size ≤ W0.heap.size) (v1 : Vd l s1) (h : Hid (BE w W0 W l s n bf br bm s1 nb)) :
    Calls Tryd.prog 50 #[.agg #[.int .i64 l.fr, .int .i64 l.pn, .int .i64 l.bl, .int .i64 l.tp, .int .i64 s1.f, .int .i64 s1.b, .int .i64 s1.s, .bool s1.fresh, .bool s1.more, .int .i64 s1.x, .int .i64 s1.y], .pointer (some ⟨bf, 0, none⟩), .pointer (some ⟨br, 0, none⟩)] W fun e W' =>
      e = .returned (tval fun i => (wd (Rs l s1) i : Int)) ∧ Hid (BE w W0 W' l s n bf br bm s1 nb) ∧ W'.cell? ⟨w.heap.size + 1, 0, none⟩ = some (.int .i64 n) := by
  refine (ro s1 W v1 h.out.ei.sw).mono ?_
  rintro e W' ⟨rfl, hs, hg⟩
  have ei' := h.out.ei.turn hbm hg.out hs.out
  exact ⟨rfl, Lib.hid ⟨ei', h.out.kp.grown hg.out (fun r e => by cases e; exact .inl rfl), ⟨(hg.out.block _ (lt_of_block h.out.g1.blk) (fun e => by cases e; have := h.out.n1; omega)).trans h.out.g1.blk⟩, h.out.n1⟩, cell_of_blk1 ei'.b1⟩

theorem has_be {w W0 W : World} {l : Lw} {s : Sd} {n : Int} {bf br bm : Nat} {s1 : Sd} {nb : Nat} (hbm : bm < w.heap.size) (hbf : bf < w.heap.size) (hbr : br < w.heap.size) (m : Int) (q : Bool) (hq : hasB (Rs l s1) m = q) (h : Hid (BE w W0 W l s n bf br bm s1 nb)) :
    Calls Tryd.prog 36 #[tval fun i => (wd (Rs l s1) i : Int), .int .i64 m] W fun e W' => e = .returned (.bool q) ∧ Hid (BE w W0 W' l s n bf br bm s1 nb) := by
  refine (has_any (Rs l s1) m W).mono ?_
  rintro e W' ⟨rfl, hb⟩
  have hg := below_row hb
  exact ⟨by rw [hq], Lib.hid ⟨h.out.ei.step hbm hbf hbr hg (fun r e => by cases e), h.out.kp.grown hg (fun r e => by cases e), ⟨(hg.block _ (lt_of_block h.out.g1.blk) (fun e => by cases e)).trans h.out.g1.blk⟩, h.out.n1⟩⟩

/-- What lies at the end, the answer being found. -/
structure XE (w W : World) (l : Lw) (bf br bm : Nat) (L : List Int) (v : Value) : Prop where
  b3 : W.heap[w.heap.size + 3]? = some (.cells #[v] 28 (0, 0))
  ow : W.ownsRow w.heap.size 3 1 v L.length (L.map (Value.int .i64))
  sw : SW W l bf br bm
  gr : w.grownBy W (some bm)

theorem XE.step {w W W' : World} {l : Lw} {bf br bm : Nat} {L : List Int} {v : Value} {row : Option Nat} {B : Nat} (h : XE w W l bf br bm L v) (hbm : bm < w.heap.size) (hbf : bf < w.heap.size) (hbr : br < w.heap.size) (hB : w.heap.size + 4 ≤ B) (hg : W.grownBy W' row)
    (hr : ∀ r, row = some r → B ≤ r ∧ ∃ o : Obj, W.heap[r]? = some o ∧ o.isCells = false) : XE w W' l bf br bm L v := by
  have ne : ∀ k, k < w.heap.size + 4 → some k ≠ row := fun k hk e => by have := (hr k e.symm).1; omega
  refine ⟨(hg.block _ (lt_of_block h.b3) (ne _ (by omega))).trans h.b3, h.ow.kept hg ?_, ⟨(hg.block _ (lt_of_block h.sw.cf) (ne _ (by omega))).trans h.sw.cf, (hg.block _ (lt_of_block h.sw.cr) (ne _ (by omega))).trans h.sw.cr, h.sw.mem.kept hg (ne _ (by omega))⟩, h.gr.andThen hg (fun j e => .inl (by have := (hr j e).1; omega))⟩
  cases hk : v.ownBlock with
  | none => exact .inl rfl
  | some k =>
    refine .inr (fun e => ?_)
    obtain ⟨_, o, ho, hc⟩ := hr k e.symm
    rcases h.ow.2 with ⟨rfl, _⟩ | ⟨g, cap, cur, rfl, _, hh, _⟩
    · cases hk
    · cases hk
      rw [hh] at ho
      cases ho
      cases hc

theorem XE.put {w W : World} {l : Lw} {bf br bm D : Nat} {L : List Int} {v : Value} {z : Option (List Deferred)} (h : XE w W l bf br bm L v) (hbm : bm < w.heap.size) (hbf : bf < w.heap.size) (hbr : br < w.heap.size) (hD : w.heap.size + 4 ≤ D) (hK : W.heap[D]? = some (.deferred z)) :
    XE w (W.putObj D (.deferred none)) l bf br bm L v :=
  h.step hbm hbf hbr hD (grownBy_putObj' W D (.deferred none)) (fun r e => by cases e; exact ⟨Nat.le_refl _, _, hK, rfl⟩)

/-- Nothing has been found. -/
theorem EI.nilEnd {w W : World} {l : Lw} {s : Sd} {n : Int} {bf br bm : Nat} (h : EI w W l s n bf br bm) (hbm : bm < w.heap.size) (hbf : bf < w.heap.size) (hbr : br < w.heap.size) : XE w (W.setCell ⟨w.heap.size + 1 + 1 + 1, 0, none⟩ (.slice none 0 0)) l bf br bm [] (.slice none 0 0) := by
  have hg := grown_set (World.grownBy.refl W (some (w.heap.size + 3))) 0 (.slice none 0 0)
  have ne := h.sw.ne
  exact ⟨by simpa using blk_setCell h.b3 0 (.slice none 0 0), World.ownsRow_nil _ _ _ _, h.sw.kept hg (by omega) (by omega) (by omega), h.gr.andThen hg (fun j e => .inl (by cases e; omega))⟩

/-- The loop's invariants. -/
def LE (w : World) (l : Lw) (s : Sd) (n : Int) (bf br bm h : Nat) (pre : List (Ball s)) (W : World) : Prop := EI w W l s n bf br bm ∧ h ≤ W.heap.size ∧ ∀ k ∈ pre, hitB l s n k.1 = false
def LX (w : World) (l : Lw) (s : Sd) (n : Int) (bf br bm : Nat) (c : Code) (pre : List (Ball s)) (W : World) : Prop :=
  c = .ret ∧ ∃ (pre0 : List (Ball s)) (x : Ball s) (v : Value), pre = pre0 ++ [x] ∧ (∀ k ∈ pre0, hitB l s n k.1 = false) ∧ hitB l s n x.1 = true ∧ XE w W l bf br bm (x.1 :: endL l (behS l s x.1) (n - cnt l s x.1 * (1 + s.x))) v

theorem LE.own {w : World} {l : Lw} {s : Sd} {n : Int} {bf br bm h B : Nat} (hbm : bm < w.heap.size) (hbf : bf < w.heap.size) (hbr : br < w.heap.size) (hB : w.heap.size + 4 ≤ B) : OwnFrom B (LE w l s n bf br bm h) :=
  fun _ _ _ _ hs hg hr => ⟨hs.1.step hbm hbf hbr hg (fun r e => by have := (hr r e).1; omega), Nat.le_trans hs.2.1 hg.size, hs.2.2⟩

theorem LX.own {w : World} {l : Lw} {s : Sd} {n : Int} {bf br bm B : Nat} {c : Code} (hbm : bm < w.heap.size) (hbf : bf < w.heap.size) (hbr : br < w.heap.size) (hB : w.heap.size + 4 ≤ B) : OwnFrom B (LX w l s n bf br bm c) :=
  fun _ _ _ _ ⟨h1, p, x, v, h2, h3, h4, h5⟩ hg hr => ⟨h1, p, x, v, h2, h3, h4, h5.step hbm hbf hbr hB hg hr⟩

theorem find_hit {l : Lw} {s : Sd} {n : Int} {pre0 : List (Ball s)} {x : Ball s} (hp : (pre0 ++ [x]).map (·.1) <+: allB l s) (h0 : ∀ k ∈ pre0, hitB l s n k.1 = false) (h1 : hitB l s n x.1 = true) : (allB l s).find? (hitB l s n) = some x.1 := by
  obtain ⟨t, ht⟩ := hp
  rw [← ht, List.map_append, List.append_assoc, List.find?_append, List.find?_eq_none.2 (by
    intro k hk
    obtain ⟨y, hy, rfl⟩ := List.mem_map.1 hk
    simp [h0 y hy])]
  simp [h1]

theorem find_miss {l : Lw} {s : Sd} {n : Int} {xs : List (Ball s)} (hp : xs.map (·.1) = allB l s) (h0 : ∀ k ∈ xs, hitB l s n k.1 = false) : (allB l s).find? (hitB l s n) = none := by
  rw [← hp, List.find?_eq_none]
  intro k hk
  obtain ⟨y, hy, rfl⟩ := List.mem_map.1 hk
  simp [h0 y hy]

/-- What a round owes in which the ending has not been found. -/
theorem miss_ok {w W W' : World} {l : Lw} {s : Sd} {n : Int} {bf br bm B Bn h nb : Nat} {s1 : Sd} {pre : List (Ball s)} {x : Ball s} (hb : Hid (BE w W W' l s n bf br bm s1 nb)) (hp : Hid (∀ k ∈ pre, hitB l s n k.1 = false)) (hx : Hid (hitB l s n x.1 = false))
    (h1 : bm < B) (h2 : w.heap.size + 3 < B) (h3 : Bn ≠ bm) (h4 : Bn ≠ w.heap.size + 3) (h5 : Bn < W.heap.size) (h6 : h ≤ W.heap.size) :
    KeepsFrom B W W' ∧ KpB Bn W W' ∧ LE w l s n bf br bm h (pre ++ [x]) W' := by
  have k := hb.out.kp
  refine ⟨⟨k.size, fun i o hi ho _ => (k.block i (lt_of_block ho) (by omega) (by omega)).trans ho⟩, ⟨k.size, k.block Bn h5 h3 h4⟩, hb.out.ei, Nat.le_trans h6 k.size, ?_⟩
  intro y hy
  rcases List.mem_append.1 hy with hy | hy
  · exact hp.out y hy
  · simp only [List.mem_cons, List.not_mem_nil, or_false] at hy
    subst hy
    exact hx.out

end Go.Proofs.YtmjbidnlknmcgabDoor
