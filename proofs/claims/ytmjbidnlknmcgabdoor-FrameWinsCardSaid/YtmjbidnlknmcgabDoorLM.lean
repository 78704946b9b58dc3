/- Plain facts on stands, and the sets of what endings can count besides. The contracts of the law's validity, of a new game, of the search and of the final counts. The contract of the iterator over the balls that may follow. The sets of what endings can count besides, as numbers, and their words. The memory of the search: its keys, its elements, what it holds. -/
import Derived.Test.YtmjbidnlknmcgabDoorLD
import Derived.Test.YtmjbidnlknmcgabDoorLA
import Derived.RangeFuncNested
import Derived.RangeFuncBound
import Derived.RangeFuncCalls
import Derived.RangeFuncLeaves
import Derived.Shelf.Abstract
import Derived.Shelf.RegionOpen
import Derived.OwnWalkIn
import Derived.TacticsInMore
import Derived.LoopNIn
import Derived.LoopIn
import Derived.Maps.OwnIn
import Derived.Maps.OwnSet
import Derived.DeepKeys4
import Derived.WideKeyMaps
set_option linter.unusedVariables false
set_option linter.unusedSimpArgs false
namespace Go.Proofs.YtmjbidnlknmcgabDoor
open Go.RowKit

/-- A stand of a game by the law. -/
structure Vd (l : Lw) (s : Sd) : Prop where
  f1 : 0 ≤ s.f
  f2 : s.f ≤ l.fr
  b1 : 0 ≤ s.b
  b2 : s.b ≤ 2
  s1 : 0 ≤ s.s
  s2 : s.s ≤ l.pn
  x1 : 0 ≤ s.x
  x2 : s.x ≤ 2
  y1 : 0 ≤ s.y
  y2 : s.y ≤ 1
  fresh : s.fresh = true → s.s = l.pn
  bl : s.f < l.fr → ¬ (s.f = l.fr - 1 ∧ s.more = true) → s.b < l.bl

def mu (l : Lw) (s : Sd) : Nat := ((l.fr - s.f) * 3 - s.b).toNat

theorem cnt_le {l : Lw} {s : Sd} {k : Int} (ok : l.Ok) (v : Vd l s) (h1 : -1 ≤ k) (h2 : k ≤ s.s) : 0 ≤ cnt l s k ∧ cnt l s k ≤ s.s := by
  have p1 := ok.p1
  have f := v.fresh
  have s1 := v.s1
  unfold cnt
  split
  · exact ⟨by omega, by omega⟩
  · split
    · rename_i h; rw [f h.1]; exact ⟨by omega, by omega⟩
    · exact ⟨by omega, by omega⟩

theorem beh_vd {l : Lw} {s : Sd} {k : Int} (ok : l.Ok) (v : Vd l s) (hf : s.f < l.fr) (h1 : -1 ≤ k) (h2 : k ≤ s.s) : Vd l (behS l s k) ∧ mu l (behS l s k) < mu l s := by
  have hc := cnt_le ok v h1 h2
  obtain ⟨f1, f2, b1, b2, s1, s2, x1, x2, y1, y2, fresh, bl⟩ := v
  obtain ⟨of1, of2, p1, p2, hb, t1, t2⟩ := ok
  have bl := bl hf
  unfold behS finS midS thrS
  generalize cnt l s k = c at hc
  obtain ⟨f, b, ss, fr, mo, x, y⟩ := s
  obtain ⟨F, P, B, T⟩ := l
  simp only at *
  unfold allS endS nextS setS mu
  simp only
  by_cases hl : f = F - 1
  · subst hl
    by_cases hz : ss - c = 0
    · simp only [hz, if_true]
      cases mo
      · by_cases hb3 : b + 1 < 3
        · simp only [hb3, decide_true, Bool.or_true, if_true]
          by_cases he : b + 1 = 3
          · omega
          · have : (b + 1 == 3) = false := by simpa using he
            simp only [this, if_false, Bool.false_eq_true]
            refine ⟨⟨?_, ?_, ?_, ?_, ?_, ?_, ?_, ?_, ?_, ?_, ?_, ?_⟩, ?_⟩ <;> simp <;> omega
        · simp only [hb3, decide_false, Bool.or_false, Bool.false_eq_true, if_false]
          have : b + 1 = B := by have := bl (by simp); omega
          have e : (b + 1 == B) = true := by simpa using this
          simp only [e, if_true]
          rw [if_pos (by omega)]
          refine ⟨⟨?_, ?_, ?_, ?_, ?_, ?_, ?_, ?_, ?_, ?_, ?_, ?_⟩, ?_⟩ <;> simp <;> omega
      · simp only [Bool.true_or, if_true]
        by_cases he : b + 1 = 3
        · have : (b + 1 == 3) = true := by simpa using he
          simp only [this, if_true]
          rw [if_pos (by omega)]
          refine ⟨⟨?_, ?_, ?_, ?_, ?_, ?_, ?_, ?_, ?_, ?_, ?_, ?_⟩, ?_⟩ <;> simp <;> omega
        · have : (b + 1 == 3) = false := by simpa using he
          simp only [this, if_false, Bool.false_eq_true]
          refine ⟨⟨?_, ?_, ?_, ?_, ?_, ?_, ?_, ?_, ?_, ?_, ?_, ?_⟩, ?_⟩ <;> simp <;> omega
    · simp only [hz, if_false, if_true]
      cases mo
      · simp only [Bool.false_eq_true, if_false]
        have bl := bl (by simp)
        by_cases he : b + 1 = B
        · have : (b + 1 == B) = true := by simpa using he
          simp only [this, if_true]
          rw [if_pos (by omega)]
          refine ⟨⟨?_, ?_, ?_, ?_, ?_, ?_, ?_, ?_, ?_, ?_, ?_, ?_⟩, ?_⟩ <;> simp <;> omega
        · have : (b + 1 == B) = false := by simpa using he
          simp only [this, if_false, Bool.false_eq_true]
          refine ⟨⟨?_, ?_, ?_, ?_, ?_, ?_, ?_, ?_, ?_, ?_, ?_, ?_⟩, ?_⟩ <;> simp <;> omega
      · simp only [if_true]
        by_cases he : b + 1 = 3
        · have : (b + 1 == 3) = true := by simpa using he
          simp only [this, if_true]
          rw [if_pos (by omega)]
          refine ⟨⟨?_, ?_, ?_, ?_, ?_, ?_, ?_, ?_, ?_, ?_, ?_, ?_⟩, ?_⟩ <;> simp <;> omega
        · have : (b + 1 == 3) = false := by simpa using he
          simp only [this, if_false, Bool.false_eq_true]
          refine ⟨⟨?_, ?_, ?_, ?_, ?_, ?_, ?_, ?_, ?_, ?_, ?_, ?_⟩, ?_⟩ <;> simp <;> omega
  · have bl := bl (fun h => hl h.1)
    by_cases hz : ss - c = 0
    · simp only [hz, hl, if_true, if_false, beq_self_eq_true, Bool.true_or]
      by_cases hn : f + 1 = F
      · omega
      · simp only [hn, if_false]
        refine ⟨⟨?_, ?_, ?_, ?_, ?_, ?_, ?_, ?_, ?_, ?_, ?_, ?_⟩, ?_⟩ <;> simp <;> (try split) <;> omega
    · have e0 : (ss - c == 0) = false := by simpa using hz
      simp only [hz, hl, if_false, e0, Bool.false_or]
      by_cases he : b + 1 = B
      · have : (b + 1 == B) = true := by simpa using he
        simp only [this, if_true]
        rw [if_neg (by omega)]
        refine ⟨⟨?_, ?_, ?_, ?_, ?_, ?_, ?_, ?_, ?_, ?_, ?_, ?_⟩, ?_⟩ <;> simp <;> omega
      · have : (b + 1 == B) = false := by simpa using he
        simp only [this, if_false, Bool.false_eq_true]
        refine ⟨⟨?_, ?_, ?_, ?_, ?_, ?_, ?_, ?_, ?_, ?_, ?_, ?_⟩, ?_⟩ <;> simp <;> omega

end Go.Proofs.YtmjbidnlknmcgabDoor

namespace Go.Proofs.YtmjbidnlknmcgabDoor
open Go.RowKit

def okB (l : Lw) : Bool := decide (1 ≤ l.fr) && decide (l.fr ≤ 10) && decide (1 ≤ l.pn) && decide (l.pn ≤ 10) && (l.bl == 2 || l.bl == 3) && decide (1 ≤ l.tp) && decide (l.tp ≤ l.pn)

theorem okB_iff (l : Lw) : okB l = true ↔ l.Ok := by
  unfold okB
  simp only [Bool.and_eq_true, decide_eq_true_eq, Bool.or_eq_true, beq_iff_eq]
  exact ⟨fun ⟨⟨⟨⟨⟨⟨a, b⟩, c⟩, d⟩, e⟩, f⟩, g⟩ => ⟨a, b, c, d, e, f, g⟩, fun ⟨a, b, c, d, e, f, g⟩ => ⟨⟨⟨⟨⟨⟨a, b⟩, c⟩, d⟩, e⟩, f⟩, g⟩⟩

set_option maxRecDepth 100000 in
set_option maxHeartbeats 4000000 in
theorem valid_any (l : Lw) (w : World) :
    Calls Tryd.prog 41 #[l.val] w fun e w' => e = .returned (.bool (okB l)) ∧ Below w.heap.size w w' := by
  unfold Lw.val
  by_cases c0 : 1 ≤ l.fr
  · by_cases c1 : l.fr ≤ 10
    · by_cases c2 : 1 ≤ l.pn
      · by_cases c3 : l.pn ≤ 10
        · by_cases b2 : l.bl = 2
          · have b2b : (l.bl == 2) = true := by simpa using b2
            by_cases c5 : 1 ≤ l.tp
            · by_cases c6 : l.tp ≤ l.pn
              · go_enter Tryd.func41, Tryd.ntmps41
                go_wp2
                go_ret
                exact ⟨congrArg Ending.returned (congrArg Value.bool (by unfold okB; simp [*])), (Below.refl _ _).alloc (Nat.le_refl _) _⟩
              · go_enter Tryd.func41, Tryd.ntmps41
                go_wp2
                go_ret
                exact ⟨congrArg Ending.returned (congrArg Value.bool (by unfold okB; simp [*] <;> omega)), (Below.refl _ _).alloc (Nat.le_refl _) _⟩
            · go_enter Tryd.func41, Tryd.ntmps41
              go_wp2
              go_ret
              exact ⟨congrArg Ending.returned (congrArg Value.bool (by unfold okB; simp [*] <;> omega)), (Below.refl _ _).alloc (Nat.le_refl _) _⟩
          · have b2b : (l.bl == 2) = false := by simpa using b2
            by_cases b3 : l.bl = 3
            · have b3b : (l.bl == 3) = true := by simpa using b3
              by_cases c5 : 1 ≤ l.tp
              · by_cases c6 : l.tp ≤ l.pn
                · go_enter Tryd.func41, Tryd.ntmps41
                  go_wp2
                  go_ret
                  exact ⟨congrArg Ending.returned (congrArg Value.bool (by unfold okB; simp [*])), (Below.refl _ _).alloc (Nat.le_refl _) _⟩
                · go_enter Tryd.func41, Tryd.ntmps41
                  go_wp2
                  go_ret
                  exact ⟨congrArg Ending.returned (congrArg Value.bool (by unfold okB; simp [*] <;> omega)), (Below.refl _ _).alloc (Nat.le_refl _) _⟩
              · go_enter Tryd.func41, Tryd.ntmps41
                go_wp2
                go_ret
                exact ⟨congrArg Ending.returned (congrArg Value.bool (by unfold okB; simp [*] <;> omega)), (Below.refl _ _).alloc (Nat.le_refl _) _⟩
            · have b3b : (l.bl == 3) = false := by simpa using b3
              go_enter Tryd.func41, Tryd.ntmps41
              go_wp2
              go_ret
              exact ⟨congrArg Ending.returned (congrArg Value.bool (by unfold okB; simp [*])), (Below.refl _ _).alloc (Nat.le_refl _) _⟩
        · go_enter Tryd.func41, Tryd.ntmps41
          go_wp2
          go_ret
          exact ⟨congrArg Ending.returned (congrArg Value.bool (by unfold okB; simp [*] <;> omega)), (Below.refl _ _).alloc (Nat.le_refl _) _⟩
      · go_enter Tryd.func41, Tryd.ntmps41
        go_wp2
        go_ret
        exact ⟨congrArg Ending.returned (congrArg Value.bool (by unfold okB; simp [*] <;> omega)), (Below.refl _ _).alloc (Nat.le_refl _) _⟩
    · go_enter Tryd.func41, Tryd.ntmps41
      go_wp2
      go_ret
      exact ⟨congrArg Ending.returned (congrArg Value.bool (by unfold okB; simp [*] <;> omega)), (Below.refl _ _).alloc (Nat.le_refl _) _⟩
  · go_enter Tryd.func41, Tryd.ntmps41
    go_wp2
    go_ret
    exact ⟨congrArg Ending.returned (congrArg Value.bool (by unfold okB; simp [*] <;> omega)), (Below.refl _ _).alloc (Nat.le_refl _) _⟩

end Go.Proofs.YtmjbidnlknmcgabDoor

namespace Go.Proofs.YtmjbidnlknmcgabDoor
open Go.RowKit Go.Shelf
attribute [local go_sem] Oper.semAt_some

/-- A ball that fells some of the pins that stand. -/
abbrev Ball (s : Sd) := { k : Int // 0 ≤ k ∧ k ≤ s.s }

/-- What the iterator hands over: the ball, and what it adds. -/
def encs (l : Lw) (s : Sd) (k : Ball s) : Array Value := #[.int .i64 k.1, .int .i64 (cnt l s k.1 * (1 + s.x))]

/-- All balls, rising. -/
def upTo (k : Nat) : List Int := (List.range k).map fun i : Nat => (i : Int)
/-- How many there are. -/
def nB (l : Lw) (s : Sd) : Nat := if s.f = l.fr then 0 else s.s.toNat + 1
def allB (l : Lw) (s : Sd) : List Int := if s.f = l.fr then [] else upTo (s.s.toNat + 1)

theorem upTo_succ (k : Nat) : upTo (k + 1) = upTo k ++ [(k : Int)] := by simp [upTo, List.range_succ]
theorem upTo_len (k : Nat) : (upTo k).length = k := by simp [upTo]

theorem upTo_prefix (a b : Nat) (h : a ≤ b) : upTo a <+: upTo b := by
  obtain ⟨c, rfl⟩ : ∃ c, b = a + c := ⟨b - a, by omega⟩
  simp only [upTo, List.range_add, List.map_append]
  exact List.prefix_append _ _

/-- What a round keeps for the iterator: its block. -/
def KpB (b : Nat) (W W' : World) : Prop := W.heap.size ≤ W'.heap.size ∧ W'.heap[b]? = W.heap[b]?
theorem KpB.t {b : Nat} {A B C : World} (h : KpB b A B) (k : KpB b B C) : KpB b A C := ⟨Nat.le_trans h.1 k.1, k.2.trans h.2⟩
theorem KpB.b {b : Nat} {w : World} (hb : b < w.heap.size) (W : World) (l : Nat) (o o' : Obj) (hl : w.heap.size ≤ l) (_ : W.heap[l]? = some o) (_ : o.isCells = false) (_ : o.isWalk = false) : KpB b W (W.putObj l o') :=
  ⟨by simp, World.putObj_heap_other (by omega)⟩
theorem KpB.gb {b : Nat} {W W' : World} {l : Lw} {s : Sd} (h : KpB b W W') (g : GB W b l s) : GB W' b l s := ⟨h.2.trans g.blk⟩

theorem drewN_abides {α : Type} {B : Nat} {J : α → World → Prop} (h : AbidesFrom B J) {x : α} {W : World} (hJ : J x W) (n : Nat) : J x (W.drewN n) :=
  h x W _ none hJ (grown_drewN (World.grownBy.refl _ _) n) (fun r e => by cases e)

set_option maxRecDepth 100000 in
set_option maxHeartbeats 2000000 in
theorem foll_any (n : Nat) (hn : 1 ≤ n) (l : Lw) (s : Sd) (lp Bn B0 : Nat) (J Jx : List (Ball s) → World → Prop) (ok : l.Ok) (s1 : 0 ≤ s.s) (s2 : s.s ≤ 10) (x1 : 0 ≤ s.x) (x2 : s.x ≤ 3)
    (hJa : Hid (AbidesFrom B0 J))
    (hY : Hid (∀ pre x W, J pre W → pre.length < nB l s → YieldAt Fence.wide (n - 1) Tryd.prog lp (encs l s x) W fun e W' =>
      (e = .returned (.bool true) ∧ J (pre ++ [x]) W' ∧ KpB Bn W W') ∨ (e = .returned (.bool false) ∧ Jx (pre ++ [x]) W')))
    (W : World) (hB : Hid (GB W Bn l s)) (h0 : Hid (J [] W)) :
    CallsIn Fence.wide n Tryd.prog 57 #[.func (.yield lp) #[] #[], .pointer (some ⟨Bn, 0, none⟩)] W fun e W' => (∃ v, e = .returned v) ∧
      ((∃ ys, ys.map (·.1) = allB l s ∧ J ys W') ∨ (∃ pre, pre.map (·.1) <+: allB l s ∧ Jx pre W')) := by
  refine callsIn_of_wp Tryd.func57 rfl trivial ?_ rfl
  simp only [Tryd.ntmps57, List.size_toArray, List.length_cons, List.length_nil, Nat.reduceAdd, Nat.reduceSub, Array.replicate_succ, Array.replicate_zero, List.push_toArray, List.append_toArray, List.nil_append, List.cons_append]
  gi_wp2
  gi_loopw [3] (fun i wr => ∃ (k : Nat) (pre : List (Ball s)), i = .int .i64 k ∧ (k : Int) ≤ s.s + 1 ∧ Hid (pre.map (·.1) = upTo k) ∧ Hid (k ≠ 0 → s.f ≠ l.fr) ∧ Hid (GB wr Bn l s) ∧ Hid (J pre wr))
    (fun i _ => (s.s + 1 - intOf i).toNat)
  case atStart =>
    exact ⟨0, [], rfl, by omega, Lib.hid (by simp [upTo]), Lib.hid (fun h => absurd rfl h), hB, h0⟩
  case round =>
    obtain ⟨k, pre, rfl, hk, hpre, hnd, G, hJ⟩ := hrel
    have hlen : pre.length = k := by have h := congrArg List.length hpre.out; simpa [upTo] using h
    have ht := takes_any Bn l s k wr G.out.at
    have hk0 : (decide (-1 ≤ (k : Int))) = true := by simp <;> omega
    rw [hk0] at ht
    by_cases hgo : s.f ≠ l.fr ∧ (k : Int) ≤ s.s
    · have hks : (k : Int) ≤ s.s := hgo.2
      have hnd' := Lib.hid hgo.1
      rw [show (!s.f == l.fr && true && decide ((k : Int) ≤ s.s)) = true from by simp [hgo.1, hgo.2]] at ht
      have ht := Lib.hid ht
      clear hgo hk0
      gi_wp2_with fail
      refine ⟨trivial, (callsIn_wide.2 ht.out).mono ?_⟩
      rintro e w1 ⟨rfl, hw1⟩
      have G1 : Hid (GB w1 Bn l s) := Lib.hid (by obtain ⟨m, hm⟩ := hw1; rw [hm]; exact G.out.drewN m)
      have J1 : Hid (J pre w1) := Lib.hid (by obtain ⟨m, hm⟩ := hw1; rw [hm]; exact drewN_abides hJa.out hJ.out m)
      clear hw1 ht G hJ
      gi_wp2_with fail
      refine ⟨trivial, (callsIn_wide.2 (adds_any Bn l s k w1 G1.out.at ok (by omega) (by omega) x1 x2)).mono ?_⟩
      rintro e w2 ⟨rfl, hw2⟩
      have G2 : Hid (GB w2 Bn l s) := Lib.hid (by obtain ⟨m, hm⟩ := hw2; rw [hm]; exact G1.out.drewN m)
      have J2 : Hid (J pre w2) := Lib.hid (by obtain ⟨m, hm⟩ := hw2; rw [hm]; exact drewN_abides hJa.out J1.out m)
      clear hw2 G1 J1
      obtain ⟨fn, tmps, assign, body, hy, hR⟩ := hY.out pre ⟨k, by omega, hks⟩ w2 J2.out (by unfold nB; rw [if_neg hnd'.out]; omega)
      dsimp only [encs] at hy
      have R := Lib.hid hR
      clear hR
      gi_wp2
      refine R.out.mono ?_
      rintro e W3 (⟨rfl, hJ3, hk3⟩ | ⟨rfl, hJx3⟩)
      · have G3 := Lib.hid (hk3.gb G2.out)
        have J3 := Lib.hid hJ3
        clear hJ3 hk3
        gi_wp2
        go_roundw
        case rel => exact ⟨k + 1, _, by go_num, by omega, Lib.hid (by rw [List.map_append, hpre.out, upTo_succ]; rfl), Lib.hid (fun _ => hnd'.out), G3, J3⟩
        case measure => simp [intOf]; omega
      · have J3 := Lib.hid hJx3
        clear hJx3
        gi_wp2
        refine bodyPost_ret (results_none rfl _ _ _) rfl ?_
        refine ⟨⟨_, rfl⟩, .inr ⟨_, ?_, J3.out⟩⟩
        rw [List.map_append, hpre.out, allB, if_neg hnd'.out]
        show upTo k ++ [(k : Int)] <+: _
        rw [← upTo_succ]
        exact upTo_prefix _ _ (by omega)
    · have hfin : Hid (upTo k = allB l s) := Lib.hid (by
        unfold allB
        by_cases hf : s.f = l.fr
        · rw [if_pos hf, show k = 0 from Classical.byContradiction fun h => hnd.out h hf]; rfl
        · rw [if_neg hf, show k = s.s.toNat + 1 from by have : ¬ (k : Int) ≤ s.s := fun h => hgo ⟨hf, h⟩; omega])
      rw [show (!s.f == l.fr && true && decide ((k : Int) ≤ s.s)) = false from by
        by_cases hf : s.f = l.fr
        · simp [hf]
        · have : ¬ (k : Int) ≤ s.s := fun h => hgo ⟨hf, h⟩
          simp [this]] at ht
      have ht := Lib.hid ht
      clear hgo hk0
      gi_wp2_with fail
      refine ⟨trivial, (callsIn_wide.2 ht.out).mono ?_⟩
      rintro e w1 ⟨rfl, hw1⟩
      have J1 : Hid (J pre w1) := Lib.hid (by obtain ⟨m, hm⟩ := hw1; rw [hm]; exact drewN_abides hJa.out hJ.out m)
      clear hw1 ht G hJ
      gi_wp2
      go_end0
      exact ⟨⟨_, rfl⟩, .inl ⟨pre, hpre.out.trans hfin.out, J1.out⟩⟩

theorem foll_stops (n : Nat) (hn : 1 ≤ n) (l : Lw) (s : Sd) (Bn : Nat) (ok : l.Ok) (s1 : 0 ≤ s.s) (s2 : s.s ≤ 10) (x1 : 0 ≤ s.x) (x2 : s.x ≤ 3) (w : World) (G : GB w Bn l s) :
    SeqStopsK Fence.wide n Tryd.prog 57 #[.pointer (some ⟨Bn, 0, none⟩)] (encs l s) (KpB Bn) (fun xs => xs.map (·.1) = allB l s) (fun pre => pre.map (·.1) <+: allB l s) (nB l s) w :=
  fun lp J Jx W hW hJ _ hY h0 =>
    foll_any n hn l s lp Bn W.heap.size J Jx ok s1 s2 x1 x2 (Lib.hid hJ) (Lib.hid hY) W (Lib.hid ⟨(hW.block Bn (lt_of_block G.blk)).trans G.blk⟩) (Lib.hid h0)

set_option maxHeartbeats 1000000 in
theorem following_any (n : Nat) (l : Lw) (s : Sd) (w : World) :
    CallsIn Fence.wide n Tryd.prog 51 #[gval l s] w fun e w' => e = .returned (.func (.func 57) #[] #[.pointer (some ⟨w.heap.size, 0, none⟩)]) ∧
      w' = w.alloc (.cells #[.int .i64 l.fr, .int .i64 l.pn, .int .i64 l.bl, .int .i64 l.tp, .int .i64 s.f, .int .i64 s.b, .int .i64 s.s, .bool s.fresh, .bool s.more, .int .i64 s.x, .int .i64 s.y] 72) := by
  unfold gval
  refine callsIn_of_wp Tryd.func51 rfl trivial ?_ rfl
  simp only [Tryd.ntmps51, List.size_toArray, List.length_cons, List.length_nil, Nat.reduceAdd, Nat.reduceSub, Array.replicate_succ, Array.replicate_zero, List.push_toArray, List.append_toArray, List.nil_append, List.cons_append]
  gi_wp2
  go_ret
  exact ⟨rfl, rfl⟩

end Go.Proofs.YtmjbidnlknmcgabDoor

namespace Go.Proofs.YtmjbidnlknmcgabDoor
open Go.RowKit

def ad (l : Lw) (s : Sd) (k : Int) : Nat := (cnt l s k * (1 + s.x)).toNat

def restN : Nat → Lw → Sd → Nat
  | 0, _, _ => 0
  | n + 1, l, s => (allB l s).foldl (fun t k => t ||| (restN n l (behS l s k) <<< ad l s k)) (if s.f = l.fr then 1 else 0)

def Rs (l : Lw) (s : Sd) : Nat := restN (mu l s + 1) l s
def part (l : Lw) (s : Sd) (ks : List Int) : Nat := ks.foldl (fun t k => t ||| (Rs l (behS l s k) <<< ad l s k)) (if s.f = l.fr then 1 else 0)

theorem part_snoc (l : Lw) (s : Sd) (ks : List Int) (k : Int) : part l s (ks ++ [k]) = part l s ks ||| (Rs l (behS l s k) <<< ad l s k) := by
  simp [part, List.foldl_append]

theorem mem_allB {l : Lw} {s : Sd} {k : Int} (h : k ∈ allB l s) : s.f ≠ l.fr ∧ 0 ≤ k ∧ k < s.s.toNat + 1 := by
  unfold allB at h
  split at h
  · simp at h
  · rename_i hf
    simp only [upTo, List.mem_map, List.mem_range] at h
    obtain ⟨i, hi, rfl⟩ := h
    exact ⟨hf, by omega, by omega⟩

theorem foldl_same {α : Type} {f g : Nat → α → Nat} : ∀ (ks : List α) (a : Nat), (∀ k ∈ ks, ∀ t, f t k = g t k) → ks.foldl f a = ks.foldl g a
  | [], _, _ => rfl
  | k :: ks, a, h => by
    simp only [List.foldl_cons]
    rw [h k (by simp)]
    exact foldl_same ks _ (fun k' hk t => h k' (by simp [hk]) t)

theorem restN_stable {l : Lw} (ok : l.Ok) : ∀ (n : Nat) (s : Sd), Vd l s → mu l s < n → restN n l s = restN (n + 1) l s := by
  intro n
  induction n with
  | zero => intro s _ h; omega
  | succ n ih =>
    intro s v h
    show (allB l s).foldl _ _ = (allB l s).foldl _ _
    refine foldl_same _ _ (fun k hk t => ?_)
    obtain ⟨hf, h0, h1⟩ := mem_allB hk
    have b := beh_vd (k := k) ok v (by have := v.f2; omega) (by omega) (by have := v.s1; omega)
    rw [ih _ b.1 (by omega)]

theorem restN_Rs {l : Lw} (ok : l.Ok) (s : Sd) (v : Vd l s) : ∀ n, mu l s < n → restN n l s = Rs l s := by
  intro n h
  obtain ⟨d, rfl⟩ : ∃ d, n = mu l s + 1 + d := ⟨n - (mu l s + 1), by omega⟩
  clear h
  induction d with
  | zero => rfl
  | succ d ih => rw [← ih]; exact (restN_stable ok (mu l s + 1 + d) s v (by omega)).symm

theorem Rs_eq {l : Lw} (ok : l.Ok) (s : Sd) (v : Vd l s) : Rs l s = part l s (allB l s) := by
  show (allB l s).foldl _ _ = (allB l s).foldl _ _
  refine foldl_same _ _ (fun k hk t => ?_)
  obtain ⟨hf, h0, h1⟩ := mem_allB hk
  have b := beh_vd (k := k) ok v (by have := v.f2; omega) (by omega) (by have := v.s1; omega)
  rw [restN_Rs ok _ b.1 _ (by omega)]

/-- The word i of a number. -/
def wd (N i : Nat) : Nat := N / 2 ^ (64 * i) % 2 ^ 64
theorem wd_lt (N i : Nat) : wd N i < 2 ^ 64 := Nat.mod_lt _ (by decide)

theorem wd_bit (N i j : Nat) : (wd N i).testBit j = (decide (j < 64) && N.testBit (64 * i + j)) := by
  rw [wd, Nat.testBit_mod_two_pow, Nat.testBit_div_two_pow, Nat.add_comm]

theorem jn_wd (N M q r i : Nat) (hr : r < 64) : jn (wd N) (wd M) q r i = wd (N ||| M <<< (q * 64 + r)) i := by
  apply Nat.eq_of_testBit_eq
  intro j
  rw [wd_bit, Nat.testBit_or, Nat.testBit_shiftLeft]
  unfold jn nw
  by_cases hq : q ≤ i
  · rw [if_pos hq]
    by_cases hq2 : q < i
    · rw [if_pos hq2]
      simp only [Nat.testBit_or, wd_bit, Nat.testBit_mod_two_pow, Nat.testBit_mul_two_pow, Nat.testBit_div_two_pow]
      by_cases hj : j < 64
      · simp only [hj, decide_true, Bool.true_and]
        by_cases hjr : r ≤ j
        · have e1 : 64 * i + j - (q * 64 + r) = 64 * (i - q) + (j - r) := by omega
          have e2 : q * 64 + r ≤ 64 * i + j := by omega
          have e3 : ¬ j + (64 - r) < 64 := by omega
          have e4 : j - r < 64 := by omega
          simp [hjr, e1, e2, e3, e4]
        · have e1 : 64 * i + j - (q * 64 + r) = 64 * (i - q - 1) + (j + (64 - r)) := by omega
          have e2 : q * 64 + r ≤ 64 * i + j := by omega
          have e3 : j + (64 - r) < 64 := by omega
          simp [hjr, e1, e2, e3]
      · have e3 : ¬ j + (64 - r) < 64 := by omega
        simp [hj, e3]
    · rw [if_neg hq2]
      obtain rfl : q = i := by omega
      simp only [Nat.testBit_or, wd_bit, Nat.testBit_mod_two_pow, Nat.testBit_mul_two_pow, Nat.sub_self]
      by_cases hj : j < 64
      · simp only [hj, decide_true, Bool.true_and]
        by_cases hjr : r ≤ j
        · have e1 : 64 * q + j - (q * 64 + r) = 64 * 0 + (j - r) := by omega
          have e2 : q * 64 + r ≤ 64 * q + j := by omega
          have e4 : j - r < 64 := by omega
          simp [hjr, e1, e2, e4]
        · have e2 : ¬ q * 64 + r ≤ 64 * q + j := by omega
          simp [hjr, e2]
      · simp [hj]
  · rw [if_neg hq, wd_bit]
    by_cases hj : j < 64
    · have e2 : ¬ q * 64 + r ≤ 64 * i + j := by omega
      simp [hj, e2]
    · simp [hj]

end Go.Proofs.YtmjbidnlknmcgabDoor

namespace Go.Proofs.YtmjbidnlknmcgabDoor
open Go.RowKit Go.Maps

set_option maxRecDepth 100000 in
theorem laidOut : laidOutB Tryd.prog = true := by kernel_rfl
theorem row77 : (70 : TypeId) < Tryd.prog.types.size := of_decide_eq_true (by kernel_rfl)
set_option maxRecDepth 100000 in
theorem wide77 : (match Tryd.prog.underlying 70 with | some (.array _ _) | some (.struct _) => true | _ => false) = true := by rw [Tryd.underlying70]
set_option maxRecDepth 100000 in
theorem law77 : Keyed Tryd.prog 70 := Keyed.of_law (deep_law_laid laidOut (m := 4) (by omega) row77 (by kernel_rfl) wide77)
theorem deep77 : Tryd.prog.keyTypeAt (Tryd.prog.types.size + 1) 70 = true := by kernel_rfl
theorem cells77 : Tryd.prog.cellsOf 70 = 7 := by kernel_rfl
theorem cells75 : Tryd.prog.cellsOf 68 = 2 := by kernel_rfl
theorem cells3 : Tryd.prog.cellsOf 3 = 1 := by kernel_rfl
theorem cells4 : Tryd.prog.cellsOf 4 = 1 := by kernel_rfl
theorem size155 : Tryd.prog.types.size = 135 := by kernel_rfl

/-- What a stand reads as where it is a key. -/
def lits (s : Sd) : List Lit := [.int .i64 s.f, .int .i64 s.b, .int .i64 s.s, .bool s.fresh, .bool s.more, .int .i64 s.x, .int .i64 s.y]
def kl (s : Sd) : Lit := .string (keyBytes (lits s))

def Wf (s : Sd) : Prop := (Lit.int .i64 s.f).wf = true ∧ (Lit.int .i64 s.b).wf = true ∧ (Lit.int .i64 s.s).wf = true ∧ (Lit.int .i64 s.x).wf = true ∧ (Lit.int .i64 s.y).wf = true

theorem keyLits77 (s : Sd) (h : Wf s) (d : Nat) : Tryd.prog.keyLits (d + 3) 70 s.val.cells.toList = some (lits s) := by
  obtain ⟨h1, h2, h3, h4, h5⟩ := h
  simp [Program.keyLits, Tryd.underlying70, Tryd.underlying3, Tryd.underlying4, Tryd.underlying68, cells77, cells75, cells3, cells4, Sd.val, Value.cells, lits, h1, h2, h3, h4, h5, show List.range 2 = [0, 1] from rfl]

theorem key77 (s : Sd) (h : Wf s) : keyOf Tryd.prog 70 s.val = some (kl s) := by
  have e : Tryd.prog.underlying 70 = _ := Tryd.underlying70
  unfold keyOf
  rw [e]
  have hk : Tryd.prog.keyType 70 = true := deep77
  have hf : s.val.formed Tryd.prog 70 = true := by simp [Value.formed, Sd.val, Tryd.underlying70, cells77]
  simp only [hk, hf, Bool.and_self, if_true, size155]
  rw [keyLits77 s h 133]
  rfl

theorem wf_i {n : Int} (h0 : 0 ≤ n) (h1 : n ≤ 400) : (Lit.int .i64 n).wf = true := WalkArith.wf_i64 (by omega)

theorem Vd.wf {l : Lw} {s : Sd} (ok : l.Ok) (v : Vd l s) : Wf s := by
  have o1 := ok.f2
  have o2 := ok.p2
  have a1 := v.f1
  have a2 := v.f2
  have a3 := v.b1
  have a4 := v.b2
  have a5 := v.s1
  have a6 := v.s2
  have a7 := v.x1
  have a8 := v.x2
  have a9 := v.y1
  have a10 := v.y2
  exact ⟨wf_i (by omega) (by omega), wf_i (by omega) (by omega), wf_i (by omega) (by omega), wf_i (by omega) (by omega), wf_i (by omega) (by omega)⟩

theorem kl_inj {s s' : Sd} (h : Wf s) (h' : Wf s') (e : kl s = kl s') : s = s' := by
  have h1 := key77 s h
  rw [e] at h1
  have h2 := law77.inj h1 (key77 s' h')
  simp only [Sd.val, Value.agg.injEq, Array.mk.injEq, List.cons.injEq, Value.int.injEq, Value.bool.injEq, true_and, and_true] at h2
  obtain ⟨a, b, c, d, e, f, g⟩ := h2
  exact Sd.ext a b c d e f g

/-- How an element reads. -/
def tread : Value → Option (DataW Unit × List MemPlace)
  | .agg ⟨[.int .u64 a, .int .u64 b, .int .u64 c, .int .u64 d, .int .u64 e]⟩ => some (.agg [.lit (.int .u64 a), .lit (.int .u64 b), .lit (.int .u64 c), .lit (.int .u64 d), .lit (.int .u64 e)], [])
  | _ => none

def tdat (g : Nat → Int) : DataW Unit := .agg [.lit (.int .u64 (g 0)), .lit (.int .u64 (g 1)), .lit (.int .u64 (g 2)), .lit (.int .u64 (g 3)), .lit (.int .u64 (g 4))]
theorem tread_val (g : Nat → Int) : tread (tval g) = some (tdat g, []) := rfl

theorem tread_some {v : Value} {d : DataW Unit} {ps : List MemPlace} (h : tread v = some (d, ps)) : ∃ a b c d e : Int, v = .agg #[.int .u64 a, .int .u64 b, .int .u64 c, .int .u64 d, .int .u64 e] := by
  unfold tread at h
  split at h
  · exact ⟨_, _, _, _, _, rfl⟩
  · cases h

theorem tread_inv {v : Value} {g : Nat → Int} {ps : List MemPlace} (h : tread v = some (tdat g, ps)) : v = tval g := by
  obtain ⟨a, b, c, d, e, rfl⟩ := tread_some h
  simp only [tread, tdat, Option.some.injEq, Prod.mk.injEq, DataW.agg.injEq, List.cons.injEq, DataW.lit.injEq, Lit.int.injEq, true_and, and_true] at h
  obtain ⟨⟨h0, h1, h2, h3, h4⟩, _⟩ := h
  rw [tval, h0, h1, h2, h3, h4]

theorem zero95 (w : World) : (zeroValue 82).run Tryd.prog w = .ok (tval fun _ => 0) w := by kernel_rfl

/-- All stands that there can be, and more. -/
def sdU : List Sd :=
  (List.range 11).flatMap fun (f : Nat) => (List.range 3).flatMap fun (b : Nat) => (List.range 11).flatMap fun (s : Nat) => [true, false].flatMap fun fr => [true, false].flatMap fun mo => (List.range 3).flatMap fun (x : Nat) => (List.range 2).map fun (y : Nat) => ⟨f, b, s, fr, mo, x, y⟩

theorem sdU_len : sdU.length = 8712 := by decide +kernel

theorem mem_sdU {l : Lw} {s : Sd} (ok : l.Ok) (v : Vd l s) : s ∈ sdU := by
  have o1 := ok.f2
  have o2 := ok.p2
  obtain ⟨a1, a2, a3, a4, a5, a6, a7, a8, a9, a10, _, _⟩ := v
  obtain ⟨f, b, ss, fr, mo, x, y⟩ := s
  simp only at *
  simp only [sdU, List.mem_flatMap, List.mem_map, List.mem_range]
  exact ⟨f.toNat, by omega, b.toNat, by omega, ss.toNat, by omega, fr, by cases fr <;> simp, mo, by cases mo <;> simp, x.toNat, by omega, y.toNat, by omega, by
    rw [Int.toNat_of_nonneg a1, Int.toNat_of_nonneg a3, Int.toNat_of_nonneg a5, Int.toNat_of_nonneg a7, Int.toNat_of_nonneg a9]⟩

open Classical in
theorem len_le {α : Type} : ∀ (a b : List α), a.Nodup → (∀ x ∈ a, x ∈ b) → a.length ≤ b.length
  | [], _, _, _ => by simp
  | x :: t, b, hn, hs => by
    have hx : x ∈ b := hs x (by simp)
    have h1 := len_le t (b.erase x) (List.nodup_cons.1 hn).2 (fun y hy => (List.mem_erase_of_ne (by rintro rfl; exact (List.nodup_cons.1 hn).1 hy)).2 (hs y (by simp [hy])))
    have h2 := List.length_erase_of_mem hx
    have h3 : 0 < b.length := List.length_pos_of_mem hx
    simp only [List.length_cons]
    omega

def univ : List Lit := sdU.map kl

/-- What the memory holds is so. -/
structure Good (l : Lw) (D : DataW Unit) : Prop where
  tidy : Tidy D
  keys : ∀ es, D = .map es → ∀ p ∈ es, p.1 ∈ univ
  els : ∀ s, Vd l s → Maps.has D (kl s) = true → ∀ z, D.atKey (kl s) z = tdat (fun i => (wd (Rs l s) i : Int))

theorem Good.size {l : Lw} {D : DataW Unit} (h : Good l D) : Maps.size D ≤ 8712 := by
  obtain ⟨es, rfl, hp⟩ := h.tidy
  have h1 := len_le (es.map (·.1)) univ (by rw [List.Nodup, List.pairwise_map]; exact hp) (fun x hx => by
    obtain ⟨p, hp, rfl⟩ := List.mem_map.1 hx
    exact h.keys es rfl p hp)
  rw [List.length_map, univ, List.length_map, sdU_len] at h1
  exact h1

theorem mem_insert {x p : Lit × DataW Unit} : ∀ l : List (Lit × DataW Unit), p ∈ DataW.insert x l → p = x ∨ p ∈ l
  | [], h => by simpa [DataW.insert] using h
  | y :: r, h => by
    unfold DataW.insert at h
    split at h
    · rcases List.mem_cons.1 h with h | h
      · exact .inl h
      · exact .inr h
    · rcases List.mem_cons.1 h with h | h
      · exact .inr (by simp [h])
      · rcases mem_insert r h with h | h
        · exact .inl h
        · exact .inr (by simp [h])

theorem Good.put {l : Lw} {D : DataW Unit} {s : Sd} (ok : l.Ok) (v : Vd l s) (h : Good l D) : Good l (D.put (kl s) (tdat (fun i => (wd (Rs l s) i : Int)))) where
  tidy := h.tidy.put (law77.key (key77 s (v.wf ok))) _
  keys es he p hp := by
    obtain ⟨es0, rfl, _⟩ := h.tidy
    unfold DataW.put at he
    simp only [DataW.map.injEq] at he
    subst he
    rcases mem_insert _ hp with h1 | h1
    · rw [h1]; exact List.mem_map.2 ⟨s, mem_sdU ok v, rfl⟩
    · exact h.keys _ rfl p (List.mem_filter.1 h1).1
  els s' v' hh z := by
    by_cases e : kl s' = kl s
    · rw [e, atKey_put_same h.tidy.isMap (law77.key (key77 s (v.wf ok))), kl_inj (v'.wf ok) (v.wf ok) e]
    · rw [atKey_put_other e]
      rw [has_put_other e] at hh
      exact h.els s' v' hh z

theorem good_empty (l : Lw) : Good l (.map []) := ⟨tidy_empty, fun es he p hp => (by cases he; cases hp), fun s _ h => (by cases h)⟩

theorem owns_size {w : World} {b n : Nat} {D : DataW Unit} (h : w.ownsMap Tryd.prog 70 tread b n D) {m : Nat} (hm : Maps.size D ≤ m) : w.ownsMap Tryd.prog 70 tread b m D := by
  obtain ⟨es, clock, hb, F, hs, rfl⟩ := h
  refine ⟨es, clock, hb, F, ?_, rfl⟩
  have : ((es.toList.map (WideElems.rg Tryd.prog 70 tread)).foldr DataW.insert []).length = es.size := by rw [length_sorted]; simp
  rw [Maps.size_eq, this] at hm
  exact hm

/-- Block b is the search's memory. -/
def Memo (w : World) (b : Nat) (l : Lw) : Prop := ∃ D, w.ownsMap Tryd.prog 70 tread b 8712 D ∧ Good l D

end Go.Proofs.YtmjbidnlknmcgabDoor
