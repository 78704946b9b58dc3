/- The contracts of the small methods on a game in memory, whatever the law. The contracts of the methods that write a game in memory, and of the game behind a ball. The contracts of the end of a frame, of what all pins down bring, and of the game behind a ball. The contract of the join of two sets of numbers. The contracts of the library's two functions on bits. -/
import Derived.Test.YtmjbidnlknmcgabDoorProg
import Derived.WalkKit
import Derived.WalkSpells
import Derived.WalkLawsBesides
import Derived.BigQuiet
import Derived.Deep.QuietTactic
import Derived.Handy
import Derived.Lib.Hide
import Derived.StillTailTactics
import Derived.Deep.RegionWith
import Derived.Maps.AppendAt
import Derived.Shelf.Spec.TrailingZeros
import Derived.Lib.BitFns
import Derived.Lib.Strings
import Derived.Lib.Slices
import Derived.Lib.Small
import Derived.Lib.Walk
set_option linter.unusedVariables false
set_option linter.unusedSimpArgs false
namespace Go.Proofs.YtmjbidnlknmcgabDoor
open Go.RowKit

structure Lw where
  fr : Int
  pn : Int
  bl : Int
  tp : Int

@[ext] structure Sd where
  f : Int
  b : Int
  s : Int
  fresh : Bool
  more : Bool
  x : Int
  y : Int

/-- A game lies at the head of block b. -/
structure GameAt (w : World) (b : Nat) (l : Lw) (s : Sd) : Prop where
  c0 : w.cell? ⟨b, 0, none⟩ = some (.int .i64 l.fr)
  c1 : w.cell? ⟨b, 1, none⟩ = some (.int .i64 l.pn)
  c2 : w.cell? ⟨b, 2, none⟩ = some (.int .i64 l.bl)
  c3 : w.cell? ⟨b, 3, none⟩ = some (.int .i64 l.tp)
  c4 : w.cell? ⟨b, 4, none⟩ = some (.int .i64 s.f)
  c5 : w.cell? ⟨b, 5, none⟩ = some (.int .i64 s.b)
  c6 : w.cell? ⟨b, 6, none⟩ = some (.int .i64 s.s)
  c7 : w.cell? ⟨b, 7, none⟩ = some (.bool s.fresh)
  c8 : w.cell? ⟨b, 8, none⟩ = some (.bool s.more)
  c9 : w.cell? ⟨b, 9, none⟩ = some (.int .i64 s.x)
  c10 : w.cell? ⟨b, 10, none⟩ = some (.int .i64 s.y)

/-- It may be written. -/
def FreeAt (w : World) (b : Nat) : Prop := ∀ i : Nat, i < 11 → w.frozen? ⟨b, i, none⟩ = false

def Lw.val (l : Lw) : Value := .agg #[.int .i64 l.fr, .int .i64 l.pn, .int .i64 l.bl, .int .i64 l.tp]
def gval (l : Lw) (s : Sd) : Value := .agg #[.int .i64 l.fr, .int .i64 l.pn, .int .i64 l.bl, .int .i64 l.tp, .int .i64 s.f, .int .i64 s.b, .int .i64 s.s, .bool s.fresh, .bool s.more, .int .i64 s.x, .int .i64 s.y]
def Sd.val (s : Sd) : Value := .agg #[.int .i64 s.f, .int .i64 s.b, .int .i64 s.s, .bool s.fresh, .bool s.more, .int .i64 s.x, .int .i64 s.y]

/-- The law is a valid one. -/
structure Lw.Ok (l : Lw) : Prop where
  f1 : 1 ≤ l.fr
  f2 : l.fr ≤ 10
  p1 : 1 ≤ l.pn
  p2 : l.pn ≤ 10
  b : l.bl = 2 ∨ l.bl = 3
  t1 : 1 ≤ l.tp
  t2 : l.tp ≤ l.pn

/-- What a ball counts in its own frame. -/
def cnt (l : Lw) (s : Sd) (k : Int) : Int := if k = -1 then 0 else if s.fresh = true ∧ l.tp ≤ k then l.pn else k

set_option maxHeartbeats 400000 in
theorem done_any (b : Nat) (l : Lw) (s : Sd) (w : World) (h : GameAt w b l s) :
    Calls Tryd.prog 30 #[.pointer (some ⟨b, 0, none⟩)] w fun e w' => e = .returned (.bool (s.f == l.fr)) ∧ ∃ n, w' = w.drewN n := by
  obtain ⟨h0, h1, h2, h3, h4, h5, h6, h7, h8, h9, h10⟩ := h
  go_enter Tryd.func30, Tryd.ntmps30
  go_wp2
  go_quiet (fail)
  go_wp2
  go_ret
  exact ⟨rfl, _, rfl⟩

set_option maxHeartbeats 400000 in
theorem last_any (b : Nat) (l : Lw) (s : Sd) (w : World) (h : GameAt w b l s) (f1 : 1 ≤ l.fr) (f2 : l.fr ≤ 10) :
    Calls Tryd.prog 64 #[.pointer (some ⟨b, 0, none⟩)] w fun e w' => e = .returned (.bool (s.f == l.fr - 1)) ∧ ∃ n, w' = w.drewN n := by
  obtain ⟨h0, h1, h2, h3, h4, h5, h6, h7, h8, h9, h10⟩ := h
  go_enter Tryd.func64, Tryd.ntmps64
  go_wp2
  have e1 : IntKind.i64.wrap (l.fr - 1) = l.fr - 1 := IntWalk.i64_in _ (by omega)
  go_quiet (fail)
  go_wp2
  go_ret
  exact ⟨rfl, _, rfl⟩

set_option maxHeartbeats 400000 in
theorem counts_any (b : Nat) (l : Lw) (s : Sd) (k : Int) (w : World) (h : GameAt w b l s) :
    Calls Tryd.prog 55 #[.pointer (some ⟨b, 0, none⟩), .int .i64 k] w fun e w' => e = .returned (.int .i64 (cnt l s k)) ∧ w = w' := by
  obtain ⟨h0, h1, h2, h3, h4, h5, h6, h7, h8, h9, h10⟩ := h
  obtain ⟨f, b', s', fresh, more, x, y⟩ := s
  by_cases hk : k = -1
  · subst hk
    go_enter Tryd.func55, Tryd.ntmps55
    go_wp2
    go_ret
    exact ⟨rfl, rfl⟩
  · have hkb : (k == -1) = false := by simpa using hk
    cases fresh
    · go_enter Tryd.func55, Tryd.ntmps55
      go_wp2
      go_ret
      exact ⟨by simp [cnt, hk], rfl⟩
    · by_cases ht : l.tp ≤ k
      · go_enter Tryd.func55, Tryd.ntmps55
        go_wp2
        go_ret
        exact ⟨by simp [cnt, hk, ht], rfl⟩
      · have hlt : k < l.tp := by omega
        go_enter Tryd.func55, Tryd.ntmps55
        go_wp2
        go_ret
        exact ⟨congrArg Ending.returned (congrArg (Value.int .i64) (by unfold cnt; rw [if_neg hk, if_neg (fun hh => by have := hh.2; omega)])), rfl⟩

theorem quiet_left {P : Program} {f : FuncId} {args : Array Value} {w : World} {n : Nat} {v : Value}
    (h : Calls P f args (w.drewN n) fun e w' => e = .returned v ∧ w.drewN n = w') : Calls P f args (w.drewN n) fun e w'' => e = .returned v ∧ ∃ m, w'' = w.drewN m :=
  h.mono fun _ _ ⟨he, hm⟩ => ⟨he, n, hm.symm⟩

theorem GameAt.drewN {w : World} {b : Nat} {l : Lw} {s : Sd} (h : GameAt w b l s) (n : Nat) : GameAt (w.drewN n) b l s := by
  obtain ⟨h0, h1, h2, h3, h4, h5, h6, h7, h8, h9, h10⟩ := h
  constructor <;> simpa

theorem cnt_bd (l : Lw) (s : Sd) (k : Int) (ok : l.Ok) (h1 : -1 ≤ k) (h2 : k ≤ 10) : 0 ≤ cnt l s k ∧ cnt l s k ≤ 10 := by
  obtain ⟨f1, f2, p1, p2, hb, t1, t2⟩ := ok
  unfold cnt; split
  · omega
  · split <;> omega

set_option maxHeartbeats 400000 in
theorem adds_any (b : Nat) (l : Lw) (s : Sd) (k : Int) (w : World) (h : GameAt w b l s) (ok : l.Ok) (k1 : -1 ≤ k) (k2 : k ≤ 10) (x1 : 0 ≤ s.x) (x2 : s.x ≤ 3) :
    Calls Tryd.prog 56 #[.pointer (some ⟨b, 0, none⟩), .int .i64 k] w fun e w' => e = .returned (.int .i64 (cnt l s k * (1 + s.x))) ∧ ∃ n, w' = w.drewN n := by
  have hc0 := fun n => counts_any b l s k (w.drewN n) (h.drewN n)
  have hb := cnt_bd l s k ok k1 k2
  have hm1 : 0 ≤ cnt l s k * (1 + s.x) := Int.mul_nonneg hb.1 (by omega)
  have hm2 : cnt l s k * (1 + s.x) ≤ 40 := by
    have : cnt l s k * (1 + s.x) ≤ 10 * 4 := Int.mul_le_mul hb.2 (by omega) (by omega) (by omega)
    omega
  generalize cnt l s k = c at *
  have hc := Lib.hid hc0
  clear hc0
  obtain ⟨h0, h1, h2, h3, h4, h5, h6, h7, h8, h9, h10⟩ := h
  go_enter Tryd.func56, Tryd.ntmps56
  go_wp2
  have e1 : IntKind.i64.wrap (1 + s.x) = 1 + s.x := IntWalk.i64_in _ (by omega)
  have e2 : IntKind.i64.wrap (c * (1 + s.x)) = c * (1 + s.x) := IntWalk.i64_in _ (by omega)
  clear hm1 hm2 hb x1 x2 k1 k2
  go_quiet ((go_at_call 55; exact quiet_left (hc.out _)))
  go_wp2
  go_ret
  exact ⟨rfl, _, rfl⟩

set_option maxHeartbeats 400000 in
theorem takes_any (b : Nat) (l : Lw) (s : Sd) (k : Int) (w : World) (h : GameAt w b l s) :
    Calls Tryd.prog 47 #[.pointer (some ⟨b, 0, none⟩), .int .i64 k] w fun e w' => e = .returned (.bool (!(s.f == l.fr) && decide (-1 ≤ k) && decide (k ≤ s.s))) ∧ ∃ n, w' = w.drewN n := by
  have hd := done_any b l s w h
  obtain ⟨h0, h1, h2, h3, h4, h5, h6, h7, h8, h9, h10⟩ := h
  by_cases hf : s.f = l.fr
  · have hf' : (s.f == l.fr) = true := by simpa using hf
    rw [hf'] at hd ⊢
    go_enter Tryd.func47, Tryd.ntmps47
    go_wp2_with (go_at_call 30; refine hd.mono ?_; rintro e w' ⟨rfl, n, rfl⟩)
    go_ret
    exact ⟨rfl, _, rfl⟩
  · have hf' : (s.f == l.fr) = false := by simpa using hf
    rw [hf'] at hd ⊢
    by_cases hk : -1 ≤ k
    · go_enter Tryd.func47, Tryd.ntmps47
      go_wp2_with (go_at_call 30; refine hd.mono ?_; rintro e w' ⟨rfl, n, rfl⟩)
      go_ret
      exact ⟨by simp [hk], _, rfl⟩
    · go_enter Tryd.func47, Tryd.ntmps47
      go_wp2_with (go_at_call 30; refine hd.mono ?_; rintro e w' ⟨rfl, n, rfl⟩)
      go_ret
      exact ⟨by simp; omega, _, rfl⟩

end Go.Proofs.YtmjbidnlknmcgabDoor

namespace Go.Proofs.YtmjbidnlknmcgabDoor
open Go.RowKit

/-- Block b is a game. -/
structure GB (w : World) (b : Nat) (l : Lw) (s : Sd) : Prop where
  blk : w.heap[b]? = some (.cells #[.int .i64 l.fr, .int .i64 l.pn, .int .i64 l.bl, .int .i64 l.tp, .int .i64 s.f, .int .i64 s.b, .int .i64 s.s, .bool s.fresh, .bool s.more, .int .i64 s.x, .int .i64 s.y] 72 (0, 0))

theorem GB.at {w : World} {b : Nat} {l : Lw} {s : Sd} (h : GB w b l s) : GameAt w b l s := by
  have h := h.blk
  constructor <;> simp [World.cell?, h]

theorem GB.free {w : World} {b : Nat} {l : Lw} {s : Sd} (h : GB w b l s) (i : Nat) : w.frozen? ⟨b, i, none⟩ = false := by
  have h := h.blk
  simp [World.frozen?, h]

theorem blk_setCell {w : World} {b : Nat} {cs : Array Value} {t : TypeId} {r : Nat × Nat} (h : w.heap[b]? = some (.cells cs t r)) (i : Nat) (v : Value) :
    (w.setCell ⟨b, i, none⟩ v).heap[b]? = some (.cells (cs.setIfInBounds i v) t r) := by
  have hlt := lt_of_block h
  have h' : w.heap[b] = .cells cs t r := by simpa [Array.getElem?_eq_getElem hlt] using h
  show (w.heap.modify b _)[b]? = _
  rw [Array.getElem?_eq_getElem (by simpa using hlt), Array.getElem_modify_self, h']
  rfl

theorem grown_set {w w' : World} {b : Nat} (h : w.grownBy w' (some b)) (i : Nat) (v : Value) : w.grownBy (w'.setCell ⟨b, i, none⟩ v) (some b) :=
  ⟨h.os, h.tape, h.output, by simpa using h.size, fun k hk hne => (Below.heap_setCell _ _ _ _ (fun e => hne (by rw [e]))).trans (h.block k hk hne)⟩

theorem grown_drewN {w w' : World} {row : Option Nat} (h : w.grownBy w' row) (n : Nat) : w.grownBy (w'.drewN n) row := by
  cases n <;> exact ⟨h.os, h.tape, h.output, h.size, h.block⟩

section
variable {w : World} {b : Nat} {l : Lw} {s : Sd} (h : GB w b l s)
include h
theorem GB.set4 (v : Int) : GB (w.setCell ⟨b, 4, none⟩ (.int .i64 v)) b l { s with f := v } := ⟨by simpa using blk_setCell h.blk 4 (.int .i64 v)⟩
theorem GB.set5 (v : Int) : GB (w.setCell ⟨b, 5, none⟩ (.int .i64 v)) b l { s with b := v } := ⟨by simpa using blk_setCell h.blk 5 (.int .i64 v)⟩
theorem GB.set6 (v : Int) : GB (w.setCell ⟨b, 6, none⟩ (.int .i64 v)) b l { s with s := v } := ⟨by simpa using blk_setCell h.blk 6 (.int .i64 v)⟩
theorem GB.set7' (v : Bool) : GB (w.setCell ⟨b, 7, none⟩ (.bool v)) b l { s with fresh := v } := ⟨by simpa using blk_setCell h.blk 7 (.bool v)⟩
theorem GB.set8 (v : Bool) : GB (w.setCell ⟨b, 8, none⟩ (.bool v)) b l { s with more := v } := ⟨by simpa using blk_setCell h.blk 8 (.bool v)⟩
theorem GB.set9 (v : Int) : GB (w.setCell ⟨b, 9, none⟩ (.int .i64 v)) b l { s with x := v } := ⟨by simpa using blk_setCell h.blk 9 (.int .i64 v)⟩
theorem GB.set10 (v : Int) : GB (w.setCell ⟨b, 10, none⟩ (.int .i64 v)) b l { s with y := v } := ⟨by simpa using blk_setCell h.blk 10 (.int .i64 v)⟩
theorem GB.drewN (n : Nat) : GB (w.drewN n) b l s := by cases n <;> exact ⟨h.blk⟩
end

def setS (l : Lw) (s : Sd) : Sd := { s with s := l.pn, fresh := true }
def nextS (l : Lw) (s : Sd) : Sd := if s.f + 1 = l.fr then ⟨s.f + 1, 0, 0, false, false, s.x, s.y⟩ else setS l ⟨s.f + 1, 0, 0, false, false, s.x, s.y⟩
def allS (l : Lw) (s : Sd) : Sd := if s.f = l.fr - 1 then { s with more := s.more || decide (s.b < 3) } else { s with x := if s.b ≤ 2 then s.x + 1 else s.x, y := if s.b ≤ 1 then s.y + 1 else s.y }
def endS (l : Lw) (s : Sd) : Bool := if s.f = l.fr - 1 then (if s.more = true then s.b == 3 else s.b == l.bl) else (s.s == 0 || s.b == l.bl)

set_option maxHeartbeats 400000 in
theorem set_any (b : Nat) (l : Lw) (s : Sd) (w : World) (h : GB w b l s) :
    Calls Tryd.prog 61 #[.pointer (some ⟨b, 0, none⟩)] w fun e w' => e = .returned (.tuple #[]) ∧ GB w' b l (setS l s) ∧ w.grownBy w' (some b) := by
  obtain ⟨h0, h1, h2, h3, h4, h5, h6, h7, h8, h9, h10⟩ := h.at
  have z6 := h.free 6
  have z7 := h.free 7
  have H := Lib.hid h
  clear h
  go_enter Tryd.func61, Tryd.ntmps61
  go_wp2
  go_end0
  exact ⟨rfl, (H.out.set6 _).set7' _, grown_set (grown_set (World.grownBy.refl _ _) _ _) _ _⟩

theorem GB.set7 {w : World} {b : Nat} {l : Lw} {s : Sd} (h : GB w b l s) (f bb ss : Int) (fr mo : Bool) (x y : Int) :
    GB (((((((w.setCell ⟨b, 4, none⟩ (.int .i64 f)).setCell ⟨b, 5, none⟩ (.int .i64 bb)).setCell ⟨b, 6, none⟩ (.int .i64 ss)).setCell ⟨b, 7, none⟩ (.bool fr)).setCell ⟨b, 8, none⟩ (.bool mo)).setCell ⟨b, 9, none⟩ (.int .i64 x)).setCell ⟨b, 10, none⟩ (.int .i64 y)) b l ⟨f, bb, ss, fr, mo, x, y⟩ :=
  ((((((h.set4 _).set5 _).set6 _).set7' _).set8 _).set9 _).set10 _

theorem grown_set7 (w : World) (b : Nat) (f bb ss : Int) (fr mo : Bool) (x y : Int) :
    w.grownBy (((((((w.setCell ⟨b, 4, none⟩ (.int .i64 f)).setCell ⟨b, 5, none⟩ (.int .i64 bb)).setCell ⟨b, 6, none⟩ (.int .i64 ss)).setCell ⟨b, 7, none⟩ (.bool fr)).setCell ⟨b, 8, none⟩ (.bool mo)).setCell ⟨b, 9, none⟩ (.int .i64 x)).setCell ⟨b, 10, none⟩ (.int .i64 y)).drew (some b) :=
  grown_drewN (grown_set (grown_set (grown_set (grown_set (grown_set (grown_set (grown_set (World.grownBy.refl _ _) _ _) _ _) _ _) _ _) _ _) _ _) _ _) 1

set_option maxRecDepth 100000 in
set_option maxHeartbeats 1000000 in
theorem next_any (b : Nat) (l : Lw) (s : Sd) (w : World) (h : GB w b l s) (ok : l.Ok) (f1 : 0 ≤ s.f) (f2 : s.f < l.fr) :
    Calls Tryd.prog 60 #[.pointer (some ⟨b, 0, none⟩)] w fun e w' => e = .returned (.tuple #[]) ∧ GB w' b l (nextS l s) ∧ w.grownBy w' (some b) := by
  obtain ⟨h0, h1, h2, h3, h4, h5, h6, h7, h8, h9, h10⟩ := h.at
  have z4 := h.free 4
  have z5 := h.free 5
  have z6 := h.free 6
  have z7 := h.free 7
  have z8 := h.free 8
  have z9 := h.free 9
  have z10 := h.free 10
  have H := Lib.hid h
  have of1 := ok.f1
  have of2 := ok.f2
  clear h ok
  have e1 : IntKind.i64.wrap (s.f + 1) = s.f + 1 := IntWalk.i64_in _ (by omega)
  go_enter Tryd.func60, Tryd.ntmps60
  go_wp2
  go_still_tail 15, (by kernel_rfl)
  go_wp2_with fail
  have hG := H.out.set7 (s.f + 1) 0 0 false false s.x s.y
  have hW := grown_set7 w b (s.f + 1) 0 0 false false s.x s.y
  generalize hw1 : World.drew _ = w1 at hW ⊢
  have hG1 : GB w1 b l ⟨s.f + 1, 0, 0, false, false, s.x, s.y⟩ := by rw [← hw1]; exact hG.drewN 1
  clear hG hw1 h0 h1 h2 h3 h4 h5 h6 h7 h8 h9 h10 z4 z5 z6 z7 z8 z9 z10 e1
  have G := Lib.hid hG1
  have Wg := Lib.hid hW
  clear hG1 hW
  refine (done_any b l ⟨s.f + 1, 0, 0, false, false, s.x, s.y⟩ _ G.out.at).mono ?_
  by_cases hf : s.f + 1 = l.fr
  · have hb : (s.f + 1 == l.fr) = true := by simpa using hf
    have hn : nextS l s = ⟨s.f + 1, 0, 0, false, false, s.x, s.y⟩ := by unfold nextS; rw [if_pos hf]
    have N := Lib.hid hn
    clear hf hn
    rintro e w2 ⟨rfl, n, rfl⟩
    go_wp2_with fail
    go_end0
    exact ⟨rfl, by rw [N.out]; exact G.out.drewN n, grown_drewN Wg.out n⟩
  · have hb : (s.f + 1 == l.fr) = false := by simpa using hf
    have hn : nextS l s = setS l ⟨s.f + 1, 0, 0, false, false, s.x, s.y⟩ := by unfold nextS; rw [if_neg hf]
    have N := Lib.hid hn
    clear hf hn
    rintro e w2 ⟨rfl, n, rfl⟩
    go_wp2_with fail
    refine (set_any b l _ _ (G.out.drewN n)).mono ?_
    rintro e w3 ⟨rfl, hg, hw⟩
    have X := Lib.hid hg
    have Y := Lib.hid hw
    clear hg hw
    go_wp2_with fail
    go_end0
    exact ⟨rfl, by rw [N.out]; exact X.out, (grown_drewN Wg.out n).trans Y.out⟩

end Go.Proofs.YtmjbidnlknmcgabDoor

namespace Go.Proofs.YtmjbidnlknmcgabDoor
open Go.RowKit

set_option maxRecDepth 100000 in
set_option maxHeartbeats 1000000 in
theorem ended_any (b : Nat) (l : Lw) (s : Sd) (w : World) (h : GameAt w b l s) (ok : l.Ok) :
    Calls Tryd.prog 59 #[.pointer (some ⟨b, 0, none⟩)] w fun e w' => e = .returned (.bool (endS l s)) ∧ ∃ n, w' = w.drewN n := by
  have hl := last_any b l s w h ok.f1 ok.f2
  obtain ⟨h0, h1, h2, h3, h4, h5, h6, h7, h8, h9, h10⟩ := h
  clear ok
  by_cases hf : s.f = l.fr - 1
  · have hb : (s.f == l.fr - 1) = true := by simpa using hf
    rw [hb] at hl
    cases hm : s.more
    · rw [hm] at h8
      have hE : endS l s = (s.b == l.bl) := by unfold endS; rw [if_pos hf, hm]; rfl
      have E := Lib.hid hE
      clear hE hf hb hm
      go_enter Tryd.func59, Tryd.ntmps59
      go_wp2_with (go_at_call 64; refine hl.mono ?_; rintro e w' ⟨rfl, n, rfl⟩)
      go_quiet (fail)
      go_wp2
      go_ret
      exact ⟨by rw [E.out]; rfl, _, World.drewN_drewN _ _ _⟩
    · rw [hm] at h8
      have hE : endS l s = (s.b == 3) := by unfold endS; rw [if_pos hf, hm]; rfl
      have E := Lib.hid hE
      clear hE hf hb hm
      go_enter Tryd.func59, Tryd.ntmps59
      go_wp2_with (go_at_call 64; refine hl.mono ?_; rintro e w' ⟨rfl, n, rfl⟩)
      go_ret
      exact ⟨by rw [E.out]; rfl, _, rfl⟩
  · have hb : (s.f == l.fr - 1) = false := by simpa using hf
    rw [hb] at hl
    by_cases hs : s.s = 0
    · have hsb : (s.s == 0) = true := by simpa using hs
      have hE : endS l s = true := by unfold endS; rw [if_neg hf, hsb]; rfl
      have E := Lib.hid hE
      clear hE hf hb hs
      go_enter Tryd.func59, Tryd.ntmps59
      go_wp2_with (go_at_call 64; refine hl.mono ?_; rintro e w' ⟨rfl, n, rfl⟩)
      go_quiet (fail)
      go_wp2
      go_ret
      exact ⟨by rw [E.out]; rfl, _, World.drewN_drewN _ _ _⟩
    · have hsb : (s.s == 0) = false := by simpa using hs
      have hE : endS l s = (s.b == l.bl) := by unfold endS; rw [if_neg hf, hsb]; rfl
      have E := Lib.hid hE
      clear hE hf hb hs
      go_enter Tryd.func59, Tryd.ntmps59
      go_wp2_with (go_at_call 64; refine hl.mono ?_; rintro e w' ⟨rfl, n, rfl⟩)
      go_quiet (fail)
      go_wp2
      go_ret
      exact ⟨by rw [E.out]; rfl, _, World.drewN_drewN _ _ _⟩

/-- A call that only draws keeps the game and all else. -/
theorem keep_gb {f : FuncId} {args : Array Value} {b : Nat} {l : Lw} {s : Sd} {w : World} {v : Value} (h : GB w b l s)
    (c : Calls Tryd.prog f args w fun e w' => e = .returned v ∧ ∃ n, w' = w.drewN n) :
    Calls Tryd.prog f args w fun e w' => e = .returned v ∧ Hid (GB w' b l s) ∧ Hid (w.grownBy w' (some b)) :=
  c.mono fun _ _ ⟨he, n, hw⟩ => ⟨he, Lib.hid (by rw [hw]; exact h.drewN n), Lib.hid (by rw [hw]; exact grown_drewN (World.grownBy.refl _ _) n)⟩

set_option maxRecDepth 100000 in
set_option maxHeartbeats 1000000 in
theorem allDown_last (b : Nat) (l : Lw) (s : Sd) (w : World) (h : GB w b l s) (ok : l.Ok) (hf : s.f = l.fr - 1) :
    Calls Tryd.prog 58 #[.pointer (some ⟨b, 0, none⟩)] w fun e w' => e = .returned (.tuple #[]) ∧ GB w' b l (allS l s) ∧ w.grownBy w' (some b) := by
  have hl := keep_gb h (last_any b l s w h.at ok.f1 ok.f2)
  have hb : (s.f == l.fr - 1) = true := by simpa using hf
  rw [hb] at hl
  have hE : allS l s = { s with more := s.more || decide (s.b < 3) } := by unfold allS; rw [if_pos hf]
  have E := Lib.hid hE
  clear hE hf hb ok h
  go_enter Tryd.func58, Tryd.ntmps58
  go_wp2_with fail
  refine hl.mono ?_
  rintro e w1 ⟨rfl, G, W⟩
  obtain ⟨h0, h1, h2, h3, h4, h5, h6, h7, h8, h9, h10⟩ := G.out.at
  have z8 := G.out.free 8
  cases hm : s.more
  all_goals
    rw [hm] at h8
    have M := Lib.hid hm
    clear hm
    go_wp2
    go_returns
    exact ⟨rfl, by rw [E.out, M.out]; exact G.out.set8 _, grown_set W.out _ _⟩

set_option maxRecDepth 100000 in
set_option maxHeartbeats 1000000 in
theorem allDown_not (b : Nat) (l : Lw) (s : Sd) (w : World) (h : GB w b l s) (ok : l.Ok) (hf : s.f ≠ l.fr - 1) (b1 : 1 ≤ s.b) (b2 : s.b ≤ 3) (x1 : 0 ≤ s.x) (x2 : s.x ≤ 3) (y1 : 0 ≤ s.y) (y2 : s.y ≤ 3) :
    Calls Tryd.prog 58 #[.pointer (some ⟨b, 0, none⟩)] w fun e w' => e = .returned (.tuple #[]) ∧ GB w' b l (allS l s) ∧ w.grownBy w' (some b) := by
  have hl := keep_gb h (last_any b l s w h.at ok.f1 ok.f2)
  have hb : (s.f == l.fr - 1) = false := by simpa using hf
  rw [hb] at hl
  have hE : allS l s = { s with x := if s.b ≤ 2 then s.x + 1 else s.x, y := if s.b ≤ 1 then s.y + 1 else s.y } := by unfold allS; rw [if_neg hf]
  have E := Lib.hid hE
  clear hE hf hb ok h
  have e1 : IntKind.i64.wrap (s.x + 1) = s.x + 1 := IntWalk.i64_in _ (by omega)
  have e2 : IntKind.i64.wrap (s.y + 1) = s.y + 1 := IntWalk.i64_in _ (by omega)
  go_enter Tryd.func58, Tryd.ntmps58
  go_wp2_with fail
  refine hl.mono ?_
  rintro e w1 ⟨rfl, G, W⟩
  obtain ⟨h0, h1, h2, h3, h4, h5, h6, h7, h8, h9, h10⟩ := G.out.at
  have z9 := G.out.free 9
  have z10 := G.out.free 10
  have hb3 : s.b = 1 ∨ s.b = 2 ∨ s.b = 3 := by omega
  rcases hb3 with hb | hb | hb
  · rw [hb] at h5
    have B := Lib.hid hb
    clear hb b1 b2
    go_wp2_with fail
    refine wp_loop_rounds 3 ?_
    rw [rounds_succ]
    go_wp2
    go_still_tail 12, (by kernel_rfl)
    go_wp2
    clear h0 h1 h2 h3 h4 h5 h6 h7 h8 h9 h10 z9 z10
    have G2 := Lib.hid ((G.out.set9 (s.x + 1)).drewN 1)
    have W2 := Lib.hid (grown_drewN (grown_set W.out 9 (.int .i64 (s.x + 1))) 1)
    obtain ⟨w2, hw2⟩ : ∃ w2, w2 = (w1.setCell ⟨b, 9, none⟩ (.int .i64 (s.x + 1))).drew := ⟨_, rfl⟩
    rw [← hw2]
    have G3 : Hid (GB w2 b l { s with x := s.x + 1 }) := Lib.hid (by rw [hw2]; exact G2.out)
    have W3 : Hid (w.grownBy w2 (some b)) := Lib.hid (by rw [hw2]; exact W2.out)
    clear hw2 G2 W2
    obtain ⟨h0, h1, h2, h3, h4, h5, h6, h7, h8, h9, h10⟩ := G3.out.at
    have z10 := G3.out.free 10
    rw [rounds_succ]
    go_wp2
    go_still_tail 12, (by kernel_rfl)
    go_wp2
    rw [rounds_succ]
    go_wp2
    go_returns
    exact ⟨rfl, by rw [E.out, if_pos (by have := B.out; omega), if_pos (by have := B.out; omega)]; exact (G3.out.set10 (s.y + 1)).drewN 1, grown_drewN (grown_set W3.out _ _) 1⟩
  · rw [hb] at h5
    have B := Lib.hid hb
    clear hb b1 b2
    go_wp2_with fail
    refine wp_loop_rounds 2 ?_
    rw [rounds_succ]
    go_wp2
    go_still_tail 12, (by kernel_rfl)
    go_wp2
    rw [rounds_succ]
    go_wp2
    go_returns
    exact ⟨rfl, by rw [E.out, if_pos (by have := B.out; omega), if_neg (by have := B.out; omega)]; exact (G.out.set9 (s.x + 1)).drewN 1, grown_drewN (grown_set W.out _ _) 1⟩
  · rw [hb] at h5
    have B := Lib.hid hb
    clear hb b1 b2
    go_wp2_with fail
    refine wp_loop_rounds 1 ?_
    rw [rounds_succ]
    go_wp2
    go_returns
    exact ⟨rfl, by rw [E.out, if_neg (by have := B.out; omega), if_neg (by have := B.out; omega)]; exact G.out, W.out⟩

theorem allDown_any (b : Nat) (l : Lw) (s : Sd) (w : World) (h : GB w b l s) (ok : l.Ok) (b1 : 1 ≤ s.b) (b2 : s.b ≤ 3) (x1 : 0 ≤ s.x) (x2 : s.x ≤ 3) (y1 : 0 ≤ s.y) (y2 : s.y ≤ 3) :
    Calls Tryd.prog 58 #[.pointer (some ⟨b, 0, none⟩)] w fun e w' => e = .returned (.tuple #[]) ∧ Hid (GB w' b l (allS l s)) ∧ Hid (w.grownBy w' (some b)) := by
  by_cases hf : s.f = l.fr - 1
  · exact (allDown_last b l s w h ok hf).mono fun _ _ ⟨a, c, d⟩ => ⟨a, Lib.hid c, Lib.hid d⟩
  · exact (allDown_not b l s w h ok hf b1 b2 x1 x2 y1 y2).mono fun _ _ ⟨a, c, d⟩ => ⟨a, Lib.hid c, Lib.hid d⟩

end Go.Proofs.YtmjbidnlknmcgabDoor

namespace Go.Proofs.YtmjbidnlknmcgabDoor
open Go.RowKit

/-- Block b holds the five words. -/
structure T5 (w : World) (b : Nat) (g : Nat → Int) : Prop where
  blk : w.heap[b]? = some (.cells #[.int .u64 (g 0), .int .u64 (g 1), .int .u64 (g 2), .int .u64 (g 3), .int .u64 (g 4)] 82 (0, 0))

def tval (g : Nat → Int) : Value := .agg #[.int .u64 (g 0), .int .u64 (g 1), .int .u64 (g 2), .int .u64 (g 3), .int .u64 (g 4)]

theorem five {k : Nat} (h : k < 5) : k = 0 ∨ k = 1 ∨ k = 2 ∨ k = 3 ∨ k = 4 := by omega

theorem T5.cell {w : World} {b : Nat} {g : Nat → Int} (h : T5 w b g) (k : Nat) (hk : k < 5) : w.cell? ⟨b, k, none⟩ = some (.int .u64 (g k)) := by
  have h := h.blk
  rcases five hk with rfl | rfl | rfl | rfl | rfl <;> simp [World.cell?, h]

theorem T5.free {w : World} {b : Nat} {g : Nat → Int} (h : T5 w b g) (k : Nat) : w.frozen? ⟨b, k, none⟩ = false := by
  have h := h.blk
  simp [World.frozen?, h]

theorem T5.set {w : World} {b : Nat} {g : Nat → Int} (h : T5 w b g) (k : Nat) (hk : k < 5) (v : Int) : T5 (w.setCell ⟨b, k, none⟩ (.int .u64 v)) b (fun i => if i = k then v else g i) := by
  have h := blk_setCell h.blk k (.int .u64 v)
  rcases five hk with rfl | rfl | rfl | rfl | rfl <;> exact ⟨by simpa using h⟩

theorem T5.drewN {w : World} {b : Nat} {g : Nat → Int} (h : T5 w b g) (n : Nat) : T5 (w.drewN n) b g := by cases n <;> exact ⟨h.blk⟩

theorem T5.far {w w' : World} {b c : Nat} {g : Nat → Int} (h : T5 w b g) (hg : w.grownBy w' (some c)) (hne : b ≠ c) : T5 w' b g :=
  ⟨(hg.block b (lt_of_block h.blk) (fun e => hne (by cases e; rfl))).trans h.blk⟩

/-- The word k behind the join. -/
def nw (t o : Nat → Nat) (q r k : Nat) : Nat :=
  if q < k then (t k ||| (o (k - q) * 2 ^ r % 2 ^ 64)) ||| (o (k - q - 1) / 2 ^ (64 - r)) else t k ||| (o (k - q) * 2 ^ r % 2 ^ 64)
def jk (t o : Nat → Nat) (q r k i : Nat) : Nat := if q ≤ i ∧ i < k then nw t o q r i else t i
def jn (t o : Nat → Nat) (q r i : Nat) : Nat := if q ≤ i then nw t o q r i else t i

theorem jk_step (t o : Nat → Nat) (q r k : Nat) (v1 v2 : Int) (g : Nat → Int) (hk : q ≤ k) (hg : ∀ i, g i = ((jk t o q r k i : Nat) : Int)) (hv : v2 = ((nw t o q r k : Nat) : Int)) (i : Nat) :
    (if i = k then v2 else if i = k then v1 else g i) = ((jk t o q r (k + 1) i : Nat) : Int) := by
  unfold jk at *
  by_cases h : i = k
  · subst h; rw [if_pos rfl, hv, if_pos ⟨hk, by omega⟩]
  · rw [if_neg h, if_neg h, hg]
    by_cases h2 : q ≤ i ∧ i < k
    · rw [if_pos h2, if_pos ⟨h2.1, by omega⟩]
    · rw [if_neg h2, if_neg (by omega)]

theorem jk_step1 (t o : Nat → Nat) (q r k : Nat) (v2 : Int) (g : Nat → Int) (hk : q ≤ k) (hg : ∀ i, g i = ((jk t o q r k i : Nat) : Int)) (hv : v2 = ((nw t o q r k : Nat) : Int)) (i : Nat) :
    (if i = k then v2 else g i) = ((jk t o q r (k + 1) i : Nat) : Int) := by
  have := jk_step t o q r k 0 v2 g hk hg hv i
  by_cases h : i = k
  · rw [if_pos h] at this ⊢; exact this
  · rw [if_neg h, if_neg h] at this; rw [if_neg h]; exact this

theorem or_nat (a b : Nat) (ha : a < 2 ^ 64) (hb : b < 2 ^ 64) : bits BinOp.or IntKind.u64 (a : Int) (b : Int) = ((a ||| b : Nat) : Int) := by
  exact bits_or_u64_nat a b ha hb

theorem wrap_nat (a r : Nat) : IntKind.u64.wrap ((a : Int) * 2 ^ r) = ((a * 2 ^ r % 2 ^ 64 : Nat) : Int) := by
  have e : (a : Int) * 2 ^ r = ((a * 2 ^ r : Nat) : Int) := by simp
  rw [IntKind.wrap_u64, e]
  generalize a * 2 ^ r = m
  omega

theorem nw_one (t o : Nat → Nat) (q r : Nat) (ht : ∀ i, t i < 2 ^ 64) (ho : ∀ i, o i < 2 ^ 64) (k j : Nat) (hj : k - q = j) (hk : ¬ q < k) :
    bits BinOp.or IntKind.u64 (t k : Int) (IntKind.u64.wrap ((o j : Int) * 2 ^ r)) = ((nw t o q r k : Nat) : Int) := by
  rw [wrap_nat, or_nat _ _ (ht k) (Nat.mod_lt _ (by decide)), nw, if_neg hk, hj]

theorem nw_two (t o : Nat → Nat) (q r : Nat) (ht : ∀ i, t i < 2 ^ 64) (ho : ∀ i, o i < 2 ^ 64) (k j i : Nat) (hj : k - q = j) (hi : j - 1 = i) (hk : q < k) :
    bits BinOp.or IntKind.u64 (bits BinOp.or IntKind.u64 (t k : Int) (IntKind.u64.wrap ((o j : Int) * 2 ^ r))) ((o i : Int) / 2 ^ (64 - r)) = ((nw t o q r k : Nat) : Int) := by
  have e : (o i : Int) / 2 ^ (64 - r) = ((o i / 2 ^ (64 - r) : Nat) : Int) := by simp
  have hd : o i / 2 ^ (64 - r) < 2 ^ 64 := Nat.lt_of_le_of_lt (Nat.div_le_self _ _) (ho i)
  have hm : o j * 2 ^ r % 2 ^ 64 < 2 ^ 64 := Nat.mod_lt _ (by decide)
  rw [wrap_nat, or_nat _ _ (ht k) hm, e, or_nat _ _ (Nat.or_lt_two_pow (ht k) hm) hd, nw, if_pos hk, hj, hi]

set_option maxRecDepth 100000 in
set_option maxHeartbeats 2000000 in
theorem join_any (b : Nat) (tn on : Nat → Nat) (q r : Nat) (w : World) (h : T5 w b (fun i => (tn i : Int))) (hr : r < 64) (hq : q ≤ 4) (ht : ∀ i, tn i < 2 ^ 64) (ho : ∀ i, on i < 2 ^ 64) :
    Calls Tryd.prog 49 #[.pointer (some ⟨b, 0, none⟩), tval (fun i => (on i : Int)), .int .i64 ((q * 64 + r : Nat) : Int)] w fun e w' =>
      e = .returned (.tuple #[]) ∧ Hid (T5 w' b (fun i => ((jn tn on q r i : Nat) : Int))) ∧ Hid (w.grownBy w' (some b)) := by
  have HT := Lib.hid ht
  have HO := Lib.hid ho
  clear ht ho
  unfold tval
  have hst := Lib.hid (fun (i k : Nat) (v1 v2 : Int) (g : Nat → Int) (hk : q ≤ k) (hg : ∀ i, g i = ((jk tn on q r k i : Nat) : Int)) (hv : v2 = ((nw tn on q r k : Nat) : Int)) => jk_step tn on q r k v1 v2 g hk hg hv i)
  have hst1 := Lib.hid (fun (i k : Nat) (v2 : Int) (g : Nat → Int) (hk : q ≤ k) (hg : ∀ i, g i = ((jk tn on q r k i : Nat) : Int)) (hv : v2 = ((nw tn on q r k : Nat) : Int)) => jk_step1 tn on q r k v2 g hk hg hv i)
  have hnw1 := Lib.hid (nw_one tn on q r HT.out HO.out)
  have hnw2 := Lib.hid (nw_two tn on q r HT.out HO.out)
  obtain ⟨t, htn⟩ : ∃ t : Nat → Int, Hid (∀ i, t i = (tn i : Int)) := ⟨_, Lib.hid (fun _ => rfl)⟩
  obtain ⟨o, hon⟩ : ∃ o : Nat → Int, Hid (∀ i, o i = (on i : Int)) := ⟨_, Lib.hid (fun _ => rfl)⟩
  have h : T5 w b t := by rw [show t = fun i => (tn i : Int) from funext htn.out]; exact h
  simp only [← hon.out]
  have hb : b < w.heap.size := lt_of_block h.blk
  have hbne : w.heap.size ≠ b := by omega
  have d1 : ((q * 64 + r : Nat) : Int) / 64 = q := by omega
  have d2 : ((q * 64 + r : Nat) : Int) % 64 = r := by omega
  have d3 : ((q * 64 + r : Nat) : Int).tdiv 64 = q := by rw [Int.tdiv_eq_ediv_of_nonneg (by omega)]; exact d1
  have d4 : ((q * 64 + r : Nat) : Int).tmod 64 = r := by rw [Int.tmod_eq_emod_of_nonneg (by omega)]; exact d2
  obtain ⟨n, hn⟩ : ∃ n : Int, n = ((q * 64 + r : Nat) : Int) := ⟨_, rfl⟩
  have hn0 : 0 ≤ n := by omega
  have hn1 : n ≤ 400 := by omega
  rw [← hn] at d1 d2 d3 d4 ⊢
  clear hn
  go_enter Tryd.func49, Tryd.ntmps49
  go_wp2
  have A := Lib.hid (show T5 (w.alloc (.cells #[.int .u64 (o 0), .int .u64 (o 1), .int .u64 (o 2), .int .u64 (o 3), .int .u64 (o 4)] 82)) b t from ⟨(Below.heap_alloc _ _ _ hb).trans h.blk⟩)
  have B := Lib.hid (show T5 (w.alloc (.cells #[.int .u64 (o 0), .int .u64 (o 1), .int .u64 (o 2), .int .u64 (o 3), .int .u64 (o 4)] 82)) w.heap.size o from ⟨heap_alloc_new w _⟩)
  have C := Lib.hid (World.grownBy_alloc w (.cells #[.int .u64 (o 0), .int .u64 (o 1), .int .u64 (o 2), .int .u64 (o 3), .int .u64 (o 4)] 82) (some b))
  generalize World.alloc w _ = w1 at A B C ⊢
  clear h hn0 hn1 d1 d2 d3 d4
  go_loopw [8] (fun i wr => ∃ (k : Nat) (g : Nat → Int), q ≤ k ∧ k ≤ 5 ∧ i = .int .i64 k ∧ Hid (∀ i, g i = ((jk tn on q r k i : Nat) : Int)) ∧ Hid (T5 wr b g) ∧ Hid (T5 wr w.heap.size o) ∧ Hid (w.grownBy wr (some b))) (fun i _ => 5 - (intOf i).toNat)
  case atStart => exact ⟨q, t, Nat.le_refl _, by omega, rfl, Lib.hid (fun i => by rw [htn.out, jk, if_neg (by omega)]), A, B, C⟩
  case round =>
    obtain ⟨k, g, hk1, hk2, rfl, hg, A, B, C⟩ := hrel
    by_cases hlt : k < 5
    · have c1 := A.out.cell k hlt
      have f1 := A.out.free k
      obtain ⟨j, e1⟩ : ∃ j : Nat, (k : Int) - (q : Int) = j := ⟨k - q, by omega⟩
      have hj : j ≤ 4 := by omega
      have hj5 : (j : Int) < 5 := by omega
      have c2 := B.out.cell j (by omega)
      have e2 : IntKind.i64.wrap (j : Int) = j := IntWalk.i64_in _ (by omega)
      by_cases hqk : q < k
      · obtain ⟨i, e3⟩ : ∃ i : Nat, (j : Int) - 1 = i := ⟨j - 1, by omega⟩
        have hi : i ≤ 4 := by omega
        have hi5 : (i : Int) < 5 := by omega
        have e4 : IntKind.i64.wrap (i : Int) = i := IntWalk.i64_in _ (by omega)
        have e5 : IntKind.i64.wrap (64 - (r : Int)) = 64 - (r : Int) := IntWalk.i64_in _ (by omega)
        have hqk1 : (q : Int) < (k : Int) := by omega
        go_wp2
        go_still_tail 15, (by kernel_rfl)
        go_wp2_with fail
        have A2 := Lib.hid ((A.out.set k hlt (bits BinOp.or IntKind.u64 (g k) (IntKind.u64.wrap (o j * 2 ^ r)))).drewN 1)
        have G2 := Lib.hid (grown_drewN (grown_set (World.grownBy.refl wr (some b)) k (.int .u64 (bits BinOp.or IntKind.u64 (g k) (IntKind.u64.wrap (o j * 2 ^ r))))) 1)
        obtain ⟨v1, hv1⟩ : ∃ v1, Hid (v1 = bits BinOp.or IntKind.u64 (g k) (IntKind.u64.wrap (o j * 2 ^ r))) := ⟨_, Lib.hid rfl⟩
        rw [← hv1.out] at A2 G2 ⊢
        have B2 := Lib.hid (B.out.far G2.out (by omega))
        have C2 := Lib.hid (C.out.trans G2.out)
        generalize hw2 : World.drew _ = w2
        have A3 : Hid (T5 w2 b (fun i => if i = k then v1 else g i)) := by rw [← hw2]; exact A2
        have B3 : Hid (T5 w2 w.heap.size o) := by rw [← hw2]; exact B2
        have C3 : Hid (w.grownBy w2 (some b)) := by rw [← hw2]; exact C2
        clear hw2 A2 B2 C2 G2 c1 f1 c2
        have c1 : w2.cell? ⟨b, k, none⟩ = some (.int .u64 v1) := by simpa using A3.out.cell k hlt
        have f1 := A3.out.free k
        have c3 := B3.out.cell i (by omega)
        go_wp2
        go_still_tail 17, (by kernel_rfl)
        go_wp2_with fail
        go_roundw
        case rel =>
          refine ⟨k + 1, _, by omega, by omega, by go_num, Lib.hid (fun i' => hst.out i' k v1 _ g hk1 hg.out ?_), Lib.hid ((A3.out.set k hlt _).drewN 1), Lib.hid (B3.out.far (grown_drewN (grown_set (World.grownBy.refl w2 (some b)) k _) 1) hbne), Lib.hid (grown_drewN (grown_set C3.out k _) 1)⟩
          rw [hv1.out, hg.out k, jk, if_neg (by omega), hon.out, hon.out]
          exact hnw2.out k j i (by omega) (by omega) hqk
        case measure => simp [intOf]; omega
      · have hqk1 : ¬ (q : Int) < (k : Int) := by omega
        go_wp2
        go_still_tail 15, (by kernel_rfl)
        go_wp2_with fail
        go_roundw
        case rel =>
          refine ⟨k + 1, _, by omega, by omega, by go_num, Lib.hid (fun i' => hst1.out i' k _ g hk1 hg.out ?_), Lib.hid ((A.out.set k hlt _).drewN 1), Lib.hid (B.out.far (grown_drewN (grown_set (World.grownBy.refl wr (some b)) k _) 1) hbne), Lib.hid (grown_drewN (grown_set C.out k _) 1)⟩
          rw [hg.out k, jk, if_neg (by omega), hon.out]
          exact hnw1.out k j (by omega) hqk
        case measure => simp [intOf]; omega
    · go_wp2
      go_returns
      have hk5 : k = 5 := by omega
      exact ⟨rfl, Lib.hid ⟨by have h := A.out.blk; simp only [hg.out, hk5] at h; simpa [jk, jn] using h⟩, C⟩

end Go.Proofs.YtmjbidnlknmcgabDoor

namespace Go.Proofs.YtmjbidnlknmcgabDoor
open Go.RowKit

set_option maxRecDepth 100000 in
set_option maxHeartbeats 1000000 in
theorem tz_core (x k idx : Nat) (w : World) (hx0 : ((x : Int) == 0) = false)
    (key : IntKind.u64.wrap (bits BinOp.and IntKind.u64 (x : Int) (IntKind.u64.wrap (-(x : Int))) * 285870213051353865) / 288230376151711744 = (idx : Int))
    (hi : idx < 64) (hcell : w.cell? ⟨0, idx, none⟩ = some (.int .u8 k)) (hk : k < 64) :
    Calls Tryd.prog 62 #[.int .u64 x] w fun e w' => e = .returned (.int .i64 k) ∧ w = w' := by
  go_enter Tryd.func62, Tryd.ntmps62
  go_wp2_with (simp only [key])
  go_ret
  exact ⟨rfl, rfl⟩

/-- The library's table in its variable. -/
def TabOK (w : World) : Prop := ∀ j, j < Lib.deBruijn64tab.length → w.cell? ⟨0, j, none⟩ = some (.int .u8 (Lib.deBruijn64tab.getD j 0))

theorem tz_any (x : Nat) (w : World) (h0 : x ≠ 0) (hx : x < 2 ^ 64) (hT : TabOK w) :
    Calls Tryd.prog 62 #[.int .u64 x] w fun e w' => e = .returned (.int .i64 (Lib.ctz 64 x)) ∧ w = w' := by
  obtain ⟨hlow, hk⟩ := Lib.lowest_bit 64 x h0 hx
  obtain ⟨hi, htab⟩ := Lib.deBruijn64_at _ hk
  have hcell := hT _ hi
  rw [htab] at hcell
  exact tz_core x _ _ w (by simp; omega) (tz64_key x _ hx h0 hlow) hi hcell hk

theorem tab_len (n : Nat) (h : n < Lib.len8tab.size) (h' : n < 256) : (((Lib.len8tab[n]'h).toNat : Nat) : Int) = (Lib.bitLen n : Int) := by
  have e := Lib.len8_of (n : Int) (by omega) (by omega)
  rw [Int.toNat_natCast] at e
  rw [← e, Lib.len8, Int.toNat_natCast, getElem?_pos Lib.len8tab n h]
  rfl

theorem w_in {a : Int} (h0 : 0 ≤ a) (h1 : a ≤ 1000) : wrap64 a = a := IntWalk.wrap64_in a ⟨by omega, by omega⟩

theorem len_fin (c y : Int) (x : Nat) (hc0 : 0 ≤ c) (hc1 : c ≤ 56) (hy0 : 0 ≤ y) (hy1 : y < 256) (h : y.toNat < Lib.len8tab.size) (e : (Lib.bitLen x : Int) = c + Lib.bitLen y.toNat) :
    wrap64 (c + wrap64 (((Lib.len8tab[y.toNat]'h).toNat : Nat) : Int)) = (Lib.bitLen x : Int) := by
  have l := Lib.bitLen_le8' y hy0 (by omega)
  rw [tab_len _ h (by omega), w_in (a := (Lib.bitLen y.toNat : Int)) (by omega) (by omega), w_in (by omega) (by omega), e]

theorem len_fin0 (x : Int) (hy0 : 0 ≤ x) (hy1 : x < 256) (h : x.toNat < Lib.len8tab.size) :
    wrap64 (wrap64 (((Lib.len8tab[x.toNat]'h).toNat : Nat) : Int)) = (Lib.bitLen x.toNat : Int) := by
  have l := Lib.bitLen_le8' x hy0 (by omega)
  rw [tab_len _ h (by omega), w_in (a := (Lib.bitLen x.toNat : Int)) (by omega) (by omega), w_in (by omega) (by omega)]

theorem len_shift (k : Nat) (x y : Int) (hx : 0 ≤ x) (h1 : x ≤ 18446744073709551615) (h : (2 : Int) ^ k ≤ x) (e : y.toNat = x.toNat / 2 ^ k) : (Lib.bitLen x.toNat : Int) = (k : Int) + Lib.bitLen y.toNat := by
  have h2 : 2 ^ k ≤ x.toNat := by
    have h3 : ((2 ^ k : Nat) : Int) = (2 : Int) ^ k := by simp
    omega
  rw [Lib.bitLen_shift k x.toNat h2 (by omega), e]
  omega

set_option maxRecDepth 100000 in
set_option maxHeartbeats 4000000 in
theorem len_any (x : Int) (w : World) (h0 : 0 ≤ x) (h1 : x ≤ 18446744073709551615) :
    Calls Tryd.prog 63 #[.int .u64 x] w fun e w' => e = .returned (.int .i64 (Lib.bitLen x.toNat)) ∧ w = w' := by
  have hsz : (Lib.len8tab.size : Int) = 256 := by decide +kernel
  go_enter Tryd.func63, Tryd.ntmps63
  go_wp2
  all_goals try (go_ret; refine ⟨congrArg Ending.returned (congrArg (Value.int IntKind.i64) ?_), rfl⟩)
  · exact len_fin 56 _ _ (by omega) (by omega) (by omega) (by omega) _ (len_shift 56 _ _ h0 h1 (by omega) (by omega))
  · exact len_fin 48 _ _ (by omega) (by omega) (by omega) (by omega) _ (len_shift 48 _ _ h0 h1 (by omega) (by omega))
  · exact len_fin 40 _ _ (by omega) (by omega) (by omega) (by omega) _ (len_shift 40 _ _ h0 h1 (by omega) (by omega))
  · exact len_fin 32 _ _ (by omega) (by omega) (by omega) (by omega) _ (len_shift 32 _ _ h0 h1 (by omega) (by omega))
  · exact len_fin 24 _ _ (by omega) (by omega) (by omega) (by omega) _ (len_shift 24 _ _ h0 h1 (by omega) (by omega))
  · exact len_fin 16 _ _ (by omega) (by omega) (by omega) (by omega) _ (len_shift 16 _ _ h0 h1 (by omega) (by omega))
  · exact len_fin 8 _ _ (by omega) (by omega) (by omega) (by omega) _ (len_shift 8 _ _ h0 h1 (by omega) (by omega))
  · exact len_fin0 _ h0 (by omega) _

end Go.Proofs.YtmjbidnlknmcgabDoor
