/- The contracts of the small functions of a rack: bounds, distances, places, links. -/
import Derived.Test.YtaloffdkadhhnaaDoorProg
import Derived.Test.YtaloffdkadhhnaaDoorIt
import Derived.WalkKit
import Derived.WalkSpells
import Derived.WalkLawsBesides
import Derived.BigQuiet
import Derived.Deep.QuietTactic
import Derived.Handy
import Derived.Lib.Hide
import Derived.StillTailTactics
import Derived.Deep.RegionWith
import Derived.Maps.AppendAt
set_option linter.unusedVariables false
set_option linter.unusedSimpArgs false
namespace Go.Proofs.YtaloffdkadhhnaaDoor
open Go.RowKit

def inB (n lo hi : Int) : Bool := decide (lo ≤ n) && decide (n ≤ hi)
theorem inB_iff {n lo hi : Int} : inB n lo hi = true ↔ lo ≤ n ∧ n ≤ hi := by unfold inB; simp

set_option maxHeartbeats 400000 in
theorem within_any (n lo hi : Int) (w : World) :
    Calls Tryd.prog 87 #[.int .i64 n, .int .i64 lo, .int .i64 hi] w fun e w' => e = .returned (.bool (inB n lo hi)) ∧ w = w' := by
  unfold inB
  by_cases h : lo ≤ n
  · go_enter Tryd.func87, Tryd.ntmps87
    go_wp2
    go_ret
    exact ⟨by simp [h], rfl⟩
  · have h' : n < lo := by omega
    go_enter Tryd.func87, Tryd.ntmps87
    go_wp2
    go_ret
    exact ⟨by rw [decide_eq_false (show ¬ lo ≤ n by omega)]; rfl, rfl⟩

def dist (a b : Int) : Int := if b ≤ a then a - b else b - a

set_option maxHeartbeats 400000 in
theorem apart_any (a b : Int) (w : World) (a1 : -100000 ≤ a) (a2 : a ≤ 100000) (b1 : -100000 ≤ b) (b2 : b ≤ 100000) :
    Calls Tryd.prog 119 #[.int .i64 a, .int .i64 b] w fun e w' => e = .returned (.int .i64 (dist a b)) ∧ w = w' := by
  unfold dist
  by_cases h : b ≤ a
  · rw [if_pos h]
    go_enter Tryd.func119, Tryd.ntmps119
    go_wp2
    go_ret
    exact ⟨rfl, rfl⟩
  · rw [if_neg h]
    go_enter Tryd.func119, Tryd.ntmps119
    go_wp2
    go_ret
    exact ⟨rfl, rfl⟩

/-- A link, and a rack: the four numbers, and the links that its slice holds. -/
structure Lk where
  fr : Int
  to : Int
  sr : Bool
structure Rk where
  rows : Int
  mid : Int
  gap : Int
  reach : Int
  la : Option Addr
  lc : Nat
  ls : List Lk
def Lk.val (l : Lk) : Value := .agg #[.int .i64 l.fr, .int .i64 l.to, .bool l.sr]
def Rk.val (r : Rk) : Value := .agg #[.int .i64 r.rows, .int .i64 r.mid, .int .i64 r.gap, .int .i64 r.reach, .slice r.la r.ls.length r.lc]

/-- What is right in a rack, apart from its links. -/
structure Rk.Ok (r : Rk) : Prop where
  r1 : 1 ≤ r.rows
  r2 : r.rows ≤ 4
  m1 : 0 ≤ r.mid
  m2 : r.mid ≤ 60
  g1 : 1 ≤ r.gap
  g2 : r.gap ≤ 8
  c1 : 0 ≤ r.reach
  c2 : r.reach ≤ 10

def pinsN (rows : Int) : Int := if rows = 1 then 1 else if rows = 2 then 3 else if rows = 3 then 6 else 10

set_option maxHeartbeats 400000 in
theorem pins_any (r : Rk) (w : World) (h1 : 1 ≤ r.rows) (h2 : r.rows ≤ 4) :
    Calls Tryd.prog 57 #[r.val] w fun e w' => e = .returned (.int .i64 (pinsN r.rows)) ∧ Below w.heap.size w w' := by
  obtain ⟨rows, mid, gap, reach, la, lc, ls⟩ := r
  have h : rows = 1 ∨ rows = 2 ∨ rows = 3 ∨ rows = 4 := by simp only at h1 h2; omega
  unfold Rk.val
  rcases h with rfl | rfl | rfl | rfl <;>
  · clear h1 h2
    go_enter Tryd.func57, Tryd.ntmps57
    go_wp2
    go_ret
    exact ⟨rfl, (Below.refl _ _).alloc (Nat.le_refl _) _⟩

theorem below_al (w : World) (o : Obj) : Below w.heap.size w (w.alloc o) := (Below.refl _ _).alloc (Nat.le_refl _) _
theorem below_al2 {w W : World} (h : Below w.heap.size w W) (o : Obj) : Below w.heap.size w (W.alloc o) := h.alloc h.size _
theorem below_dN {w W : World} {B : Nat} (h : Below B w W) (n : Nat) : Below B w (W.drewN n) := ⟨h.os, h.tape, h.output, h.size, h.block⟩
/-- What a call leaves of the blocks that lay. -/
theorem lo_cell {w W : World} (h : Below w.heap.size w W) (b o : Nat) (hb : b < w.heap.size) : W.cell? ⟨b, o, none⟩ = w.cell? ⟨b, o, none⟩ ∧ W.frozen? ⟨b, o, none⟩ = w.frozen? ⟨b, o, none⟩ := ⟨h.cell (p := ⟨b, o, none⟩) hb, h.frozen (p := ⟨b, o, none⟩) hb⟩
theorem below_go {w W W' : World} (h : Below w.heap.size w W) (h2 : Below W.heap.size W W') : Below w.heap.size w W' := h.trans (h2.mono h.size)

set_option maxHeartbeats 400000 in
theorem hasPin_any (r : Rk) (p : Int) (w : World) (h1 : 1 ≤ r.rows) (h2 : r.rows ≤ 4) :
    Calls Tryd.prog 102 #[r.val, .int .i64 p] w fun e w' => e = .returned (.bool (inB p 0 (pinsN r.rows - 1))) ∧ Below w.heap.size w w' := by
  have hp := Lib.hid (fun w => pins_any r w h1 h2)
  have hn1 : 0 ≤ pinsN r.rows := by unfold pinsN; split <;> (try split) <;> (try split) <;> omega
  have hn2 : pinsN r.rows ≤ 10 := by unfold pinsN; split <;> (try split) <;> (try split) <;> omega
  have hW := Lib.hid (fun a b c w => within_any a b c w)
  generalize pinsN r.rows = n at *
  unfold Rk.val at *
  clear h1 h2
  go_enter Tryd.func102, Tryd.ntmps102
  go_wp2_with fail
  refine (hp.out _).mono ?_
  rintro e w1 ⟨rfl, hb⟩
  have B1 := Lib.hid (below_go (below_al w _) hb)
  clear hb
  go_wp2_with fail
  refine (hW.out _ _ _ _).mono ?_
  rintro e w2 ⟨rfl, rfl⟩
  go_wp2_with fail
  go_ret
  exact ⟨rfl, B1.out⟩

/-- The row of a pin, and which one it is there. -/
def rowN (p : Int) : Int := if p < 1 then 0 else if p < 3 then 1 else if p < 6 then 2 else 3
def kN (p : Int) : Int := if p < 1 then p else if p < 3 then p - 1 else if p < 6 then p - 3 else p - 6
def tri (i : Int) : Int := if i = 0 then 0 else if i = 1 then 1 else if i = 2 then 3 else if i = 3 then 6 else 10
def boardN (r : Rk) (p : Int) : Int := r.mid + r.gap * (2 * kN p - rowN p)
def plcV (r : Rk) (p : Int) : Value := .agg #[.int .i64 (rowN p), .int .i64 (boardN r p)]

theorem gap_bd {g x : Int} (g1 : 1 ≤ g) (g2 : g ≤ 8) (x1 : -3 ≤ x) (x2 : x ≤ 3) : -24 ≤ g * x ∧ g * x ≤ 24 := by
  have : x = -3 ∨ x = -2 ∨ x = -1 ∨ x = 0 ∨ x = 1 ∨ x = 2 ∨ x = 3 := by omega
  rcases this with rfl | rfl | rfl | rfl | rfl | rfl | rfl <;> omega
theorem rowN_bd {p : Int} (h1 : 0 ≤ p) (h2 : p ≤ 9) : 0 ≤ rowN p ∧ rowN p ≤ 3 ∧ 0 ≤ kN p ∧ kN p ≤ rowN p := by
  unfold rowN kN; split
  · omega
  · split
    · omega
    · split <;> omega
theorem boardN_bd {r : Rk} {p : Int} (ok : r.Ok) (h1 : 0 ≤ p) (h2 : p ≤ 9) : -24 ≤ boardN r p ∧ boardN r p ≤ 84 := by
  have h := rowN_bd h1 h2
  have := gap_bd ok.g1 ok.g2 (x := 2 * kN p - rowN p) (by omega) (by omega)
  have := ok.m1; have := ok.m2
  unfold boardN; omega

set_option maxHeartbeats 1000000 in
theorem place_any (r : Rk) (p : Int) (w : World) (ok : r.Ok) (p1 : 0 ≤ p) (p2 : p < pinsN r.rows) :
    Calls Tryd.prog 116 #[r.val, .int .i64 p] w fun e w' => e = .returned (plcV r p) ∧ Below w.heap.size w w' := by
  have hp9 : p ≤ 9 := by have : pinsN r.rows ≤ 10 := by (unfold pinsN; split <;> (try split) <;> (try split) <;> omega)
                         omega
  have hbd := boardN_bd ok p1 hp9
  have hpn : ∀ i : Int, 0 ≤ i → i ≤ r.rows → tri i ≤ p → i < r.rows := fun i h0 h1 h2 => by
    have : i ≠ r.rows := fun e => by
      have a := ok.r1; have b := ok.r2
      subst e
      unfold tri at h2; unfold pinsN at p2
      have : r.rows = 1 ∨ r.rows = 2 ∨ r.rows = 3 ∨ r.rows = 4 := by omega
      rcases this with e | e | e | e <;> simp [e] at h2 p2 <;> omega
    omega
  have hres : ∀ i : Int, 0 ≤ i → i ≤ 3 → tri i ≤ p → p - tri i ≤ i → plcV r p = .agg #[.int .i64 i, .int .i64 (r.mid + r.gap * (2 * (p - tri i) - i))] := fun i h0 h1 h2 h3 => by
    have : i = 0 ∨ i = 1 ∨ i = 2 ∨ i = 3 := by omega
    have e : rowN p = i ∧ kN p = p - tri i := by
      unfold rowN kN tri at *
      clear hpn
      rcases this with rfl | rfl | rfl | rfl <;> simp at h2 h3 ⊢ <;> constructor <;> (repeat' split) <;> omega
    unfold plcV boardN
    rw [e.1, e.2]
  have htr : ∀ i : Int, 0 ≤ i → i ≤ 3 → tri (i + 1) = tri i + (i + 1) := fun i h0 h1 => by
    have : i = 0 ∨ i = 1 ∨ i = 2 ∨ i = 3 := by omega
    rcases this with rfl | rfl | rfl | rfl <;> rfl
  obtain ⟨r1, r2, m1, m2, g1, g2, c1, c2⟩ := ok
  have HR := Lib.hid hres
  have HP := Lib.hid hpn
  have HT := Lib.hid htr
  clear hres hpn htr hbd p2
  generalize plcV r p = V at *
  obtain ⟨rows, mid, gap, reach, la, lc, ls⟩ := r
  unfold Rk.val
  simp only at *
  go_enter Tryd.func116, Tryd.ntmps116
  go_wp2_with fail
  go_loop [5, 6, 10] (fun k s6 i => ∃ j : Int, 0 ≤ j ∧ j ≤ rows ∧ i = .int .i64 j ∧ Hid (tri j ≤ p) ∧ k = .int .i64 (p - tri j) ∧ (0 ≤ tri j ∧ tri j ≤ 10)) (fun _ _ i => (rows - intOf i).toNat)
  case atStart => exact ⟨0, by omega, by omega, rfl, Lib.hid p1, by simp [tri], by simp [tri]⟩
  case round =>
    obtain ⟨j, j1, j2, rfl, ht, rfl, ht1, ht2⟩ := hrel
    have hj := HP.out j j1 j2 ht.out
    have ht' := ht.out
    have HT1 := Lib.hid (HT.out j j1 (by omega))
    by_cases hk : p - tri j ≤ j
    · have hV := Lib.hid (HR.out j j1 (by omega) ht.out hk)
      have hg := gap_bd g1 g2 (x := 2 * (p - tri j) - j) (by omega) (by omega)
      generalize tri j = T at *
      go_wp2_with fail
      refine bodyPost_ret (v := V) (by rw [hV.out]; simp [results, Tryd.results116, go_sem]) rfl ⟨rfl, ?_⟩
      exact below_al2 (below_al _ _) _
    · have hk' : j < p - tri j := by omega
      go_wp2_with fail
      go_round
      case rel => exact ⟨j + 1, by omega, by omega, by go_num, Lib.hid (by rw [HT1.out]; omega), by rw [HT1.out]; go_num, by rw [HT1.out]; omega⟩
      case measure => simp [intOf]; omega

/-- Two pins stand next to each other. -/
def besB (gap : Int) (a b c d : Int) : Bool := if dist a c = 0 then dist b d == 2 * gap else if dist a c = 1 then dist b d == gap else false

theorem dist_bd {a b n m : Int} (a1 : -n ≤ a) (a2 : a ≤ m) (b1 : -n ≤ b) (b2 : b ≤ m) : 0 ≤ dist a b ∧ dist a b ≤ n + m := by unfold dist; split <;> omega

set_option maxHeartbeats 1000000 in
theorem beside_any (r : Rk) (a b c d : Int) (w : World) (g1 : 1 ≤ r.gap) (g2 : r.gap ≤ 8) (a1 : 0 ≤ a) (a2 : a ≤ 3) (c1 : 0 ≤ c) (c2 : c ≤ 3) (b1 : -24 ≤ b) (b2 : b ≤ 84) (d1 : -24 ≤ d) (d2 : d ≤ 84) :
    Calls Tryd.prog 117 #[r.val, .agg #[.int .i64 a, .int .i64 b], .agg #[.int .i64 c, .int .i64 d]] w fun e w' => e = .returned (.bool (besB r.gap a b c d)) ∧ Below w.heap.size w w' := by
  have hA := Lib.hid (fun w => apart_any a c w (by omega) (by omega) (by omega) (by omega))
  have hB := Lib.hid (fun w => apart_any b d w (by omega) (by omega) (by omega) (by omega))
  have hR := Lib.hid (show besB r.gap a b c d = if dist a c = 0 then dist b d == 2 * r.gap else if dist a c = 1 then dist b d == r.gap else false from rfl)
  have x := dist_bd (n := 0) (m := 3) (by omega) a2 (by omega) c2
  have y := dist_bd (n := 24) (m := 84) b1 b2 d1 d2
  generalize besB r.gap a b c d = R at *
  generalize dist a c = X at *
  generalize dist b d = Y at *
  obtain ⟨rows, mid, gap, reach, la, lc, ls⟩ := r
  unfold Rk.val
  simp only at *
  by_cases h0 : X = 0
  · subst h0
    have hR' := Lib.hid (show R = (Y == 2 * gap) from by rw [hR.out]; simp)
    clear hR
    go_enter Tryd.func117, Tryd.ntmps117
    go_wp2_with fail
    refine (hA.out _).mono ?_
    rintro e w1 ⟨rfl, rfl⟩
    go_wp2_with fail
    go_quiet ((go_at_call 119; exact Calls.quiet_of_same ((hB.out _).mono fun _ _ h => ⟨h.1, h.2.symm⟩)))
    go_wp2_with fail
    go_ret
    exact ⟨by rw [hR'.out]; rfl, below_dN (below_al2 (below_al2 (below_al _ _) _) _) _⟩
  · have h0' : (X == 0) = false := by simpa using h0
    by_cases h1 : X = 1
    · subst h1
      have hR' := Lib.hid (show R = (Y == gap) from by rw [hR.out]; simp)
      clear hR
      go_enter Tryd.func117, Tryd.ntmps117
      go_wp2_with fail
      refine (hA.out _).mono ?_
      rintro e w1 ⟨rfl, rfl⟩
      go_wp2_with fail
      go_quiet ((go_at_call 119; exact Calls.quiet_of_same ((hB.out _).mono fun _ _ h => ⟨h.1, h.2.symm⟩)))
      go_wp2_with fail
      go_ret
      exact ⟨by rw [hR'.out]; rfl, below_dN (below_al2 (below_al2 (below_al _ _) _) _) _⟩
    · have h1' : (X == 1) = false := by simpa using h1
      have hR' := Lib.hid (show R = false from by rw [hR.out]; simp [h0, h1])
      clear hR h0 h1
      go_enter Tryd.func117, Tryd.ntmps117
      go_wp2_with fail
      refine (hA.out _).mono ?_
      rintro e w1 ⟨rfl, rfl⟩
      go_wp2_with fail
      go_ret
      exact ⟨by rw [hR'.out]; rfl, below_al2 (below_al2 (below_al _ _) _) _⟩

def wrongB (r : Rk) (l : Lk) : Bool := !(inB l.fr 0 (pinsN r.rows - 1)) || (!(inB l.to 0 (pinsN r.rows - 1)) || l.fr == l.to)

set_option maxHeartbeats 1000000 in
theorem wrong_any (r : Rk) (l : Lk) (w : World) (h1 : 1 ≤ r.rows) (h2 : r.rows ≤ 4) :
    Calls Tryd.prog 89 #[r.val, l.val] w fun e w' => e = .returned (.bool (wrongB r l)) ∧ Below w.heap.size w w' := by
  obtain ⟨fr, to, sr⟩ := l
  have hF := Lib.hid (fun w => hasPin_any r fr w h1 h2)
  have hT := Lib.hid (fun w => hasPin_any r to w h1 h2)
  have hR := Lib.hid (show wrongB r ⟨fr, to, sr⟩ = (!(inB fr 0 (pinsN r.rows - 1)) || (!(inB to 0 (pinsN r.rows - 1)) || fr == to)) from rfl)
  generalize wrongB r ⟨fr, to, sr⟩ = R at *
  generalize inB fr 0 (pinsN r.rows - 1) = F at *
  generalize inB to 0 (pinsN r.rows - 1) = T at *
  obtain ⟨rows, mid, gap, reach, la, lc, ls⟩ := r
  unfold Rk.val at *
  unfold Lk.val
  simp only at *
  clear h1 h2
  have z1 : w.heap.size < ((w.alloc (.cells #[.int .i64 rows, .int .i64 mid, .int .i64 gap, .int .i64 reach, .slice la ls.length lc] 32)).alloc (.cells #[.int .i64 fr, .int .i64 to, .bool sr] 86)).heap.size := by simp; omega
  have z2 : w.heap.size + 1 < ((w.alloc (.cells #[.int .i64 rows, .int .i64 mid, .int .i64 gap, .int .i64 reach, .slice la ls.length lc] 32)).alloc (.cells #[.int .i64 fr, .int .i64 to, .bool sr] 86)).heap.size := by simp
  have B0 := Lib.hid (below_al2 (below_al w (.cells #[.int .i64 rows, .int .i64 mid, .int .i64 gap, .int .i64 reach, .slice la ls.length lc] 32)) (.cells #[.int .i64 fr, .int .i64 to, .bool sr] 86))
  have Z1 := Lib.hid z1; have Z2 := Lib.hid z2
  clear z1 z2
  go_enter Tryd.func89, Tryd.ntmps89
  go_wp2_with fail
  refine (hF.out _).mono ?_
  rintro e w1 ⟨rfl, hb⟩
  have B1 := Lib.hid (below_go B0.out hb)
  have c0 := fun o => (lo_cell hb w.heap.size o Z1.out).1
  have c1 := fun o => (lo_cell hb (w.heap.size + 1) o Z2.out).1
  have Hb := Lib.hid hb
  clear hb
  cases F
  · go_wp2_with fail
    go_ret
    exact ⟨by rw [hR.out]; rfl, B1.out⟩
  · go_wp2_with fail
    refine (hT.out _).mono ?_
    rintro e w2 ⟨rfl, hb⟩
    have B2 := Lib.hid (below_go B1.out hb)
    cases T
    · clear hb
      go_wp2_with fail
      go_ret
      exact ⟨by rw [hR.out]; rfl, B2.out⟩
    · have hs := Hb.out.size
      have d1 := fun o => ((lo_cell hb (w.heap.size + 1) o (Nat.lt_of_lt_of_le Z2.out hs)).1).trans (c1 o)
      clear hb hs c1
      go_wp2_with fail
      go_ret
      exact ⟨by rw [hR.out]; rfl, B2.out⟩

end Go.Proofs.YtaloffdkadhhnaaDoor
