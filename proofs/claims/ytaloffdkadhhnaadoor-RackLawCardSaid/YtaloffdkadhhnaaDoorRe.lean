/- The contract of what tells whether a ball reaches a pin. -/
import Derived.Test.YtaloffdkadhhnaaDoorEb
set_option linter.unusedVariables false
set_option linter.unusedSimpArgs false
namespace Go.Proofs.YtaloffdkadhhnaaDoor
open Go.RowKit

/-- The boards of a ball, by rows. -/
structure Cs where
  b0 : Int
  b1 : Int
  b2 : Int
  b3 : Int
def Cs.val (c : Cs) : Value := .agg #[.int .i64 c.b0, .int .i64 c.b1, .int .i64 c.b2, .int .i64 c.b3]
def Cs.at (c : Cs) (i : Int) : Int := if i = 0 then c.b0 else if i = 1 then c.b1 else if i = 2 then c.b2 else c.b3
structure Cs.Ok (c : Cs) : Prop where
  l0 : -1000 ≤ c.b0
  h0 : c.b0 ≤ 1000
  l1 : -1000 ≤ c.b1
  h1 : c.b1 ≤ 1000
  l2 : -1000 ≤ c.b2
  h2 : c.b2 ≤ 1000
  l3 : -1000 ≤ c.b3
  h3 : c.b3 ≤ 1000
/-- Its eleven cells. -/
def sCells (r : Rk) (c : Cs) (fv : Value) (N : Nat) : Array Value := #[.int .i64 r.rows, .int .i64 r.mid, .int .i64 r.gap, .int .i64 r.reach, .slice r.la r.ls.length r.lc, .int .i64 c.b0, .int .i64 c.b1, .int .i64 c.b2, .int .i64 c.b3, fv, .int .u16 (N : Nat)]

def sVal (r : Rk) (c : Cs) (fv : Value) (N : Nat) : Value := .agg (sCells r c fv N)

def reachB (r : Rk) (c : Cs) (p : Int) : Bool := decide (dist (boardN r p) (c.at (rowN p)) ≤ r.reach)

set_option maxRecDepth 100000 in
set_option maxHeartbeats 4000000 in
theorem reaches_any (r : Rk) (c : Cs) (k : Nat) (cap : Array Value) (N : Nat) (p : Int) (w : World) (ok : r.Ok) (oc : c.Ok) (p1 : 0 ≤ p) (p2 : p < pinsN r.rows) :
    Calls Tryd.prog 110 #[sVal r c (.func (.func k) #[] cap) N, .int .i64 p] w fun e w' => e = .returned (.bool (reachB r c p)) ∧ Below w.heap.size w w' := by
  have hp9 : p ≤ 9 := by have := (@pinsN_bd r).2; omega
  have PL := Lib.hid (fun w => place_any r p w ok p1 p2)
  have hbd := boardN_bd ok p1 hp9
  have hrow := rowN_bd p1 hp9
  have HR : Hid (reachB r c p = decide (dist (boardN r p) (c.at (rowN p)) ≤ r.reach)) := Lib.hid rfl
  generalize reachB r c p = R at *
  have hi : rowN p = 0 ∨ rowN p = 1 ∨ rowN p = 2 ∨ rowN p = 3 := by omega
  unfold plcV at PL
  generalize rowN p = i at *
  generalize boardN r p = b at *
  clear hrow p1 p2 hp9
  obtain ⟨rows, mid, gap, reach, la, lc, L⟩ := r
  obtain ⟨c0, c1, c2, c3⟩ := c
  obtain ⟨l0, h0, l1, h1, l2, h2, l3, h3⟩ := oc
  unfold sVal sCells Rk.val at *
  simp only at *
  have HD := Lib.hid (fun x (hx1 : -1000 ≤ x) (hx2 : x ≤ 1000) w => apart_any b x w (by omega) (by omega) (by omega) (by omega))
  have HB := Lib.hid hbd
  clear hbd ok
  rcases hi with rfl | rfl | rfl | rfl
  · have HX := Lib.hid (HD.out c0 l0 h0)
    have HR2 := Lib.hid (show R = decide (dist b c0 ≤ reach) from HR.out)
    clear HR HD
    generalize dist b c0 = d at *
    have B0 := Lib.hid (below_al w (.cells #[.int .i64 rows, .int .i64 mid, .int .i64 gap, .int .i64 reach, .slice la L.length lc, .int .i64 c0, .int .i64 c1, .int .i64 c2, .int .i64 c3, .func (.func k) #[] cap, .int .u16 (N : Nat)] 115))
    have Z0 := Lib.hid (show w.heap.size < (w.alloc (.cells #[.int .i64 rows, .int .i64 mid, .int .i64 gap, .int .i64 reach, .slice la L.length lc, .int .i64 c0, .int .i64 c1, .int .i64 c2, .int .i64 c3, .func (.func k) #[] cap, .int .u16 (N : Nat)] 115)).heap.size by simp)
    go_enter Tryd.func110, Tryd.ntmps110
    go_wp2_with fail
    refine (PL.out _).mono ?_
    rintro e w1 ⟨rfl, hb⟩
    have B1 := Lib.hid (below_go B0.out hb)
    have q0 := fun o => (lo_cell hb w.heap.size o Z0.out).1
    have f0 := new_cell w1 (cs := #[.int .i64 0, .int .i64 b]) (t := 162) (i := 0) rfl
    have f1 := new_cell w1 (cs := #[.int .i64 0, .int .i64 b]) (t := 162) (i := 1) rfl
    have f2 := cell_lo (below_al w1 (.cells #[.int .i64 0, .int .i64 b] 162)) ((q0 5).trans (new_cell w (i := 5) rfl))
    have f3 := cell_lo (below_al w1 (.cells #[.int .i64 0, .int .i64 b] 162)) ((q0 3).trans (new_cell w (i := 3) rfl))
    have B2 := Lib.hid (below_al2 B1.out (.cells #[.int .i64 0, .int .i64 b] 162))
    clear hb
    go_wp2_with fail
    generalize World.alloc w1 _ = W2 at f0 f1 f2 f3 B2 ⊢
    clear q0
    go_quiet ((go_at_call 119; exact Calls.quiet_of_same ((HX.out _).mono fun _ _ h => ⟨h.1, h.2.symm⟩)))
    go_wp2_with fail
    go_ret
    exact ⟨by rw [HR2.out]; rfl, Below.drewN' B2.out _⟩
  · have HX := Lib.hid (HD.out c1 l1 h1)
    have HR2 := Lib.hid (show R = decide (dist b c1 ≤ reach) from HR.out)
    clear HR HD
    generalize dist b c1 = d at *
    have B0 := Lib.hid (below_al w (.cells #[.int .i64 rows, .int .i64 mid, .int .i64 gap, .int .i64 reach, .slice la L.length lc, .int .i64 c0, .int .i64 c1, .int .i64 c2, .int .i64 c3, .func (.func k) #[] cap, .int .u16 (N : Nat)] 115))
    have Z0 := Lib.hid (show w.heap.size < (w.alloc (.cells #[.int .i64 rows, .int .i64 mid, .int .i64 gap, .int .i64 reach, .slice la L.length lc, .int .i64 c0, .int .i64 c1, .int .i64 c2, .int .i64 c3, .func (.func k) #[] cap, .int .u16 (N : Nat)] 115)).heap.size by simp)
    go_enter Tryd.func110, Tryd.ntmps110
    go_wp2_with fail
    refine (PL.out _).mono ?_
    rintro e w1 ⟨rfl, hb⟩
    have B1 := Lib.hid (below_go B0.out hb)
    have q0 := fun o => (lo_cell hb w.heap.size o Z0.out).1
    have f0 := new_cell w1 (cs := #[.int .i64 1, .int .i64 b]) (t := 162) (i := 0) rfl
    have f1 := new_cell w1 (cs := #[.int .i64 1, .int .i64 b]) (t := 162) (i := 1) rfl
    have f2 := cell_lo (below_al w1 (.cells #[.int .i64 1, .int .i64 b] 162)) ((q0 6).trans (new_cell w (i := 6) rfl))
    have f3 := cell_lo (below_al w1 (.cells #[.int .i64 1, .int .i64 b] 162)) ((q0 3).trans (new_cell w (i := 3) rfl))
    have B2 := Lib.hid (below_al2 B1.out (.cells #[.int .i64 1, .int .i64 b] 162))
    clear hb
    go_wp2_with fail
    generalize World.alloc w1 _ = W2 at f0 f1 f2 f3 B2 ⊢
    clear q0
    go_quiet ((go_at_call 119; exact Calls.quiet_of_same ((HX.out _).mono fun _ _ h => ⟨h.1, h.2.symm⟩)))
    go_wp2_with fail
    go_ret
    exact ⟨by rw [HR2.out]; rfl, Below.drewN' B2.out _⟩
  · have HX := Lib.hid (HD.out c2 l2 h2)
    have HR2 := Lib.hid (show R = decide (dist b c2 ≤ reach) from HR.out)
    clear HR HD
    generalize dist b c2 = d at *
    have B0 := Lib.hid (below_al w (.cells #[.int .i64 rows, .int .i64 mid, .int .i64 gap, .int .i64 reach, .slice la L.length lc, .int .i64 c0, .int .i64 c1, .int .i64 c2, .int .i64 c3, .func (.func k) #[] cap, .int .u16 (N : Nat)] 115))
    have Z0 := Lib.hid (show w.heap.size < (w.alloc (.cells #[.int .i64 rows, .int .i64 mid, .int .i64 gap, .int .i64 reach, .slice la L.length lc, .int .i64 c0, .int .i64 c1, .int .i64 c2, .int .i64 c3, .func (.func k) #[] cap, .int .u16 (N : Nat)] 115)).heap.size by simp)
    go_enter Tryd.func110, Tryd.ntmps110
    go_wp2_with fail
    refine (PL.out _).mono ?_
    rintro e w1 ⟨rfl, hb⟩
    have B1 := Lib.hid (below_go B0.out hb)
    have q0 := fun o => (lo_cell hb w.heap.size o Z0.out).1
    have f0 := new_cell w1 (cs := #[.int .i64 2, .int .i64 b]) (t := 162) (i := 0) rfl
    have f1 := new_cell w1 (cs := #[.int .i64 2, .int .i64 b]) (t := 162) (i := 1) rfl
    have f2 := cell_lo (below_al w1 (.cells #[.int .i64 2, .int .i64 b] 162)) ((q0 7).trans (new_cell w (i := 7) rfl))
    have f3 := cell_lo (below_al w1 (.cells #[.int .i64 2, .int .i64 b] 162)) ((q0 3).trans (new_cell w (i := 3) rfl))
    have B2 := Lib.hid (below_al2 B1.out (.cells #[.int .i64 2, .int .i64 b] 162))
    clear hb
    go_wp2_with fail
    generalize World.alloc w1 _ = W2 at f0 f1 f2 f3 B2 ⊢
    clear q0
    go_quiet ((go_at_call 119; exact Calls.quiet_of_same ((HX.out _).mono fun _ _ h => ⟨h.1, h.2.symm⟩)))
    go_wp2_with fail
    go_ret
    exact ⟨by rw [HR2.out]; rfl, Below.drewN' B2.out _⟩
  · have HX := Lib.hid (HD.out c3 l3 h3)
    have HR2 := Lib.hid (show R = decide (dist b c3 ≤ reach) from HR.out)
    clear HR HD
    generalize dist b c3 = d at *
    have B0 := Lib.hid (below_al w (.cells #[.int .i64 rows, .int .i64 mid, .int .i64 gap, .int .i64 reach, .slice la L.length lc, .int .i64 c0, .int .i64 c1, .int .i64 c2, .int .i64 c3, .func (.func k) #[] cap, .int .u16 (N : Nat)] 115))
    have Z0 := Lib.hid (show w.heap.size < (w.alloc (.cells #[.int .i64 rows, .int .i64 mid, .int .i64 gap, .int .i64 reach, .slice la L.length lc, .int .i64 c0, .int .i64 c1, .int .i64 c2, .int .i64 c3, .func (.func k) #[] cap, .int .u16 (N : Nat)] 115)).heap.size by simp)
    go_enter Tryd.func110, Tryd.ntmps110
    go_wp2_with fail
    refine (PL.out _).mono ?_
    rintro e w1 ⟨rfl, hb⟩
    have B1 := Lib.hid (below_go B0.out hb)
    have q0 := fun o => (lo_cell hb w.heap.size o Z0.out).1
    have f0 := new_cell w1 (cs := #[.int .i64 3, .int .i64 b]) (t := 162) (i := 0) rfl
    have f1 := new_cell w1 (cs := #[.int .i64 3, .int .i64 b]) (t := 162) (i := 1) rfl
    have f2 := cell_lo (below_al w1 (.cells #[.int .i64 3, .int .i64 b] 162)) ((q0 8).trans (new_cell w (i := 8) rfl))
    have f3 := cell_lo (below_al w1 (.cells #[.int .i64 3, .int .i64 b] 162)) ((q0 3).trans (new_cell w (i := 3) rfl))
    have B2 := Lib.hid (below_al2 B1.out (.cells #[.int .i64 3, .int .i64 b] 162))
    clear hb
    go_wp2_with fail
    generalize World.alloc w1 _ = W2 at f0 f1 f2 f3 B2 ⊢
    clear q0
    go_quiet ((go_at_call 119; exact Calls.quiet_of_same ((HX.out _).mono fun _ _ h => ⟨h.1, h.2.symm⟩)))
    go_wp2_with fail
    go_ret
    exact ⟨by rw [HR2.out]; rfl, Below.drewN' B2.out _⟩

end Go.Proofs.YtaloffdkadhhnaaDoor
