/- The contracts of a rack that is hit, of straight balls, and of the links' functions. -/
import Derived.Test.YtaloffdkadhhnaaDoorLb
set_option linter.unusedVariables false
set_option linter.unusedSimpArgs false
namespace Go.Proofs.YtaloffdkadhhnaaDoor
open Go.RowKit

theorem surely_any (l : Lk) (w : World) : Calls Tryd.prog 71 #[l.val] w fun e w' => e = .returned (.bool l.sr) ∧ Below w.heap.size w w' := by
  obtain ⟨fr, to, sr⟩ := l
  unfold Lk.val
  simp only
  go_enter Tryd.func71, Tryd.ntmps71
  go_wp2_with fail
  go_ret
  exact ⟨rfl, below_al _ _⟩
theorem perhaps_any (l : Lk) (w : World) : Calls Tryd.prog 64 #[l.val] w fun e w' => e = .returned (.bool true) ∧ Below w.heap.size w w' := by
  obtain ⟨fr, to, sr⟩ := l
  unfold Lk.val
  simp only
  go_enter Tryd.func64, Tryd.ntmps64
  go_wp2_with fail
  go_ret
  exact ⟨rfl, below_al _ _⟩

/-- A function of links, as the program hands it on: its number, what it has captured; what it tells; what it wants of the world. -/
structure Carry (k : Nat) (cap : Array Value) (K : World → Prop) (cb : Lk → Bool) (n0 : Nat) : Prop where
  ek : ∀ args w, (callFunc k args).run Tryd.prog w = .ok (.enter k args) w
  st : ∀ A B, K A → Alt (fun k => n0 ≤ k) A B → K B
  cf : ∀ l W, K W → Calls Tryd.prog k (#[Lk.val l] ++ cap) W fun e W' => e = .returned (.bool (cb l)) ∧ Below W.heap.size W W'
theorem Carry.up {k : Nat} {cap : Array Value} {K : World → Prop} {cb : Lk → Bool} {n0 n1 : Nat} (h : Carry k cap K cb n0) (hn : n0 ≤ n1) : Carry k cap K cb n1 :=
  ⟨h.ek, fun A B hA hAB => h.st A B hA (hAB.mono fun k _ e => by omega), h.cf⟩
theorem carry_sure (n0 : Nat) : Carry 71 #[] (fun _ => True) (fun l => l.sr) n0 :=
  ⟨enters_of Tryd.func71 (by kernel_rfl) rfl, fun _ _ _ _ => trivial, fun l W _ => by simpa using surely_any l W⟩
theorem carry_may (n0 : Nat) : Carry 64 #[] (fun _ => True) (fun _ => true) n0 :=
  ⟨enters_of Tryd.func64 (by kernel_rfl) rfl, fun _ _ _ _ => trivial, fun l W _ => by simpa using perhaps_any l W⟩

/-- What a rack must be for a ball to be tried on it. -/
structure Rk.Fit (r : Rk) (w : World) : Prop where
  ok : r.Ok
  ls : LinksAt w r.la r.ls
  la : ∀ g o, r.la = some ⟨g, o, none⟩ → g < w.heap.size
  lk : LinksOk r.ls
  ln : r.ls.length ≤ 1000
  tab : TabOK w
theorem Rk.Fit.lo {r : Rk} {w W : World} (h : r.Fit w) (hb : Below w.heap.size w W) : r.Fit W :=
  ⟨h.ok, h.ls.lo hb, fun g o e => Nat.lt_of_lt_of_le (h.la g o e) hb.size, h.lk, h.ln, h.tab.lo hb⟩

def hitN (r : Rk) (c : Cs) (cb : Lk → Bool) (St : Nat) : Nat := leftN r.ls cb St (touchN r c St)

theorem touchN_lt (r : Rk) (c : Cs) (N : Nat) : touchN r c N < 65536 := setN_lt fun x hx => els_bd (List.mem_filter.1 hx).1

set_option maxRecDepth 100000 in
set_option maxHeartbeats 8000000 in
theorem left_any (r : Rk) (c : Cs) (k : Nat) (cap : Array Value) (St : Nat) (K : World → Prop) (cb : Lk → Bool) (w : World) (hc : Carry k cap K cb w.heap.size) (hK0 : K w) (hf : r.Fit w) (oc : c.Ok) (hSt : St < 65536) (hp : ∀ x ∈ els St, x < pinsN r.rows) :
    Calls Tryd.prog 65 #[sVal r c (.func (.func k) #[] cap) St] w fun e w' => e = .returned (.int .u16 (hitN r c cb St : Nat)) ∧ Below w.heap.size w w' := by
  have TO := Lib.hid (fun W (hb : Below w.heap.size w W) => touched_any r c k cap St W hf.ok oc hSt hp (hf.tab.lo hb))
  have LB := Lib.hid (fun W (hb : Below w.heap.size w W) => leftBy_any r c k cap St (touchN r c St) K cb W (hc.up hb.size).st (hc.st _ _ hK0 (Alt.of_below hb (fun _ _ h => h))) hc.ek hc.cf (hf.lo hb).la hf.lk hf.ln (hf.ls.lo hb) hSt (touchN_lt r c St) (hf.tab.lo hb))
  have HH : Hid (hitN r c cb St = leftN r.ls cb St (touchN r c St)) := Lib.hid rfl
  generalize hitN r c cb St = RES at *
  generalize leftN r.ls cb St (touchN r c St) = LL at *
  generalize touchN r c St = T at *
  clear hf oc hp hK0 hc
  have B0 := Lib.hid (below_al w (.cells (sCells r c (.func (.func k) #[] cap) St) 115))
  have C0 := Lib.hid (fun i v (h : (sCells r c (.func (.func k) #[] cap) St)[i]? = some v) => new_cell w (t := 115) h)
  have Z0 := Lib.hid (show w.heap.size < (w.alloc (.cells (sCells r c (.func (.func k) #[] cap) St) 115)).heap.size by simp)
  unfold sVal at *
  unfold sCells at *
  go_enter Tryd.func65, Tryd.ntmps65
  go_wp2_with fail
  generalize World.alloc w _ = W0 at B0 C0 Z0 ⊢
  have q0 := fun u : Late W0 => u.cell (C0.out 0 (.int .i64 r.rows) rfl) Z0.out
  have q1 := fun u : Late W0 => u.cell (C0.out 1 (.int .i64 r.mid) rfl) Z0.out
  have q2 := fun u : Late W0 => u.cell (C0.out 2 (.int .i64 r.gap) rfl) Z0.out
  have q3 := fun u : Late W0 => u.cell (C0.out 3 (.int .i64 r.reach) rfl) Z0.out
  have q4 := fun u : Late W0 => u.cell (C0.out 4 (.slice r.la r.ls.length r.lc) rfl) Z0.out
  have q5 := fun u : Late W0 => u.cell (C0.out 5 (.int .i64 c.b0) rfl) Z0.out
  have q6 := fun u : Late W0 => u.cell (C0.out 6 (.int .i64 c.b1) rfl) Z0.out
  have q7 := fun u : Late W0 => u.cell (C0.out 7 (.int .i64 c.b2) rfl) Z0.out
  have q8 := fun u : Late W0 => u.cell (C0.out 8 (.int .i64 c.b3) rfl) Z0.out
  have q9 := fun u : Late W0 => u.cell (C0.out 9 (.func (.func k) #[] cap) rfl) Z0.out
  have q10 := fun u : Late W0 => u.cell (C0.out 10 (.int .u16 (St : Nat)) rfl) Z0.out
  refine wp_region_late W0 (Below.refl _ _) (by kernel_rfl) (by kernel_rfl) ?_
  repeat (go_big_quiet_step ((first | (go_at_call 95; exact Calls.late (TO.out _ (below_go B0.out (Late.b _)))) | (go_at_call 94; exact Calls.late (LB.out _ (below_go B0.out (Late.b _)))))))
  refine wpQuiet_nil ?_
  intro _ hw'
  obtain ⟨uq, hw''⟩ := hw'
  subst hw''
  go_wp2_with fail
  go_ret
  exact ⟨by rw [HH.out]; rfl, below_go B0.out uq.b⟩

/-- A straight ball. -/
structure Ln where
  st : Int
  dr : Int
def Ln.val (l : Ln) : Value := .agg #[.int .i64 l.st, .int .i64 l.dr]
def Ln.cs (l : Ln) : Cs := ⟨l.st, l.st + l.dr, l.st + 2 * l.dr, l.st + 3 * l.dr⟩
def Ln.okB (l : Ln) : Bool := inB l.st 0 60 && inB l.dr (-3) 3

set_option maxHeartbeats 1000000 in
theorem lnValid_any (l : Ln) (w : World) : Calls Tryd.prog 84 #[l.val] w fun e w' => e = .returned (.bool l.okB) ∧ Below w.heap.size w w' := by
  obtain ⟨st, dr⟩ := l
  have hW := Lib.hid (fun a b c w => within_any a b c w)
  have hR := Lib.hid (show Ln.okB ⟨st, dr⟩ = (inB st 0 60 && inB dr (-3) 3) from rfl)
  unfold Ln.val
  simp only at *
  generalize Ln.okB ⟨st, dr⟩ = R at *
  have B0 := Lib.hid (below_al w (.cells #[.int .i64 st, .int .i64 dr] 73))
  go_enter Tryd.func84, Tryd.ntmps84
  go_wp2_with fail
  refine (hW.out _ _ _ _).mono ?_
  rintro e w1 ⟨rfl, rfl⟩
  generalize inB st 0 60 = A at *
  cases A
  · go_wp2_with fail
    go_ret
    exact ⟨by rw [hR.out]; rfl, B0.out⟩
  · go_wp2_with fail
    refine (hW.out _ _ _ _).mono ?_
    rintro e w1 ⟨rfl, rfl⟩
    go_wp2_with fail
    go_ret
    exact ⟨by rw [hR.out]; rfl, B0.out⟩

set_option maxRecDepth 100000 in
set_option maxHeartbeats 4000000 in
theorem course_any (l : Ln) (w : World) (s1 : -100 ≤ l.st) (s2 : l.st ≤ 100) (d1 : -100 ≤ l.dr) (d2 : l.dr ≤ 100) : Calls Tryd.prog 103 #[l.val] w fun e w' => e = .returned l.cs.val ∧ Below w.heap.size w w' := by
  obtain ⟨st, dr⟩ := l
  unfold Ln.val Ln.cs Cs.val
  simp only at *
  go_enter Tryd.func103, Tryd.ntmps103
  go_wp2_with fail
  refine wp_loop_rounds 5 ?_
  rw [rounds_succ]; go_wp2_with fail
  rw [rounds_succ]; go_wp2_with fail
  rw [rounds_succ]; go_wp2_with fail
  rw [rounds_succ]; go_wp2_with fail
  rw [rounds_succ]; go_wp2_with fail
  refine bodyPost_ret (v := .agg #[.int .i64 st, .int .i64 (st + dr), .int .i64 (st + 2 * dr), .int .i64 (st + 3 * dr)]) (by simp [results, Tryd.results103, go_sem]) rfl ⟨rfl, ?_⟩
  exact below_al2 (below_al2 (below_al _ _) _) _

theorem carry_of {k : Nat} {cap : Array Value} {K : World → Prop} {cb : Lk → Bool} {n0 : Nat} (h : Carry k cap K cb n0) {A B : World} (hA : K A) (hb : Below A.heap.size A B) (hn : n0 ≤ A.heap.size) : K B := h.st _ _ hA (Alt.of_below hb fun k _ e => Nat.le_trans hn e)

theorem nat_zero_b (n : Nat) : ((n : Int) == 0) = (n == 0) := by rw [Bool.eq_iff_iff]; simp

/-- Does a straight ball convert a leave? -/
def convB (r : Rk) (St : Nat) (l : Ln) (cb : Lk → Bool) : Bool := hitN r l.cs cb St == 0

set_option maxRecDepth 100000 in
set_option maxHeartbeats 8000000 in
theorem converts_any (r : Rk) (l : Ln) (k : Nat) (cap : Array Value) (St : Nat) (K : World → Prop) (cb : Lk → Bool) (w : World) (hc : Carry k cap K cb w.heap.size) (hK0 : K w) (hf : r.Fit w) (s1 : -100 ≤ l.st) (s2 : l.st ≤ 100) (d1 : -100 ≤ l.dr) (d2 : l.dr ≤ 100) (hSt : St < 65536) (hp : ∀ x ∈ els St, x < pinsN r.rows) :
    Calls Tryd.prog 83 #[r.val, .int .u16 (St : Nat), l.val, .func (.func k) #[] cap] w fun e w' => e = .returned (.bool (convB r St l cb)) ∧ Below w.heap.size w w' := by
  have CO := Lib.hid (fun W => course_any l W s1 s2 d1 d2)
  have oc : l.cs.Ok := by unfold Ln.cs; constructor <;> simp only <;> omega
  have LE := Lib.hid (fun W (hb : Below w.heap.size w W) => left_any r l.cs k cap St K cb W (hc.up hb.size) (hc.st _ _ hK0 (Alt.of_below hb (fun _ _ h => h))) (hf.lo hb) oc hSt hp)
  have HH : Hid (convB r St l cb = (hitN r l.cs cb St == 0)) := Lib.hid rfl
  generalize convB r St l cb = RES at *
  generalize hitN r l.cs cb St = H at *
  clear hf oc hp hK0 hc s1 s2 d1 d2
  have B0 := Lib.hid (below_al2 (below_al w (.cells #[.int .i64 r.rows, .int .i64 r.mid, .int .i64 r.gap, .int .i64 r.reach, .slice r.la r.ls.length r.lc] 32)) (.cells #[.int .i64 l.st, .int .i64 l.dr] 73))
  have C0 := Lib.hid (fun i v (h : (#[.int .i64 r.rows, .int .i64 r.mid, .int .i64 r.gap, .int .i64 r.reach, .slice r.la r.ls.length r.lc] : Array Value)[i]? = some v) => cell_lo (below_al _ (.cells #[.int .i64 l.st, .int .i64 l.dr] 73)) (new_cell w (t := 32) h))
  have C1 := Lib.hid (fun i v (h : (#[.int .i64 l.st, .int .i64 l.dr] : Array Value)[i]? = some v) => new_cell (w.alloc (.cells #[.int .i64 r.rows, .int .i64 r.mid, .int .i64 r.gap, .int .i64 r.reach, .slice r.la r.ls.length r.lc] 32)) (t := 73) h)
  have Z0 := Lib.hid (show w.heap.size + 1 < ((w.alloc (.cells #[.int .i64 r.rows, .int .i64 r.mid, .int .i64 r.gap, .int .i64 r.reach, .slice r.la r.ls.length r.lc] 32)).alloc (.cells #[.int .i64 l.st, .int .i64 l.dr] 73)).heap.size by simp)
  simp only [World.size_alloc] at C1
  unfold sVal sCells at LE
  unfold Cs.val at CO
  unfold Rk.val Ln.val at *
  go_enter Tryd.func83, Tryd.ntmps83
  go_wp2_with fail
  generalize World.alloc (World.alloc w _) _ = W0 at B0 C0 C1 Z0 ⊢
  have q0 := fun u : Late W0 => u.cell (C0.out 0 (.int .i64 r.rows) rfl) (by have := Z0.out; omega)
  have q1 := fun u : Late W0 => u.cell (C0.out 1 (.int .i64 r.mid) rfl) (by have := Z0.out; omega)
  have q2 := fun u : Late W0 => u.cell (C0.out 2 (.int .i64 r.gap) rfl) (by have := Z0.out; omega)
  have q3 := fun u : Late W0 => u.cell (C0.out 3 (.int .i64 r.reach) rfl) (by have := Z0.out; omega)
  have q4 := fun u : Late W0 => u.cell (C0.out 4 (.slice r.la r.ls.length r.lc) rfl) (by have := Z0.out; omega)
  have q5 := fun u : Late W0 => u.cell (C1.out 0 (.int .i64 l.st) rfl) Z0.out
  have q6 := fun u : Late W0 => u.cell (C1.out 1 (.int .i64 l.dr) rfl) Z0.out
  refine wp_region_late W0 (Below.refl _ _) (by kernel_rfl) (by kernel_rfl) ?_
  repeat (go_big_quiet_step ((first | (go_at_call 103; exact Calls.late (CO.out _)) | (go_at_call 65; exact Calls.late (LE.out _ (below_go B0.out (Late.b _)))))))
  refine wpQuiet_nil ?_
  intro _ hw'
  obtain ⟨uq, hw''⟩ := hw'
  subst hw''
  go_wp2_with fail
  go_ret
  exact ⟨by rw [HH.out, ← nat_zero_b]; rfl, below_go B0.out uq.b⟩

end Go.Proofs.YtaloffdkadhhnaaDoor
