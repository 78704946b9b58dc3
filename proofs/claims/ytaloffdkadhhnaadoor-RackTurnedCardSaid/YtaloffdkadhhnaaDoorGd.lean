/- The contracts of a rack that is hit, of straight balls, and of the links' functions. The contract of the search for a straight ball. The contracts of Convert and of ProveConvert. -/
import Derived.Test.YtaloffdkadhhnaaDoorGc
import Derived.ScopeJumps
import Derived.WalkMore
set_option linter.unusedVariables false
set_option linter.unusedSimpArgs false

namespace Go.Proofs.YtaloffdkadhhnaaDoor
open Go.RowKit

theorem surely_any (l : Lk) (w : World) : Calls Tryd.prog 71 #[l.val] w fun e w' => e = .returned (.bool l.sr) ∧ Below w.heap.size w w' := by
  obtain ⟨fr, to, sr⟩ := l
  unfold Lk.val
  simp only
  go_enter Tryd.func71, Tryd.ntmps71
  go_wp2_with fail
  go_ret
  exact ⟨rfl, below_al _ _⟩
theorem perhaps_any (l : Lk) (w : World) : Calls Tryd.prog 64 #[l.val] w fun e w' => e = .returned (.bool true) ∧ Below w.heap.size w w' := by
  obtain ⟨fr, to, sr⟩ := l
  unfold Lk.val
  simp only
  go_enter Tryd.func64, Tryd.ntmps64
  go_wp2_with fail
  go_ret
  exact ⟨rfl, below_al _ _⟩

/-- A function of links, as the program hands it on: its number, what it has captured; what it tells; what it wants of the world. -/
structure Carry (k : Nat) (cap : Array Value) (K : World → Prop) (cb : Lk → Bool) (n0 : Nat) : Prop where
  ek : ∀ args w, (callFunc k args).run Tryd.prog w = .ok (.enter k args) w
  st : ∀ A B, K A → Alt (fun k => n0 ≤ k) A B → K B
  cf : ∀ l W, 0 ≤ l.to → l.to ≤ 15 → K W → Calls Tryd.prog k (#[Lk.val l] ++ cap) W fun e W' => e = .returned (.bool (cb l)) ∧ Below W.heap.size W W'
theorem Carry.up {k : Nat} {cap : Array Value} {K : World → Prop} {cb : Lk → Bool} {n0 n1 : Nat} (h : Carry k cap K cb n0) (hn : n0 ≤ n1) : Carry k cap K cb n1 :=
  ⟨h.ek, fun A B hA hAB => h.st A B hA (hAB.mono fun k _ e => by omega), h.cf⟩
theorem carry_sure (n0 : Nat) : Carry 71 #[] (fun _ => True) (fun l => l.sr) n0 :=
  ⟨enters_of Tryd.func71 (by kernel_rfl) rfl, fun _ _ _ _ => trivial, fun l W _ _ _ => by simpa using surely_any l W⟩
theorem carry_may (n0 : Nat) : Carry 64 #[] (fun _ => True) (fun _ => true) n0 :=
  ⟨enters_of Tryd.func64 (by kernel_rfl) rfl, fun _ _ _ _ => trivial, fun l W _ _ _ => by simpa using perhaps_any l W⟩

/-- What a rack must be for a ball to be tried on it. -/
structure Rk.Fit (r : Rk) (w : World) : Prop where
  ok : r.Ok
  ls : LinksAt w r.la r.ls
  la : ∀ g o, r.la = some ⟨g, o, none⟩ → g < w.heap.size
  lk : LinksOk r.ls
  ln : r.ls.length ≤ 1000
  tab : TabOK w
theorem Rk.Fit.lo {r : Rk} {w W : World} (h : r.Fit w) (hb : Below w.heap.size w W) : r.Fit W :=
  ⟨h.ok, h.ls.lo hb, fun g o e => Nat.lt_of_lt_of_le (h.la g o e) hb.size, h.lk, h.ln, h.tab.lo hb⟩

def hitN (r : Rk) (c : Cs) (cb : Lk → Bool) (St : Nat) : Nat := leftN r.ls cb St (touchN r c St)

theorem touchN_lt (r : Rk) (c : Cs) (N : Nat) : touchN r c N < 65536 := setN_lt fun x hx => els_bd (List.mem_filter.1 hx).1

set_option maxRecDepth 100000 in
set_option maxHeartbeats 8000000 in
theorem left_any (r : Rk) (c : Cs) (k : Nat) (cap : Array Value) (St : Nat) (K : World → Prop) (cb : Lk → Bool) (w : World) (hc : Carry k cap K cb w.heap.size) (hK0 : K w) (hf : r.Fit w) (oc : c.Ok) (hSt : St < 65536) (hp : ∀ x ∈ els St, x < pinsN r.rows) :
    Calls Tryd.prog 65 #[sVal r c (.func (.func k) #[] cap) St] w fun e w' => e = .returned (.int .u16 (hitN r c cb St : Nat)) ∧ Below w.heap.size w w' := by
  have TO := Lib.hid (fun W (hb : Below w.heap.size w W) => touched_any r c k cap St W hf.ok oc hSt hp (hf.tab.lo hb))
  have LB := Lib.hid (fun W (hb : Below w.heap.size w W) => leftBy_any r c k cap St (touchN r c St) K cb W (hc.up hb.size).st (hc.st _ _ hK0 (Alt.of_below hb (fun _ _ h => h))) hc.ek hc.cf (hf.lo hb).la hf.lk hf.ln (hf.ls.lo hb) hSt (touchN_lt r c St) (hf.tab.lo hb))
  have HH : Hid (hitN r c cb St = leftN r.ls cb St (touchN r c St)) := Lib.hid rfl
  generalize hitN r c cb St = RES at *
  generalize leftN r.ls cb St (touchN r c St) = LL at *
  generalize touchN r c St = T at *
  clear hf oc hp hK0 hc
  have B0 := Lib.hid (below_al w (.cells (sCells r c (.func (.func k) #[] cap) St) 115))
  have C0 := Lib.hid (fun i v (h : (sCells r c (.func (.func k) #[] cap) St)[i]? = some v) => new_cell w (t := 115) h)
  have Z0 := Lib.hid (show w.heap.size < (w.alloc (.cells (sCells r c (.func (.func k) #[] cap) St) 115)).heap.size by simp)
  unfold sVal at *
  unfold sCells at *
  go_enter Tryd.func65, Tryd.ntmps65
  go_wp2_with fail
  generalize World.alloc w _ = W0 at B0 C0 Z0 ⊢
  have q0 := fun u : Late W0 => u.cell (C0.out 0 (.int .i64 r.rows) rfl) Z0.out
  have q1 := fun u : Late W0 => u.cell (C0.out 1 (.int .i64 r.mid) rfl) Z0.out
  have q2 := fun u : Late W0 => u.cell (C0.out 2 (.int .i64 r.gap) rfl) Z0.out
  have q3 := fun u : Late W0 => u.cell (C0.out 3 (.int .i64 r.reach) rfl) Z0.out
  have q4 := fun u : Late W0 => u.cell (C0.out 4 (.slice r.la r.ls.length r.lc) rfl) Z0.out
  have q5 := fun u : Late W0 => u.cell (C0.out 5 (.int .i64 c.b0) rfl) Z0.out
  have q6 := fun u : Late W0 => u.cell (C0.out 6 (.int .i64 c.b1) rfl) Z0.out
  have q7 := fun u : Late W0 => u.cell (C0.out 7 (.int .i64 c.b2) rfl) Z0.out
  have q8 := fun u : Late W0 => u.cell (C0.out 8 (.int .i64 c.b3) rfl) Z0.out
  have q9 := fun u : Late W0 => u.cell (C0.out 9 (.func (.func k) #[] cap) rfl) Z0.out
  have q10 := fun u : Late W0 => u.cell (C0.out 10 (.int .u16 (St : Nat)) rfl) Z0.out
  refine wp_region_late W0 (Below.refl _ _) (by kernel_rfl) (by kernel_rfl) ?_
  repeat (go_big_quiet_step ((first | (go_at_call 95; exact Calls.late (TO.out _ (below_go B0.out (Late.b _)))) | (go_at_call 94; exact Calls.late (LB.out _ (below_go B0.out (Late.b _)))))))
  refine wpQuiet_nil ?_
  intro _ hw'
  obtain ⟨uq, hw''⟩ := hw'
  subst hw''
  go_wp2_with fail
  go_ret
  exact ⟨by rw [HH.out]; rfl, below_go B0.out uq.b⟩

/-- A straight ball. -/
structure Ln where
  st : Int
  dr : Int
def Ln.val (l : Ln) : Value := .agg #[.int .i64 l.st, .int .i64 l.dr]
def Ln.cs (l : Ln) : Cs := ⟨l.st, l.st + l.dr, l.st + 2 * l.dr, l.st + 3 * l.dr⟩
def Ln.okB (l : Ln) : Bool := inB l.st 0 60 && inB l.dr (-3) 3

set_option maxHeartbeats 1000000 in
theorem lnValid_any (l : Ln) (w : World) : Calls Tryd.prog 84 #[l.val] w fun e w' => e = .returned (.bool l.okB) ∧ Below w.heap.size w w' := by
  obtain ⟨st, dr⟩ := l
  have hW := Lib.hid (fun a b c w => within_any a b c w)
  have hR := Lib.hid (show Ln.okB ⟨st, dr⟩ = (inB st 0 60 && inB dr (-3) 3) from rfl)
  unfold Ln.val
  simp only at *
  generalize Ln.okB ⟨st, dr⟩ = R at *
  have B0 := Lib.hid (below_al w (.cells #[.int .i64 st, .int .i64 dr] 73))
  go_enter Tryd.func84, Tryd.ntmps84
  go_wp2_with fail
  refine (hW.out _ _ _ _).mono ?_
  rintro e w1 ⟨rfl, rfl⟩
  generalize inB st 0 60 = A at *
  cases A
  · go_wp2_with fail
    go_ret
    exact ⟨by rw [hR.out]; rfl, B0.out⟩
  · go_wp2_with fail
    refine (hW.out _ _ _ _).mono ?_
    rintro e w1 ⟨rfl, rfl⟩
    go_wp2_with fail
    go_ret
    exact ⟨by rw [hR.out]; rfl, B0.out⟩

set_option maxRecDepth 100000 in
set_option maxHeartbeats 4000000 in
theorem course_any (l : Ln) (w : World) (s1 : -100 ≤ l.st) (s2 : l.st ≤ 100) (d1 : -100 ≤ l.dr) (d2 : l.dr ≤ 100) : Calls Tryd.prog 103 #[l.val] w fun e w' => e = .returned l.cs.val ∧ Below w.heap.size w w' := by
  obtain ⟨st, dr⟩ := l
  unfold Ln.val Ln.cs Cs.val
  simp only at *
  go_enter Tryd.func103, Tryd.ntmps103
  go_wp2_with fail
  refine wp_loop_rounds 5 ?_
  rw [rounds_succ]; go_wp2_with fail
  rw [rounds_succ]; go_wp2_with fail
  rw [rounds_succ]; go_wp2_with fail
  rw [rounds_succ]; go_wp2_with fail
  rw [rounds_succ]; go_wp2_with fail
  refine bodyPost_ret (v := .agg #[.int .i64 st, .int .i64 (st + dr), .int .i64 (st + 2 * dr), .int .i64 (st + 3 * dr)]) (by simp [results, Tryd.results103, go_sem]) rfl ⟨rfl, ?_⟩
  exact below_al2 (below_al2 (below_al _ _) _) _

theorem carry_of {k : Nat} {cap : Array Value} {K : World → Prop} {cb : Lk → Bool} {n0 : Nat} (h : Carry k cap K cb n0) {A B : World} (hA : K A) (hb : Below A.heap.size A B) (hn : n0 ≤ A.heap.size) : K B := h.st _ _ hA (Alt.of_below hb fun k _ e => Nat.le_trans hn e)

theorem nat_zero_b (n : Nat) : ((n : Int) == 0) = (n == 0) := by rw [Bool.eq_iff_iff]; simp

/-- Does a straight ball convert a leave? -/
def convB (r : Rk) (St : Nat) (l : Ln) (cb : Lk → Bool) : Bool := hitN r l.cs cb St == 0

set_option maxRecDepth 100000 in
set_option maxHeartbeats 8000000 in
theorem converts_any (r : Rk) (l : Ln) (k : Nat) (cap : Array Value) (St : Nat) (K : World → Prop) (cb : Lk → Bool) (w : World) (hc : Carry k cap K cb w.heap.size) (hK0 : K w) (hf : r.Fit w) (s1 : -100 ≤ l.st) (s2 : l.st ≤ 100) (d1 : -100 ≤ l.dr) (d2 : l.dr ≤ 100) (hSt : St < 65536) (hp : ∀ x ∈ els St, x < pinsN r.rows) :
    Calls Tryd.prog 83 #[r.val, .int .u16 (St : Nat), l.val, .func (.func k) #[] cap] w fun e w' => e = .returned (.bool (convB r St l cb)) ∧ Below w.heap.size w w' := by
  have CO := Lib.hid (fun W => course_any l W s1 s2 d1 d2)
  have oc : l.cs.Ok := by unfold Ln.cs; constructor <;> simp only <;> omega
  have LE := Lib.hid (fun W (hb : Below w.heap.size w W) => left_any r l.cs k cap St K cb W (hc.up hb.size) (hc.st _ _ hK0 (Alt.of_below hb (fun _ _ h => h))) (hf.lo hb) oc hSt hp)
  have HH : Hid (convB r St l cb = (hitN r l.cs cb St == 0)) := Lib.hid rfl
  generalize convB r St l cb = RES at *
  generalize hitN r l.cs cb St = H at *
  clear hf oc hp hK0 hc s1 s2 d1 d2
  have B0 := Lib.hid (below_al2 (below_al w (.cells #[.int .i64 r.rows, .int .i64 r.mid, .int .i64 r.gap, .int .i64 r.reach, .slice r.la r.ls.length r.lc] 32)) (.cells #[.int .i64 l.st, .int .i64 l.dr] 73))
  have C0 := Lib.hid (fun i v (h : (#[.int .i64 r.rows, .int .i64 r.mid, .int .i64 r.gap, .int .i64 r.reach, .slice r.la r.ls.length r.lc] : Array Value)[i]? = some v) => cell_lo (below_al _ (.cells #[.int .i64 l.st, .int .i64 l.dr] 73)) (new_cell w (t := 32) h))
  have C1 := Lib.hid (fun i v (h : (#[.int .i64 l.st, .int .i64 l.dr] : Array Value)[i]? = some v) => new_cell (w.alloc (.cells #[.int .i64 r.rows, .int .i64 r.mid, .int .i64 r.gap, .int .i64 r.reach, .slice r.la r.ls.length r.lc] 32)) (t := 73) h)
  have Z0 := Lib.hid (show w.heap.size + 1 < ((w.alloc (.cells #[.int .i64 r.rows, .int .i64 r.mid, .int .i64 r.gap, .int .i64 r.reach, .slice r.la r.ls.length r.lc] 32)).alloc (.cells #[.int .i64 l.st, .int .i64 l.dr] 73)).heap.size by simp)
  simp only [World.size_alloc] at C1
  unfold sVal sCells at LE
  unfold Cs.val at CO
  unfold Rk.val Ln.val at *
  go_enter Tryd.func83, Tryd.ntmps83
  go_wp2_with fail
  generalize World.alloc (World.alloc w _) _ = W0 at B0 C0 C1 Z0 ⊢
  have q0 := fun u : Late W0 => u.cell (C0.out 0 (.int .i64 r.rows) rfl) (by have := Z0.out; omega)
  have q1 := fun u : Late W0 => u.cell (C0.out 1 (.int .i64 r.mid) rfl) (by have := Z0.out; omega)
  have q2 := fun u : Late W0 => u.cell (C0.out 2 (.int .i64 r.gap) rfl) (by have := Z0.out; omega)
  have q3 := fun u : Late W0 => u.cell (C0.out 3 (.int .i64 r.reach) rfl) (by have := Z0.out; omega)
  have q4 := fun u : Late W0 => u.cell (C0.out 4 (.slice r.la r.ls.length r.lc) rfl) (by have := Z0.out; omega)
  have q5 := fun u : Late W0 => u.cell (C1.out 0 (.int .i64 l.st) rfl) Z0.out
  have q6 := fun u : Late W0 => u.cell (C1.out 1 (.int .i64 l.dr) rfl) Z0.out
  refine wp_region_late W0 (Below.refl _ _) (by kernel_rfl) (by kernel_rfl) ?_
  repeat (go_big_quiet_step ((first | (go_at_call 103; exact Calls.late (CO.out _)) | (go_at_call 65; exact Calls.late (LE.out _ (below_go B0.out (Late.b _)))))))
  refine wpQuiet_nil ?_
  intro _ hw'
  obtain ⟨uq, hw''⟩ := hw'
  subst hw''
  go_wp2_with fail
  go_ret
  exact ⟨by rw [HH.out, ← nat_zero_b]; rfl, below_go B0.out uq.b⟩

end Go.Proofs.YtaloffdkadhhnaaDoor

namespace Go.Proofs.YtaloffdkadhhnaaDoor
open Go.RowKit

def lnAt (t : Nat) : Ln := ⟨((t / 7 : Nat) : Int), ((t % 7 : Nat) : Int) - 3⟩
/-- The first straight ball that is as asked. -/
def fstL (P : Ln → Bool) : Option Ln := ((List.range 427).find? fun t => P (lnAt t)).map lnAt

theorem fstL_some {P : Ln → Bool} {t : Nat} (h : t < 427) (hn : ∀ j, j < t → P (lnAt j) = false) (hp : P (lnAt t) = true) : fstL P = some (lnAt t) := by
  have e : (List.range 427).find? (fun t => P (lnAt t)) = some t := by
    rw [List.find?_range_eq_some]
    exact ⟨hp, by simpa using h, fun j hj => by simp [hn j hj]⟩
  rw [fstL, e]; rfl
theorem fstL_none {P : Ln → Bool} (hn : ∀ j, j < 427 → P (lnAt j) = false) : fstL P = none := by
  have e : (List.range 427).find? (fun t => P (lnAt t)) = none := by
    rw [List.find?_eq_none]
    intro j hj
    simp [hn j (by simpa using hj)]
  rw [fstL, e]; rfl
theorem lnAt_of {s d : Int} (s1 : 0 ≤ s) (d1 : -3 ≤ d) (d2 : d ≤ 3) : lnAt (7 * s.toNat + (d + 3).toNat) = ⟨s, d⟩ := by
  unfold lnAt
  congr 1 <;> omega

theorem Blk.fr {W : World} {b : Nat} {cs : Array Value} {t : TypeId} (h : Blk W b cs t) (i : Nat) : W.frozen? ⟨b, i, none⟩ = false := by
  unfold World.frozen?
  simp only [show W.heap[b]? = _ from h]
  simp
theorem Blk.set2 {W : World} {b : Nat} {x y : Value} {t : TypeId} (h : Blk W b #[x, y] t) (x' y' : Value) : Blk ((W.setCell ⟨b, 0, none⟩ x').setCell ⟨b, 1, none⟩ y') b #[x', y'] t := by
  have key : ∀ {W : World} {cs : Array Value} (h : Blk W b cs t) (i : Nat) (v : Value), Blk (W.setCell ⟨b, i, none⟩ v) b (cs.setIfInBounds i v) t := fun {W cs} h i v => by
    obtain ⟨hlt, hk⟩ := Array.getElem?_eq_some_iff.1 (show W.heap[b]? = _ from h)
    show (W.heap.modify b _)[b]? = _
    rw [Array.getElem?_eq_getElem (by rw [Array.size_modify]; exact hlt), Array.getElem_modify_self, hk]
    rfl
  exact key (key h 0 x') 1 y'

structure FLIs (P : Ln → Bool) (w : World) (e : Ending) (w' : World) (l : Ln) (b : Bool) : Prop where
  e : e = .returned (.tuple #[l.val, .bool b])
  y : b = true → fstL P = some l
  n : b = false → fstL P = none
  b : Below w.heap.size w w'
def FLPost (P : Ln → Bool) (w : World) (e : Ending) (w' : World) : Prop := ∃ l b, FLIs P w e w' l b

set_option maxRecDepth 100000 in
set_option maxHeartbeats 8000000 in
theorem firstLine_any (kf : Nat) (capf : Array Value) (P : Ln → Bool) (K : World → Prop) (w : World) (hK : ∀ A B, K A → Alt (fun k => w.heap.size ≤ k) A B → K B) (hK0 : K w)
    (ek : ∀ args w, (callFunc kf args).run Tryd.prog w = .ok (.enter kf args) w)
    (CF : ∀ l : Ln, ∀ W, 0 ≤ l.st → l.st ≤ 60 → -3 ≤ l.dr → l.dr ≤ 3 → K W → Calls Tryd.prog kf (#[l.val] ++ capf) W fun e W' => e = .returned (.bool (P l)) ∧ Below W.heap.size W W') :
    Calls Tryd.prog 81 #[.func (.func kf) #[] capf] w (FLPost P w) := by
  have HCF := Lib.hid CF
  clear CF
  have hb0 := Lib.hid (below_al w (.cells #[.int .i64 0, .int .i64 0] 73))
  have b0 := Lib.hid (Blk.new w #[.int .i64 0, .int .i64 0] 73)
  go_enter Tryd.func81, Tryd.ntmps81
  go_wp2_with fail
  go_step3
  go_wp2_with fail
  go_step3
  go_wp2_with fail
  generalize World.alloc w _ = W1 at hb0 b0 ⊢
  go_loopg [3, 6] 61 (fun g s3 s6 wx => ∃ (i : Nat) (c d : Int), i ≤ 61 ∧ g = 61 - i ∧ s6 = .int .i64 (i : Int) ∧ s3 = .bool false ∧ Hid (∀ j, j < 7 * i → P (lnAt j) = false) ∧ Hid (Blk wx w.heap.size #[.int .i64 c, .int .i64 d] 73) ∧ Hid (Below w.heap.size w wx))
  case atStart => exact ⟨0, 0, 0, by omega, rfl, rfl, rfl, Lib.hid (fun j hj => by omega), b0, hb0⟩
  case round =>
    obtain ⟨i, c, d, hi, rfl, rfl, rfl, hN, hB, hW⟩ := hrel
    by_cases hlt : i < 61
    · have hz1 : (i : Int) < 61 := by omega
      obtain ⟨wo, rfl⟩ : ∃ wo : World, wo = wr := ⟨_, rfl⟩
      clear hb0 b0
      go_wp2_with fail
      go_loopg [3, 5] 7 (fun g s3 s5 wx => ∃ (j : Nat) (c d : Int), j ≤ 7 ∧ g = 7 - j ∧ s5 = .int .i64 ((j : Int) - 3) ∧ s3 = .bool false ∧ Hid (∀ m, m < 7 * i + j → P (lnAt m) = false) ∧ Hid (Blk wx w.heap.size #[.int .i64 c, .int .i64 d] 73) ∧ Hid (Below w.heap.size w wx))
      case atStart => exact ⟨0, c, d, by omega, rfl, rfl, rfl, hN, hB, hW⟩
      case round =>
        obtain ⟨j, c1, d1, hj, rfl, rfl, rfl, hN1, hB1, hW1⟩ := hrel
        clear hB hW hN
        have f0 := hB1.out.fr 0
        have f1 := hB1.out.fr 1
        have k0 : wr.cell? ⟨w.heap.size, 0, none⟩ = some (.int .i64 c1) := hB1.out.cell 0 rfl
        have k1 : wr.cell? ⟨w.heap.size, 1, none⟩ = some (.int .i64 d1) := hB1.out.cell 1 rfl
        by_cases hjt : j < 7
        · have hz2 : (j : Int) - 3 ≤ 3 := by omega
          have B2 := Lib.hid (hB1.out.set2 (.int .i64 (i : Int)) (.int .i64 ((j : Int) - 3)))
          have W2 := Lib.hid ((hW1.out.setCell (p := ⟨w.heap.size, 0, none⟩) (Nat.le_refl _) (.int .i64 (i : Int))).setCell (p := ⟨w.heap.size, 1, none⟩) (Nat.le_refl _) (.int .i64 ((j : Int) - 3)))
          have CX := Lib.hid (HCF.out ⟨(i : Int), (j : Int) - 3⟩ _ (by simp) (by simp; omega) (by simp only; omega) (by simp only; omega) (hK _ _ hK0 (Alt.of_below W2.out (fun _ _ h => h))))
          have hln : lnAt (7 * i + j) = ⟨(i : Int), (j : Int) - 3⟩ := by
            have := lnAt_of (s := (i : Int)) (d := (j : Int) - 3) (by omega) (by omega) (by omega)
            rw [← this]; congr 1; omega
          have HLN := Lib.hid hln
          clear hln
          unfold Ln.val at CX
          simp only at CX
          go_wp2_with fail
          refine CX.out.mono ?_
          rintro e w3 ⟨rfl, hb⟩
          have W3 := Lib.hid (below_go W2.out hb)
          have hlt3 := B2.out.lt
          have B3 := Lib.hid (Blk.alt B2.out (Alt.of_below (p := fun _ => False) hb (fun k hk h => by omega)) id)
          clear hb f0 f1 k0 k1 CX hlt3
          have k0 : w3.cell? ⟨w.heap.size, 0, none⟩ = some (.int .i64 (i : Int)) := B3.out.cell 0 rfl
          have k1 : w3.cell? ⟨w.heap.size, 1, none⟩ = some (.int .i64 ((j : Int) - 3)) := B3.out.cell 1 rfl
          have f0 := B3.out.fr 0
          have f1 := B3.out.fr 1
          cases hq : P ⟨(i : Int), (j : Int) - 3⟩
          · have HQ := Lib.hid hq
            clear hq
            go_wp2_with fail
            go_roundg (7 - (j + 1))
            case measure => omega
            case rel =>
              refine ⟨j + 1, _, _, by omega, rfl, by simp; omega, rfl, Lib.hid (fun m hm => ?_), B3, W3⟩
              by_cases hme : m = 7 * i + j
              · rw [hme, HLN.out]; exact HQ.out
              · exact hN1.out m (by omega)
          · have HQ := Lib.hid hq
            clear hq
            have B4 := Lib.hid (B3.out.set2 (.int .i64 (i : Int)) (.int .i64 ((j : Int) - 3)))
            have W4 := Lib.hid ((W3.out.setCell (p := ⟨w.heap.size, 0, none⟩) (Nat.le_refl _) (.int .i64 (i : Int))).setCell (p := ⟨w.heap.size, 1, none⟩) (Nat.le_refl _) (.int .i64 ((j : Int) - 3)))
            go_wp2_with fail
            generalize World.setCell (World.setCell _ _ _) _ _ = W9 at B4 W4 ⊢
            have h0 : W9.cell? ⟨w.heap.size, 0, none⟩ = some (.int .i64 (i : Int)) := B4.out.cell 0 rfl
            have h1 : W9.cell? ⟨w.heap.size, 1, none⟩ = some (.int .i64 ((j : Int) - 3)) := B4.out.cell 1 rfl
            rw [Exit.noGoto_ret]
            show bodyPost Tryd.prog Tryd.f81 _ Exit.ret _ _
            refine bodyPost_ret (v := .tuple #[.agg #[.int .i64 (i : Int), .int .i64 ((j : Int) - 3)], .bool true]) (by simp [results, Tryd.results81, go_sem, h0, h1]) rfl ⟨⟨(i : Int), (j : Int) - 3⟩, true, rfl, fun _ => ?_, fun h => (by cases h), W4.out⟩
            rw [← HLN.out]
            exact fstL_some (by omega) hN1.out (by rw [HLN.out]; exact HQ.out)
        · have hz2 : ¬ (j : Int) - 3 ≤ 3 := by omega
          go_wp2_with fail
          go_roundg (61 - (i + 1))
          case measure => omega
          case rel => exact ⟨i + 1, _, _, by omega, rfl, by simp, rfl, Lib.hid (fun m hm => hN1.out m (by omega)), hB1, hW1⟩
    · have hz1 : ¬ (i : Int) < 61 := by omega
      have k0 : wr.cell? ⟨w.heap.size, 0, none⟩ = some (.int .i64 c) := hB.out.cell 0 rfl
      have k1 : wr.cell? ⟨w.heap.size, 1, none⟩ = some (.int .i64 d) := hB.out.cell 1 rfl
      have f0 := hB.out.fr 0
      have f1 := hB.out.fr 1
      have B4 := Lib.hid (hB.out.set2 (.int .i64 c) (.int .i64 d))
      have W4 := Lib.hid ((hW.out.setCell (p := ⟨w.heap.size, 0, none⟩) (Nat.le_refl _) (.int .i64 c)).setCell (p := ⟨w.heap.size, 1, none⟩) (Nat.le_refl _) (.int .i64 d))
      go_wp2_with fail
      generalize World.setCell (World.setCell _ _ _) _ _ = W9 at B4 W4 ⊢
      have h0 : W9.cell? ⟨w.heap.size, 0, none⟩ = some (.int .i64 c) := B4.out.cell 0 rfl
      have h1 : W9.cell? ⟨w.heap.size, 1, none⟩ = some (.int .i64 d) := B4.out.cell 1 rfl
      refine bodyPost_ret (v := .tuple #[.agg #[.int .i64 c, .int .i64 d], .bool false]) (by simp [results, Tryd.results81, go_sem, h0, h1]) rfl ⟨⟨c, d⟩, false, rfl, fun h => (by cases h), fun _ => ?_, W4.out⟩
      exact fstL_none (fun j hj => hN.out j (by omega))

end Go.Proofs.YtaloffdkadhhnaaDoor

namespace Go.Proofs.YtaloffdkadhhnaaDoor
open Go.RowKit

def rCells (r : Rk) : Array Value := #[.int .i64 r.rows, .int .i64 r.mid, .int .i64 r.gap, .int .i64 r.reach, .slice r.la r.ls.length r.lc]

set_option maxRecDepth 100000 in
set_option maxHeartbeats 4000000 in
theorem conv1_any (r : Rk) (l : Ln) (k : Nat) (St : Nat) (cb : Lk → Bool) (rB sB cB : Nat) (w : World) (hc : Carry k #[] (fun _ => True) cb 0) (hf : r.Fit w) (s1 : 0 ≤ l.st) (s2 : l.st ≤ 60) (d1 : -3 ≤ l.dr) (d2 : l.dr ≤ 3) (hSt : St < 65536) (hp : ∀ x ∈ els St, x < pinsN r.rows)
    (hr : Blk w rB (rCells r) 32) (hs : Boxed w sB 100 (.int .u16 (St : Nat))) (hcB : Boxed w cB 109 (.func (.func k) #[] #[])) :
    Calls Tryd.prog 82 #[l.val, .pointer (some ⟨rB, 0, none⟩), .pointer (some ⟨sB, 0, none⟩), .pointer (some ⟨cB, 0, none⟩)] w fun e w' => e = .returned (.bool (convB r St l cb)) ∧ Below w.heap.size w w' := by
  have CV := Lib.hid (fun W (hb : Below w.heap.size w W) => converts_any r l k #[] St (fun _ => True) cb W (hc.up (Nat.zero_le _)) trivial (hf.lo hb) (by omega) (by omega) (by omega) (by omega) hSt hp)
  generalize convB r St l cb = R at *
  have b0 := below_al w (.cells #[.int .i64 l.st, .int .i64 l.dr] 73)
  have r0 : (w.alloc (.cells #[.int .i64 l.st, .int .i64 l.dr] 73)).cell? ⟨rB, 0, none⟩ = some (.int .i64 r.rows) := cell_lo b0 (hr.cell 0 rfl)
  have r1 : (w.alloc (.cells #[.int .i64 l.st, .int .i64 l.dr] 73)).cell? ⟨rB, 1, none⟩ = some (.int .i64 r.mid) := cell_lo b0 (hr.cell 1 rfl)
  have r2 : (w.alloc (.cells #[.int .i64 l.st, .int .i64 l.dr] 73)).cell? ⟨rB, 2, none⟩ = some (.int .i64 r.gap) := cell_lo b0 (hr.cell 2 rfl)
  have r3 : (w.alloc (.cells #[.int .i64 l.st, .int .i64 l.dr] 73)).cell? ⟨rB, 3, none⟩ = some (.int .i64 r.reach) := cell_lo b0 (hr.cell 3 rfl)
  have r4 : (w.alloc (.cells #[.int .i64 l.st, .int .i64 l.dr] 73)).cell? ⟨rB, 4, none⟩ = some (.slice r.la r.ls.length r.lc) := cell_lo b0 (hr.cell 4 rfl)
  have e0 := cell_lo b0 hs.cell
  have c0 := cell_lo b0 hcB.cell
  have B0 := Lib.hid b0
  clear b0 hr hs hcB hf hp
  unfold Rk.val at CV
  unfold Ln.val at *
  go_enter Tryd.func82, Tryd.ntmps82
  go_wp2_with fail
  refine (CV.out _ B0.out).mono ?_
  rintro e w1 ⟨rfl, hb⟩
  have B1 := Lib.hid (below_go B0.out hb)
  clear hb r0 r1 r2 r3 r4 e0 c0
  go_wp2_with fail
  go_ret
  exact ⟨rfl, B1.out⟩

/-- Which links carry, if they may, or if they must. -/
def cbOf (may : Bool) : Lk → Bool := fun l => may || l.sr
def cvtR (r : Rk) (xs : List Int) (may : Bool) : Ln × Int :=
  if chkE r xs = 0 then (match fstL (fun l => convB r (setN xs) l (cbOf may)) with | some l => (l, 0) | none => (⟨0, 0⟩, 9)) else (⟨0, 0⟩, chkE r xs)

theorem linksOk_of {r : Rk} (h : faultN r = 0) : LinksOk r.ls := by
  obtain ⟨ok, _, _, hw⟩ := faultN_ok h
  intro l hl
  have := hw l hl
  have hp := (@pinsN_bd r)
  unfold wrongB at this
  simp only [Bool.or_eq_false_iff, Bool.not_eq_false'] at this
  obtain ⟨h1, h2, _⟩ := this
  have a := inB_iff.1 h1; have b := inB_iff.1 h2
  omega
theorem chk_set {r : Rk} {xs : List Int} (h : chkE r xs = 0) : setN xs < 65536 ∧ (∀ x ∈ els (setN xs), x < pinsN r.rows) ∧ els (setN xs) = xs := by
  obtain ⟨h1, h2⟩ := chk_ok h
  obtain ⟨hr, hp⟩ := hasL_out h2
  have h3 : ∀ x ∈ xs, 0 ≤ x ∧ x ≤ 15 := fun x hx => by have := hp x hx; have := (@pinsN_bd r).2; omega
  refine ⟨setN_lt h3, ?_, els_setN hr h3⟩
  rw [els_setN hr h3]
  exact fun x hx => (hp x hx).2
theorem carry_of_may (may : Bool) (n0 : Nat) : Carry (if may then 64 else 71) #[] (fun _ => True) (cbOf may) n0 := by
  cases may
  · exact carry_sure n0
  · exact carry_may n0

set_option maxRecDepth 100000 in
set_option maxHeartbeats 8000000 in
theorem convert_any (r : Rk) (xs : List Int) (a : Option Addr) (c : Nat) (may : Bool) (w : World) (hL : LinksAt w r.la r.ls) (hn : r.ls.length ≤ 1000) (hla : ∀ g o, r.la = some ⟨g, o, none⟩ → g < w.heap.size) (hX : IntsAt w a xs) (hm : xs.length ≤ 1000) (hT : TabOK w) :
    Calls Tryd.prog 40 #[r.val, .slice a xs.length c, .bool may] w fun e w' => e = .returned (.tuple #[(cvtR r xs may).1.val, .int .i64 (cvtR r xs may).2]) ∧ Below w.heap.size w w' := by
  have CR := Lib.hid (fun W (hb : Below w.heap.size w W) => check_any r xs a c W (hL.lo hb) hn (hX.lo hb) hm)
  have HR : Hid (cvtR r xs may = if chkE r xs = 0 then (match fstL (fun l => convB r (setN xs) l (cbOf may)) with | some l => (l, 0) | none => (⟨0, 0⟩, 9)) else (⟨0, 0⟩, chkE r xs)) := Lib.hid rfl
  have hNc : chkN r xs = if chkE r xs = 0 then setN xs else 0 := rfl
  generalize cvtR r xs may = RES at *
  have B0 := Lib.hid (below_al2 (below_al w (.cells (rCells r) 32)) (.cells #[.int .i64 0, .int .i64 0] 73))
  have R0 : Hid (Blk ((w.alloc (.cells (rCells r) 32)).alloc (.cells #[.int .i64 0, .int .i64 0] 73)) w.heap.size (rCells r) 32) := Lib.hid (Blk.alt (p := fun _ => False) (Blk.new w _ _) ((Alt.refl _ _).alloc _) id)
  have T0 : Hid (Blk ((w.alloc (.cells (rCells r) 32)).alloc (.cells #[.int .i64 0, .int .i64 0] 73)) (w.heap.size + 1) #[.int .i64 0, .int .i64 0] 73) := Lib.hid (by
    have := Blk.new (w.alloc (.cells (rCells r) 32)) #[.int .i64 0, .int .i64 0] 73
    rwa [World.size_alloc] at this)
  by_cases hE : chkE r xs = 0
  · have hfl := (chk_ok hE).1
    obtain ⟨hs1, hs2, _⟩ := chk_set hE
    have hok := (faultN_ok hfl).1
    have hlk := linksOk_of hfl
    have FIT := Lib.hid (fun W (hb : Below w.heap.size w W) => (⟨hok, hL.lo hb, fun g o e => Nat.lt_of_lt_of_le (hla g o e) hb.size, hlk, hn, hT.lo hb⟩ : r.Fit W))
    rw [if_pos hE] at hNc
    rw [hNc, hE] at CR
    have HR2 : Hid (RES = match fstL (fun l => convB r (setN xs) l (cbOf may)) with | some l => (l, 0) | none => (⟨0, 0⟩, 9)) := Lib.hid (by rw [HR.out, if_pos hE])
    clear HR hNc hE hfl hok hlk hL hla hX hm hT
    generalize setN xs = St at *
    unfold rCells at B0 R0 T0
    unfold Rk.val at CR
    unfold Rk.val
    have HC1 := Lib.hid (fun (l : Ln) W (q1 : 0 ≤ l.st) (q2 : l.st ≤ 60) (q3 : -3 ≤ l.dr) (q4 : l.dr ≤ 3) rB sB cB (hb : Below w.heap.size w W) (h1 : Blk W rB (rCells r) 32) (h2 : Boxed W sB 100 (.int .u16 (St : Nat))) (h3 : Boxed W cB 109 (.func (.func (if may then 64 else 71)) #[] #[])) =>
      conv1_any r l (if may then 64 else 71) St (cbOf may) rB sB cB W (carry_of_may may 0) (FIT.out W hb) q1 q2 q3 q4 hs1 hs2 h1 h2 h3)
    cases may
    · clear hs2
      go_enter Tryd.func40, Tryd.ntmps40
      go_wp2_with fail
      refine (CR.out _ B0.out).mono ?_
      rintro e w1 ⟨rfl, hb⟩
      have B1 := Lib.hid (below_go B0.out hb)
      have R1 := Lib.hid (Blk.alt R0.out (Alt.of_below (p := fun _ => False) hb (fun k hk h => by omega)) id)
      have T1 := Lib.hid (Blk.alt T0.out (Alt.of_below (p := fun _ => False) hb (fun k hk h => by omega)) id)
      clear hb R0 T0 CR
      have B3 := Lib.hid (below_al2 (below_al2 B1.out (.cells #[.int .u16 (St : Nat)] 100)) (.cells #[.func (.func 71) #[] #[]] 109))
      have X3 : Alt (fun _ => False) w1 ((w1.alloc (.cells #[.int .u16 (St : Nat)] 100)).alloc (.cells #[.func (.func 71) #[] #[]] 109)) := ((Alt.refl _ _).alloc _).alloc _
      have R3 := Lib.hid (Blk.alt R1.out X3 id)
      have T3 := Lib.hid (Blk.alt T1.out X3 id)
      have S3 : Hid (Boxed ((w1.alloc (.cells #[.int .u16 (St : Nat)] 100)).alloc (.cells #[.func (.func 71) #[] #[]] 109)) w1.heap.size 100 (.int .u16 (St : Nat))) := Lib.hid ((Boxed.new w1 100 _).alloc _)
      have C3 : Hid (Boxed ((w1.alloc (.cells #[.int .u16 (St : Nat)] 100)).alloc (.cells #[.func (.func 71) #[] #[]] 109)) (w1.heap.size + 1) 109 (.func (.func 71) #[] #[])) := Lib.hid (by
        have := Boxed.new (w1.alloc (.cells #[.int .u16 (St : Nat)] 100)) 109 (.func (.func 71) #[] #[])
        rwa [World.size_alloc] at this)
      have Z3 := Lib.hid (show ((w1.alloc (.cells #[.int .u16 (St : Nat)] 100)).alloc (.cells #[.func (.func 71) #[] #[]] 109)).heap.size = w1.heap.size + 2 by simp)
      have hw1 := Lib.hid R1.out.lt
      clear X3 R1 T1
      go_wp2_with fail
      generalize World.alloc (World.alloc w1 _) _ = W3 at B3 R3 T3 S3 C3 Z3 ⊢
      have FLC := Lib.hid (firstLine_any 82 #[.pointer (some ⟨w.heap.size, 0, none⟩), .pointer (some ⟨w1.heap.size, 0, none⟩), .pointer (some ⟨w1.heap.size + 1, 0, none⟩)] (fun l => convB r St l (cbOf false))
        (fun W => Below w.heap.size w W ∧ Blk W w.heap.size (rCells r) 32 ∧ Boxed W w1.heap.size 100 (.int .u16 (St : Nat)) ∧ Boxed W (w1.heap.size + 1) 109 (.func (.func 71) #[] #[])) W3
        (fun A B h hAB => by
          have z := Z3.out; have z1 := hw1.out; have z2 := B1.out.size
          obtain ⟨a1, a2, a3, a4⟩ := h
          exact ⟨a1.trans (hAB.below a1.size (fun k hk => by omega)), Blk.alt a2 hAB (by omega), Boxed.alt a3 hAB (by omega), Boxed.alt a4 hAB (by omega)⟩)
        ⟨B3.out, R3.out, S3.out, C3.out⟩ (enters_of Tryd.func82 (by kernel_rfl) rfl)
        (fun l W q1 q2 q3 q4 h => by simpa using HC1.out l W q1 q2 q3 q4 _ _ _ h.1 h.2.1 h.2.2.1 h.2.2.2))
      clear S3 C3 R3 HC1
      refine FLC.out.mono ?_
      rintro e w4 ⟨l, b, rfl, hy, hno, hb⟩
      have B4 := Lib.hid (below_go B3.out hb)
      have T4 := Lib.hid (Blk.alt T3.out (Alt.of_below (p := fun _ => False) hb (fun k hk h => by omega)) id)
      have T5 := Lib.hid (Blk.alt T4.out ((Alt.refl (fun _ => False) w4).alloc (.cells #[.int .i64 l.st, .int .i64 l.dr] 73)) id)
      have B5 := Lib.hid (below_al2 B4.out (.cells #[.int .i64 l.st, .int .i64 l.dr] 73))
      have HY := Lib.hid hy; have HN := Lib.hid hno
      clear hb hy hno T3 FLC T4
      unfold Ln.val
      have t0 : (w4.alloc (.cells #[.int .i64 l.st, .int .i64 l.dr] 73)).cell? ⟨w.heap.size + 1, 0, none⟩ = some (.int .i64 0) := T5.out.cell 0 rfl
      have t1 : (w4.alloc (.cells #[.int .i64 l.st, .int .i64 l.dr] 73)).cell? ⟨w.heap.size + 1, 1, none⟩ = some (.int .i64 0) := T5.out.cell 1 rfl
      have f0 := T5.out.fr 0
      have f1 := T5.out.fr 1
      cases b
      · have HR3 := Lib.hid (show RES = (⟨0, 0⟩, 9) from by rw [HR2.out, HN.out rfl])
        have T6 := Lib.hid (T5.out.set2 (.int .i64 0) (.int .i64 0))
        have B6 := Lib.hid ((B5.out.setCell (p := ⟨w.heap.size + 1, 0, none⟩) (Nat.le_succ _) (.int .i64 0)).setCell (p := ⟨w.heap.size + 1, 1, none⟩) (Nat.le_succ _) (.int .i64 0))
        go_wp2_with fail
        generalize World.setCell (World.setCell _ _ _) _ _ = W9 at T6 B6 ⊢
        have h0 : W9.cell? ⟨w.heap.size + 1, 0, none⟩ = some (.int .i64 0) := T6.out.cell 0 rfl
        have h1 : W9.cell? ⟨w.heap.size + 1, 1, none⟩ = some (.int .i64 0) := T6.out.cell 1 rfl
        refine bodyPost_ret (v := .tuple #[.agg #[.int .i64 0, .int .i64 0], .int .i64 9]) (by simp [results, Tryd.results40, go_sem, h0, h1]) rfl ⟨by rw [HR3.out]; rfl, B6.out⟩
      · have HR3 := Lib.hid (show RES = (l, 0) from by rw [HR2.out, HY.out rfl])
        have T6 := Lib.hid (T5.out.set2 (.int .i64 l.st) (.int .i64 l.dr))
        have B6 := Lib.hid ((B5.out.setCell (p := ⟨w.heap.size + 1, 0, none⟩) (Nat.le_succ _) (.int .i64 l.st)).setCell (p := ⟨w.heap.size + 1, 1, none⟩) (Nat.le_succ _) (.int .i64 l.dr))
        go_wp2_with fail
        generalize World.setCell (World.setCell _ _ _) _ _ = W9 at T6 B6 ⊢
        have h0 : W9.cell? ⟨w.heap.size + 1, 0, none⟩ = some (.int .i64 l.st) := T6.out.cell 0 rfl
        have h1 : W9.cell? ⟨w.heap.size + 1, 1, none⟩ = some (.int .i64 l.dr) := T6.out.cell 1 rfl
        refine bodyPost_ret (v := .tuple #[.agg #[.int .i64 l.st, .int .i64 l.dr], .int .i64 0]) (by simp [results, Tryd.results40, go_sem, h0, h1]) rfl ⟨by rw [HR3.out]; rfl, B6.out⟩
    · clear hs2
      go_enter Tryd.func40, Tryd.ntmps40
      go_wp2_with fail
      refine (CR.out _ B0.out).mono ?_
      rintro e w1 ⟨rfl, hb⟩
      have B1 := Lib.hid (below_go B0.out hb)
      have R1 := Lib.hid (Blk.alt R0.out (Alt.of_below (p := fun _ => False) hb (fun k hk h => by omega)) id)
      have T1 := Lib.hid (Blk.alt T0.out (Alt.of_below (p := fun _ => False) hb (fun k hk h => by omega)) id)
      clear hb R0 T0 CR
      have B3 := Lib.hid (below_al2 (below_al2 B1.out (.cells #[.int .u16 (St : Nat)] 100)) (.cells #[.func (.func 64) #[] #[]] 109))
      have X3 : Alt (fun _ => False) w1 ((w1.alloc (.cells #[.int .u16 (St : Nat)] 100)).alloc (.cells #[.func (.func 64) #[] #[]] 109)) := ((Alt.refl _ _).alloc _).alloc _
      have R3 := Lib.hid (Blk.alt R1.out X3 id)
      have T3 := Lib.hid (Blk.alt T1.out X3 id)
      have S3 : Hid (Boxed ((w1.alloc (.cells #[.int .u16 (St : Nat)] 100)).alloc (.cells #[.func (.func 64) #[] #[]] 109)) w1.heap.size 100 (.int .u16 (St : Nat))) := Lib.hid ((Boxed.new w1 100 _).alloc _)
      have C3 : Hid (Boxed ((w1.alloc (.cells #[.int .u16 (St : Nat)] 100)).alloc (.cells #[.func (.func 64) #[] #[]] 109)) (w1.heap.size + 1) 109 (.func (.func 64) #[] #[])) := Lib.hid (by
        have := Boxed.new (w1.alloc (.cells #[.int .u16 (St : Nat)] 100)) 109 (.func (.func 64) #[] #[])
        rwa [World.size_alloc] at this)
      have Z3 := Lib.hid (show ((w1.alloc (.cells #[.int .u16 (St : Nat)] 100)).alloc (.cells #[.func (.func 64) #[] #[]] 109)).heap.size = w1.heap.size + 2 by simp)
      have hw1 := Lib.hid R1.out.lt
      clear X3 R1 T1
      go_wp2_with fail
      generalize World.alloc (World.alloc w1 _) _ = W3 at B3 R3 T3 S3 C3 Z3 ⊢
      have FLC := Lib.hid (firstLine_any 82 #[.pointer (some ⟨w.heap.size, 0, none⟩), .pointer (some ⟨w1.heap.size, 0, none⟩), .pointer (some ⟨w1.heap.size + 1, 0, none⟩)] (fun l => convB r St l (cbOf true))
        (fun W => Below w.heap.size w W ∧ Blk W w.heap.size (rCells r) 32 ∧ Boxed W w1.heap.size 100 (.int .u16 (St : Nat)) ∧ Boxed W (w1.heap.size + 1) 109 (.func (.func 64) #[] #[])) W3
        (fun A B h hAB => by
          have z := Z3.out; have z1 := hw1.out; have z2 := B1.out.size
          obtain ⟨a1, a2, a3, a4⟩ := h
          exact ⟨a1.trans (hAB.below a1.size (fun k hk => by omega)), Blk.alt a2 hAB (by omega), Boxed.alt a3 hAB (by omega), Boxed.alt a4 hAB (by omega)⟩)
        ⟨B3.out, R3.out, S3.out, C3.out⟩ (enters_of Tryd.func82 (by kernel_rfl) rfl)
        (fun l W q1 q2 q3 q4 h => by simpa using HC1.out l W q1 q2 q3 q4 _ _ _ h.1 h.2.1 h.2.2.1 h.2.2.2))
      clear S3 C3 R3 HC1
      refine FLC.out.mono ?_
      rintro e w4 ⟨l, b, rfl, hy, hno, hb⟩
      have B4 := Lib.hid (below_go B3.out hb)
      have T4 := Lib.hid (Blk.alt T3.out (Alt.of_below (p := fun _ => False) hb (fun k hk h => by omega)) id)
      have T5 := Lib.hid (Blk.alt T4.out ((Alt.refl (fun _ => False) w4).alloc (.cells #[.int .i64 l.st, .int .i64 l.dr] 73)) id)
      have B5 := Lib.hid (below_al2 B4.out (.cells #[.int .i64 l.st, .int .i64 l.dr] 73))
      have HY := Lib.hid hy; have HN := Lib.hid hno
      clear hb hy hno T3 FLC T4
      unfold Ln.val
      have t0 : (w4.alloc (.cells #[.int .i64 l.st, .int .i64 l.dr] 73)).cell? ⟨w.heap.size + 1, 0, none⟩ = some (.int .i64 0) := T5.out.cell 0 rfl
      have t1 : (w4.alloc (.cells #[.int .i64 l.st, .int .i64 l.dr] 73)).cell? ⟨w.heap.size + 1, 1, none⟩ = some (.int .i64 0) := T5.out.cell 1 rfl
      have f0 := T5.out.fr 0
      have f1 := T5.out.fr 1
      cases b
      · have HR3 := Lib.hid (show RES = (⟨0, 0⟩, 9) from by rw [HR2.out, HN.out rfl])
        have T6 := Lib.hid (T5.out.set2 (.int .i64 0) (.int .i64 0))
        have B6 := Lib.hid ((B5.out.setCell (p := ⟨w.heap.size + 1, 0, none⟩) (Nat.le_succ _) (.int .i64 0)).setCell (p := ⟨w.heap.size + 1, 1, none⟩) (Nat.le_succ _) (.int .i64 0))
        go_wp2_with fail
        generalize World.setCell (World.setCell _ _ _) _ _ = W9 at T6 B6 ⊢
        have h0 : W9.cell? ⟨w.heap.size + 1, 0, none⟩ = some (.int .i64 0) := T6.out.cell 0 rfl
        have h1 : W9.cell? ⟨w.heap.size + 1, 1, none⟩ = some (.int .i64 0) := T6.out.cell 1 rfl
        refine bodyPost_ret (v := .tuple #[.agg #[.int .i64 0, .int .i64 0], .int .i64 9]) (by simp [results, Tryd.results40, go_sem, h0, h1]) rfl ⟨by rw [HR3.out]; rfl, B6.out⟩
      · have HR3 := Lib.hid (show RES = (l, 0) from by rw [HR2.out, HY.out rfl])
        have T6 := Lib.hid (T5.out.set2 (.int .i64 l.st) (.int .i64 l.dr))
        have B6 := Lib.hid ((B5.out.setCell (p := ⟨w.heap.size + 1, 0, none⟩) (Nat.le_succ _) (.int .i64 l.st)).setCell (p := ⟨w.heap.size + 1, 1, none⟩) (Nat.le_succ _) (.int .i64 l.dr))
        go_wp2_with fail
        generalize World.setCell (World.setCell _ _ _) _ _ = W9 at T6 B6 ⊢
        have h0 : W9.cell? ⟨w.heap.size + 1, 0, none⟩ = some (.int .i64 l.st) := T6.out.cell 0 rfl
        have h1 : W9.cell? ⟨w.heap.size + 1, 1, none⟩ = some (.int .i64 l.dr) := T6.out.cell 1 rfl
        refine bodyPost_ret (v := .tuple #[.agg #[.int .i64 l.st, .int .i64 l.dr], .int .i64 0]) (by simp [results, Tryd.results40, go_sem, h0, h1]) rfl ⟨by rw [HR3.out]; rfl, B6.out⟩
  · have hE' : (chkE r xs == 0) = false := by simpa using hE
    have HR2 := Lib.hid (show RES = (⟨0, 0⟩, chkE r xs) from by rw [HR.out, if_neg hE])
    rw [if_neg hE] at hNc
    rw [hNc] at CR
    generalize chkE r xs = E at *
    unfold rCells at B0 R0 T0
    unfold Rk.val at CR
    unfold Rk.val
    clear HR hNc hE hL hla hX hm hT R0
    go_enter Tryd.func40, Tryd.ntmps40
    go_wp2_with fail
    refine (CR.out _ B0.out).mono ?_
    rintro e w1 ⟨rfl, hb⟩
    have T1 := Lib.hid (Blk.alt T0.out (Alt.of_below (p := fun _ => False) hb (fun k hk h => by omega)) id)
    have T5 := Lib.hid (Blk.alt T1.out ((Alt.refl (fun _ => False) w1).alloc (.cells #[.int .u16 0] 100)) id)
    have B5 := Lib.hid (below_al2 (below_go B0.out hb) (.cells #[.int .u16 0] 100))
    clear hb T0 T1 CR
    have t0 : (w1.alloc (.cells #[.int .u16 0] 100)).cell? ⟨w.heap.size + 1, 0, none⟩ = some (.int .i64 0) := T5.out.cell 0 rfl
    have t1 : (w1.alloc (.cells #[.int .u16 0] 100)).cell? ⟨w.heap.size + 1, 1, none⟩ = some (.int .i64 0) := T5.out.cell 1 rfl
    have f0 := T5.out.fr 0
    have f1 := T5.out.fr 1
    have T6 := Lib.hid (T5.out.set2 (.int .i64 0) (.int .i64 0))
    have B6 := Lib.hid ((B5.out.setCell (p := ⟨w.heap.size + 1, 0, none⟩) (Nat.le_succ _) (.int .i64 0)).setCell (p := ⟨w.heap.size + 1, 1, none⟩) (Nat.le_succ _) (.int .i64 0))
    go_wp2_with fail
    generalize World.setCell (World.setCell _ _ _) _ _ = W9 at T6 B6 ⊢
    have h0 : W9.cell? ⟨w.heap.size + 1, 0, none⟩ = some (.int .i64 0) := T6.out.cell 0 rfl
    have h1 : W9.cell? ⟨w.heap.size + 1, 1, none⟩ = some (.int .i64 0) := T6.out.cell 1 rfl
    refine bodyPost_ret (v := .tuple #[.agg #[.int .i64 0, .int .i64 0], .int .i64 E]) (by simp [results, Tryd.results40, go_sem, h0, h1]) rfl ⟨by rw [HR2.out]; rfl, B6.out⟩

def prvB (r : Rk) (xs : List Int) (l : Ln) : Bool := (chkE r xs == 0) && (l.okB && convB r (setN xs) l (cbOf false))

set_option maxRecDepth 100000 in
set_option maxHeartbeats 8000000 in
theorem prove_any (r : Rk) (xs : List Int) (a : Option Addr) (c : Nat) (l : Ln) (w : World) (hL : LinksAt w r.la r.ls) (hn : r.ls.length ≤ 1000) (hla : ∀ g o, r.la = some ⟨g, o, none⟩ → g < w.heap.size) (hX : IntsAt w a xs) (hm : xs.length ≤ 1000) (hT : TabOK w) :
    Calls Tryd.prog 41 #[r.val, .slice a xs.length c, l.val] w fun e w' => e = .returned (.bool (prvB r xs l)) ∧ Below w.heap.size w w' := by
  have CR := Lib.hid (fun W (hb : Below w.heap.size w W) => check_any r xs a c W (hL.lo hb) hn (hX.lo hb) hm)
  have HR : Hid (prvB r xs l = ((chkE r xs == 0) && (l.okB && convB r (setN xs) l (cbOf false)))) := Lib.hid rfl
  have hNc : chkN r xs = if chkE r xs = 0 then setN xs else 0 := rfl
  have LV := Lib.hid (fun W => lnValid_any l W)
  generalize prvB r xs l = RES at *
  have B0 := Lib.hid (below_al2 (below_al w (.cells (rCells r) 32)) (.cells #[.int .i64 l.st, .int .i64 l.dr] 73))
  have R0 : Hid (Blk ((w.alloc (.cells (rCells r) 32)).alloc (.cells #[.int .i64 l.st, .int .i64 l.dr] 73)) w.heap.size (rCells r) 32) := Lib.hid (Blk.alt (p := fun _ => False) (Blk.new w _ _) ((Alt.refl _ _).alloc _) id)
  have T0 : Hid (Blk ((w.alloc (.cells (rCells r) 32)).alloc (.cells #[.int .i64 l.st, .int .i64 l.dr] 73)) (w.heap.size + 1) #[.int .i64 l.st, .int .i64 l.dr] 73) := Lib.hid (by
    have := Blk.new (w.alloc (.cells (rCells r) 32)) #[.int .i64 l.st, .int .i64 l.dr] 73
    rwa [World.size_alloc] at this)
  by_cases hE : chkE r xs = 0
  · have hfl := (chk_ok hE).1
    obtain ⟨hs1, hs2, _⟩ := chk_set hE
    have hok := (faultN_ok hfl).1
    have hlk := linksOk_of hfl
    have FIT := Lib.hid (fun W (hb : Below w.heap.size w W) => (⟨hok, hL.lo hb, fun g o e => Nat.lt_of_lt_of_le (hla g o e) hb.size, hlk, hn, hT.lo hb⟩ : r.Fit W))
    rw [if_pos hE] at hNc
    rw [hNc, hE] at CR
    have HR2 : Hid (RES = (l.okB && convB r (setN xs) l (cbOf false))) := Lib.hid (by rw [HR.out, hE]; rfl)
    clear HR hNc hE hfl hok hlk hL hla hX hm hT
    generalize setN xs = St at *
    have CV := Lib.hid (fun (ho : l.okB = true) W (hb : Below w.heap.size w W) => by
      unfold Ln.okB at ho
      simp only [Bool.and_eq_true] at ho
      have a1 := inB_iff.1 ho.1; have a2 := inB_iff.1 ho.2
      exact converts_any r l 71 #[] St (fun _ => True) (cbOf false) W (carry_of_may false _) trivial (FIT.out W hb) (by omega) (by omega) (by omega) (by omega) hs1 hs2)
    clear hs2 FIT
    generalize convB r St l (cbOf false) = CB at *
    generalize l.okB = OB at *
    unfold rCells at B0 R0 T0
    unfold Rk.val at CR CV
    unfold Ln.val at LV CV
    unfold Rk.val Ln.val
    go_enter Tryd.func41, Tryd.ntmps41
    go_wp2_with fail
    refine (CR.out _ B0.out).mono ?_
    rintro e w1 ⟨rfl, hb⟩
    have B1 := Lib.hid (below_go B0.out hb)
    have R1 := Lib.hid (Blk.alt R0.out (Alt.of_below (p := fun _ => False) hb (fun k hk h => by omega)) id)
    have T1 := Lib.hid (Blk.alt T0.out (Alt.of_below (p := fun _ => False) hb (fun k hk h => by omega)) id)
    clear hb R0 T0 CR
    have t0 : w1.cell? ⟨w.heap.size + 1, 0, none⟩ = some (.int .i64 l.st) := T1.out.cell 0 rfl
    have t1 : w1.cell? ⟨w.heap.size + 1, 1, none⟩ = some (.int .i64 l.dr) := T1.out.cell 1 rfl
    go_wp2_with fail
    refine (LV.out _).mono ?_
    rintro e w2 ⟨rfl, hb⟩
    have B2 := Lib.hid (below_go B1.out hb)
    have R2 := Lib.hid (Blk.alt R1.out (Alt.of_below (p := fun _ => False) hb (fun k hk h => by omega)) id)
    have T2 := Lib.hid (Blk.alt T1.out (Alt.of_below (p := fun _ => False) hb (fun k hk h => by omega)) id)
    clear hb R1 T1 t0 t1
    cases OB
    · clear CV
      go_wp2_with fail
      go_ret
      exact ⟨by rw [HR2.out]; rfl, B2.out⟩
    · have CV2 := Lib.hid (CV.out rfl)
      clear CV
      have t0 : w2.cell? ⟨w.heap.size + 1, 0, none⟩ = some (.int .i64 l.st) := T2.out.cell 0 rfl
      have t1 : w2.cell? ⟨w.heap.size + 1, 1, none⟩ = some (.int .i64 l.dr) := T2.out.cell 1 rfl
      have r0 : w2.cell? ⟨w.heap.size, 0, none⟩ = some (.int .i64 r.rows) := R2.out.cell 0 rfl
      have r1 : w2.cell? ⟨w.heap.size, 1, none⟩ = some (.int .i64 r.mid) := R2.out.cell 1 rfl
      have r2 : w2.cell? ⟨w.heap.size, 2, none⟩ = some (.int .i64 r.gap) := R2.out.cell 2 rfl
      have r3 : w2.cell? ⟨w.heap.size, 3, none⟩ = some (.int .i64 r.reach) := R2.out.cell 3 rfl
      have r4 : w2.cell? ⟨w.heap.size, 4, none⟩ = some (.slice r.la r.ls.length r.lc) := R2.out.cell 4 rfl
      go_wp2_with fail
      refine (CV2.out _ B2.out).mono ?_
      rintro e w3 ⟨rfl, hb⟩
      have B3 := Lib.hid (below_go B2.out hb)
      clear hb t0 t1 r0 r1 r2 r3 r4
      go_wp2_with fail
      go_ret
      exact ⟨by rw [HR2.out]; rfl, B3.out⟩
  · have hE' : (chkE r xs == 0) = false := by simpa using hE
    have HR2 := Lib.hid (show RES = false from by rw [HR.out, hE']; rfl)
    rw [if_neg hE] at hNc
    rw [hNc] at CR
    generalize chkE r xs = E at *
    unfold rCells at B0 R0 T0
    unfold Rk.val at CR
    unfold Rk.val Ln.val
    clear HR hNc hE hL hla hX hm hT R0 T0 LV
    go_enter Tryd.func41, Tryd.ntmps41
    go_wp2_with fail
    refine (CR.out _ B0.out).mono ?_
    rintro e w1 ⟨rfl, hb⟩
    have B1 := Lib.hid (below_go B0.out hb)
    clear hb
    go_wp2_with fail
    go_ret
    exact ⟨by rw [HR2.out]; rfl, B1.out⟩

end Go.Proofs.YtaloffdkadhhnaaDoor
