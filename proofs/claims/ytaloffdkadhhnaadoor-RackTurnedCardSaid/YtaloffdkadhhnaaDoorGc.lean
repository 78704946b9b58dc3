/- The iterator over a set of pins. The contracts of what collects the elements of an iterator. The contract of what tells whether a ball reaches a pin. The contract of the pins that a ball itself fells. The contract of the search for what falls. The contract of what is left, if the ball itself fells some pins. -/
import Derived.Test.YtaloffdkadhhnaaDoorGb
import Derived.RangeFuncBound
import Derived.Shelf.Abstract
import Derived.Shelf.RegionOpen
import Derived.OwnWalkIn
import Derived.TacticsInMore
import Derived.LoopNIn
import Derived.LoopIn
import Derived.RangeFuncBox
import Derived.Maps.AppendAt
import Derived.Laws.EntriesVeiled
set_option linter.unusedVariables false
set_option linter.unusedSimpArgs false

namespace Go.Proofs.YtaloffdkadhhnaaDoor
open Go.RowKit Go.Shelf

attribute [local go_sem] Oper.semAt_some

set_option maxHeartbeats 400000 in
theorem each_any (N : Nat) (w : World) :
    Calls Tryd.prog 97 #[.int .u16 (N : Nat)] w fun e w' => e = .returned (.func (.func 112) #[] #[.pointer (some ⟨w.heap.size, 0, none⟩)]) ∧ w' = w.alloc (.cells #[.int .u16 (N : Nat)] 100) := by
  go_enter Tryd.func97, Tryd.ntmps97
  go_wp2_with fail
  go_ret
  exact ⟨rfl, rfl⟩

theorem Boxed.alt {W W' : World} {B : Nat} {t : TypeId} {v : Value} {p : Nat → Prop} (h : Boxed W B t v) (ha : Alt p W W') (hp : ¬ p B) : Boxed W' B t v := ha.obj h hp

theorem pred16 {N : Nat} (h0 : N ≠ 0) (h : N < 65536) : bits BinOp.and IntKind.u16 (N : Int) (IntKind.u16.wrap ((N : Int) - 1)) = ((N &&& (N - 1) : Nat) : Int) := by
  have e : IntKind.u16.wrap ((N : Int) - 1) = ((N - 1 : Nat) : Int) := by unfold IntKind.wrap; simp [IntKind.bits, IntKind.signed]; omega
  rw [e, and16 h (by omega)]

set_option maxRecDepth 100000 in
set_option maxHeartbeats 4000000 in
theorem each1_iter (B N : Nat) (w : World) (hB : Boxed w B 100 (.int .u16 (N : Nat))) (hN : N < 65536) (hT : TabOK w) :
    Iter Tryd.prog 112 #[.pointer (some ⟨B, 0, none⟩)] (fun x : Int => #[Value.int .i64 x]) (els N) 0 (fun k => k = B ∨ k = 0) w := by
  intro l J Jx W hW hJ hJx hY h0
  have hBW := Boxed.alt hB hW (by simp)
  have hTW := hT.alt hW (by simp)
  have cB := hBW.cell
  clear hB hT hW hJ hJx
  refine callsIn_of_wp Tryd.func112 rfl trivial ?_ rfl
  simp only [Tryd.ntmps112, List.size_toArray, List.length_cons, List.length_nil, Nat.reduceAdd, Nat.reduceSub, Array.replicate_succ, Array.replicate_zero, List.push_toArray, List.append_toArray, List.nil_append, List.cons_append]
  gi_wp2
  gi_loopw [3] (fun s wr => ∃ (pre : List Int) (M : Nat), s = .int .u16 (M : Nat) ∧ M < 65536 ∧ els N = pre ++ els M ∧ J pre wr ∧ TabOK wr ∧ W.heap.size ≤ wr.heap.size) (fun s wr => (els (intOf s).toNat).length)
  case atStart =>
    exact ⟨[], N, rfl, hN, rfl, h0, hTW, Nat.le_refl _⟩
  case round =>
    obtain ⟨pre, M, rfl, hM, hx, hJs, hTr, hsz⟩ := hrel
    by_cases hz : M = 0
    · subst hz
      rw [els_zero, List.append_nil] at hx
      gi_wp2
      go_end0
      exact ⟨⟨_, rfl⟩, .inl (by rw [hx]; exact hJs)⟩
    · obtain ⟨hr, hb, hn⟩ := tz_bit hz hM
      have hst := els_step hr hb hn
      have HP := Lib.hid (pred16 hz hM)
      have HF := Lib.hid (callsIn_wide (n := 0).2 (first_any M wr hz hM hTr))
      have hz' : ((M : Int) == 0) = false := by simpa using hz
      have hML := and_pred_lt hM
      generalize Lib.ctz 16 M = r at *
      obtain ⟨fn, tmps, assign, body, hy, hR⟩ := hY pre (r : Int) (els (M &&& (M - 1))) wr (by rw [hx, hst]) (by omega) hJs
      clear hr hb hn hz
      gi_wp2
      refine ⟨trivial, rfl, ?_⟩
      refine HF.out.mono ?_
      rintro e w1 ⟨rfl, rfl⟩
      gi_wp2
      refine ⟨rfl, hR.mono ?_⟩
      rintro e W3 (⟨rfl, hJ3, hk3⟩ | ⟨rfl, hJx3⟩)
      · have hT3 := hTr.alt hk3 (by simp)
        have hs3 := Nat.le_trans hsz hk3.size
        clear hk3 hTr hTW hBW
        gi_wp2
        go_roundw
        case rel => exact ⟨pre ++ [(r : Int)], M &&& (M - 1), by rw [HP.out], hML, by rw [hx, hst]; simp, hJ3, hT3, hs3⟩
        case measure =>
          simp only [intOf]
          rw [HP.out, Int.toNat_natCast, Int.toNat_natCast, hst]; simp
      · gi_wp2
        refine bodyPost_ret (results_none rfl _ _ _) rfl ?_
        exact ⟨⟨_, rfl⟩, .inr ⟨pre, (r : Int), els (M &&& (M - 1)), by rw [hx, hst], hJx3⟩⟩

end Go.Proofs.YtaloffdkadhhnaaDoor

namespace Go.Proofs.YtaloffdkadhhnaaDoor
open Go.RowKit Go.Shelf

attribute [local go_sem] Oper.semAt_some

theorem Iter.later {α : Type} {P : Program} {g : Nat} {lb : Array Value} {encs : α → Array Value} {xs : List α} {K : Nat} {Rd : Nat → Prop} {w w1 : World} (h : Iter P g lb encs xs K Rd w) (hA : Alt (fun k => ¬ Rd k) w w1) : Iter P g lb encs xs K Rd w1 :=
  fun l J Jx W hW => h l J Jx W (hA.trans hW)

theorem ownsRow_alt {W W' : World} {base : Nat} {e : TypeId} {size : Nat} {v : Value} {n : Nat} {xs : List Value} {p : Nat → Prop} (h : W.ownsRow base e size v n xs) (ha : Alt p W W') (hp : ∀ g, base ≤ g → ¬ p g) : W'.ownsRow base e size v n xs := by
  obtain ⟨h1, h2⟩ := h
  refine ⟨h1, ?_⟩
  rcases h2 with h2 | ⟨g, cap, cur, e1, e2, e3, e4⟩
  · exact .inl h2
  · exact .inr ⟨g, cap, cur, e1, e2, ha.obj e3 (hp g e2), e4⟩

theorem info3 : (Tryd.prog.info? 3).map (fun i => (i.zero, i.size, i.bytes)) = some (some (.int .i64 0), 1, 8) := by kernel_rfl

theorem own_intsAt {W : World} {base : Nat} {a : Option Addr} {n c : Nat} {xs : List Int} (h : W.ownsRow base 3 1 (.slice a n c) n (xs.map (Value.int .i64))) : IntsAt W a xs ∧ n = xs.length := by
  obtain ⟨h1, h2⟩ := h
  have hn : n = xs.length := by simpa using h1.symm
  refine ⟨?_, hn⟩
  intro i v hv
  rcases h2 with ⟨_, h0⟩ | ⟨g, cap, cur, e1, e2, e3, e4, e5, e6, e7⟩
  · subst h0
    have : xs = [] := List.length_eq_zero_iff.1 hn.symm
    subst this; simp at hv
  · cases e1
    refine ⟨g, 0, rfl, ?_⟩
    have hlt := (List.getElem?_eq_some_iff.1 hv).1
    have : cur.toList[i]? = some (.int .i64 v) := by
      have e8 : (cur.toList.take (n * 1))[i]? = some (Value.int .i64 v) := by rw [e7, List.getElem?_map, hv]; rfl
      rw [List.getElem?_take] at e8
      split at e8
      · exact e8
      · cases e8
    simp only [World.cell?, e3, Nat.zero_add]
    simpa using this

theorem own_base {W : World} {base : Nat} {e : TypeId} {size : Nat} {v : Value} {n : Nat} {xs : List Value} (h : W.ownsRow base e size v n xs) {k : Nat} (hk : v.ownBlock = some k) : base ≤ k := by
  rcases h.2 with ⟨rfl, _⟩ | ⟨g, cap, cur, rfl, hb, _, _⟩
  · simp [Value.ownBlock] at hk
  · obtain rfl : g = k := by simpa [Value.ownBlock] using hk
    exact hb
theorem own_mono {W : World} {base base' : Nat} {e : TypeId} {size : Nat} {v : Value} {n : Nat} {xs : List Value} (h : W.ownsRow base e size v n xs) (hb : base' ≤ base) : W.ownsRow base' e size v n xs := by
  obtain ⟨h1, h2⟩ := h
  refine ⟨h1, h2.imp_right ?_⟩
  rintro ⟨g, cap, cur, e1, e2, e3⟩
  exact ⟨g, cap, cur, e1, Nat.le_trans hb e2, e3⟩

/-- 'out = append(out, ..)': the variable's box, and the row. -/
theorem boxed_app {W w1 : World} {base B : Nat} {t e : TypeId} {size : Nat} {v v' : Value} {k m : Nat} {xs ys : List Value} {tmp : Obj}
    (hv : Boxed W B t v) (hte : t ≠ e) (hrow : W.ownsRow base e size v k xs) (hown' : w1.ownsRow base e size v' m ys) (hgrow : (W.alloc tmp).grownBy w1 v.ownBlock) :
    Boxed w1 B t v ∧ Boxed (w1.setCell ⟨B, 0, none⟩ v') B t v' ∧ (w1.setCell ⟨B, 0, none⟩ v').ownsRow base e size v' m ys ∧ Alt (fun k => k = B ∨ base ≤ k) W (w1.setCell ⟨B, 0, none⟩ v') := by
  have hv1 : Boxed w1 B t v := (hv.alloc tmp).kept hgrow (hv.not_row hte hrow)
  refine ⟨hv1, hv1.set v', hown'.kept (grownBy_setCell' w1 B v') (.inr (hv1.not_row hte hown').symm), ?_⟩
  exact ((((Alt.refl _ W).alloc tmp).grown hgrow (fun k hk => .inr (own_base hrow hk))).setCell (q := ⟨B, 0, none⟩) (.inl rfl) v')

set_option maxRecDepth 100000 in
set_option maxHeartbeats 8000000 in
theorem appendSeq_any (g : Nat) (lb : Array Value) (xs : List Int) (K : Nat) (Rd : Nat → Prop) (w : World) (eg : ∀ args w, (callFunc g args).run Tryd.prog w = .ok (.enter g args) w)
    (hI : Iter Tryd.prog g lb (fun x : Int => #[Value.int .i64 x]) xs K Rd w) (hRd : ∀ k, Rd k → k < w.heap.size) (hn : xs.length ≤ 1000) :
    Calls Tryd.prog 111 #[.slice none 0 0, .func (.func g) #[] lb] w fun e W' => ∃ v, e = .returned v ∧ W'.ownsRow w.heap.size 3 1 v xs.length (xs.map (Value.int .i64)) ∧ Below w.heap.size w W' := by
  obtain ⟨i0, hi, hz0, hz1, hz2⟩ := info_parts info3
  refine (callsIn_wide (n := 0)).1 ?_
  refine callsIn_of_wp_marks Tryd.func111 rfl trivial ?_ rfl
  simp only [Tryd.ntmps111, List.size_toArray, List.length_cons, List.length_nil, Nat.reduceAdd, Nat.reduceSub, Array.replicate_succ, Array.replicate_zero, List.push_toArray, List.append_toArray, List.nil_append, List.cons_append]
  gi_wp2
  have bO := Boxed.new w 25 (.slice none 0 0)
  have A0 : Alt (fun k => w.heap.size ≤ k) w (w.alloc (.cells #[.slice none 0 0] 25)) := (Alt.refl _ _).alloc _
  have I0 := hI.later ((Alt.refl (fun k => ¬ Rd k) w).alloc (.cells #[.slice none 0 0] 25))
  have hsz : (w.alloc (.cells #[.slice none 0 0] 25)).heap.size = w.heap.size + 1 := by simp
  generalize w.alloc (.cells #[.slice none 0 0] 25) = W0 at *
  refine wp_iter (gf := g) (lb := lb) rfl eg I0 (fun k h => by have := hRd k h; omega) (fun _ => rfl)
    (fun k => w.heap.size ≤ k ∧ ¬ Rng W0.heap.size (2 + K) k) (fun k h => ⟨fun e => by have := hRd k e; omega, h.2⟩)
    (fun pre W => (∃ v, Boxed W w.heap.size 25 v ∧ W.ownsRow (W0.heap.size + (2 + K)) 3 1 v pre.length (pre.map (Value.int .i64))) ∧ Alt (fun k => w.heap.size ≤ k) w W)
    (fun pre x a1 W => ((∃ v, Boxed W w.heap.size 25 v ∧ W.ownsRow (W0.heap.size + (2 + K)) 3 1 v pre.length (pre.map (Value.int .i64))) ∧ Alt (fun k => w.heap.size ≤ k) w W) ∧ a1 = { tmps := #[.slice none 0 0, .func (.func g) #[] lb, .pointer (some ⟨w.heap.size, 0, none⟩), undef, .slice none 0 0, .int .i64 x, .func (.func g) #[] lb, .int .i64 x, undef, undef, undef, undef, undef], defers := [] })
    (fun _ _ _ => False)
    (fun pre A B h hAB => ?stI) (fun pre x a A B h hAB => ?stM) (fun _ _ _ _ h _ => h) ⟨⟨_, bO, World.ownsRow_nil _ _ _ _⟩, A0⟩ ?assign ?body ?done ?stop
  case stI =>
    obtain ⟨⟨v, hv, hr⟩, hA⟩ := h
    exact ⟨⟨v, Boxed.alt hv hAB (fun e => by unfold Rng at e; omega), ownsRow_alt hr hAB (fun g hg e => by unfold Rng at e; omega)⟩, hA.trans (hAB.mono fun k _ e => by unfold Rng at e; omega)⟩
  case stM =>
    obtain ⟨⟨⟨v, hv, hr⟩, hA⟩, e⟩ := h
    exact ⟨⟨⟨v, Boxed.alt hv hAB (fun e => by unfold Rng at e; omega), ownsRow_alt hr hAB (fun g hg e => by unfold Rng at e; omega)⟩, hA.trans (hAB.mono fun k _ e => by unfold Rng at e; omega)⟩, e⟩
  case assign =>
    intro l pre x post A hx hz hl hr h
    gi_wp2
    exact ⟨Alt.refl _ _, h, by first | trivial | rfl⟩
  case body =>
    rintro l pre x post a1 A hx hz hl hr ⟨⟨⟨v, hv, hrow⟩, hA⟩, rfl⟩
    have hc := hv.cell
    have hpl : pre.length + 1 ≤ 1000 := by rw [hx] at hn; simp at hn; omega
    have hBS : w.heap.size ≤ A.heap.size := hA.size
    gi_wp2_with (gi_at_builtin; refine wpListIn_append_own _ rfl _ _ 25 rfl (W0.heap.size + (2 + K)) 3 i0 (.int .i64 0) 1 8 Tryd.underlying25 hi hz0 hz1 hz2 rfl (by decide) _ _ _ rfl (hrow.alloc _) ⟨A.heap.size, 0, none⟩ 1 1 [.int .i64 x] rfl rfl (cell_one_new _ _ _) (by simp [Value.oneCell']) (by unfold maxLen; omega) (by omega) (by simp; omega) ?_; intro v' w1 hown' hgrow _; obtain ⟨g', cap', rfl⟩ := ownsRow_succ hown'; obtain ⟨hv1, hv2, hr2, ha2⟩ := boxed_app hv (by decide) hrow hown' hgrow; have hc1 := hv1.cell; have hf1 := hv1.frozen)
    exact ⟨ha2.mono fun k _ e => by unfold Rng; omega, ⟨_, hv2, by simpa using hr2⟩, hA.trans (ha2.mono fun k _ e => by omega)⟩
  case done =>
    rintro B ⟨⟨v, hv, hrow⟩, hA⟩ hz hK
    have hc := hv.cell
    gi_wp2
    refine leave_ret hK (results_tmp rfl _ _ _) ⟨v, rfl, ?_, ?_⟩
    · exact own_mono (ownsRow_alt hrow (Alt.put (p := fun k => k = W0.heap.size) rfl _) (fun g hg e => by omega)) (by omega)
    · exact (hA.putObj (l := W0.heap.size) (by show w.heap.size ≤ W0.heap.size; omega) _).below (Nat.le_refl _) (fun k h => h)
  case stop =>
    intro c pre x post B hx h
    exact h.elim

theorem collect_any (g : Nat) (lb : Array Value) (xs : List Int) (K : Nat) (Rd : Nat → Prop) (w : World) (eg : ∀ args w, (callFunc g args).run Tryd.prog w = .ok (.enter g args) w)
    (hI : Iter Tryd.prog g lb (fun x : Int => #[Value.int .i64 x]) xs K Rd w) (hRd : ∀ k, Rd k → k < w.heap.size) (hn : xs.length ≤ 1000) :
    Calls Tryd.prog 96 #[.func (.func g) #[] lb] w fun e W' => ∃ v, e = .returned v ∧ W'.ownsRow w.heap.size 3 1 v xs.length (xs.map (Value.int .i64)) ∧ Below w.heap.size w W' := by
  have C := Lib.hid (appendSeq_any g lb xs K Rd w eg hI hRd hn)
  clear hI hRd eg hn
  go_enter Tryd.func96, Tryd.ntmps96
  go_wp2_with fail
  refine C.out.mono ?_
  rintro e W ⟨v, rfl, ho, hb⟩
  have HO := Lib.hid ho; have HB := Lib.hid hb
  clear ho hb
  go_wp2_with fail
  go_ret
  exact ⟨v, rfl, HO.out, HB.out⟩

theorem els_len {N : Nat} : (els N).length ≤ 16 := by
  have l1 : ∀ f k N, (elsF f k N).length ≤ f := fun f => by
    induction f with
    | zero => intro k N; simp [elsF]
    | succ f ih => intro k N; rw [elsF]; split
                   · simp; exact ih _ _
                   · exact Nat.le_succ_of_le (ih _ _)
  exact l1 16 0 N

theorem tab_pos {w : World} (h : TabOK w) : 0 < w.heap.size := cell_lt (h 0 (by decide))
theorem eg112 : ∀ args w, (callFunc 112 args).run Tryd.prog w = .ok (.enter 112 args) w := enters_of Tryd.func112 (by kernel_rfl) rfl

theorem list_any (N : Nat) (w : World) (hN : N < 65536) (hT : TabOK w) :
    Calls Tryd.prog 66 #[.int .u16 (N : Nat)] w fun e W' => ∃ v, e = .returned v ∧ W'.ownsRow w.heap.size 3 1 v (els N).length ((els N).map (Value.int .i64)) ∧ Below w.heap.size w W' := by
  have E := Lib.hid (each_any N w)
  have hb := below_al w (.cells #[.int .u16 (N : Nat)] 100)
  have C := Lib.hid (collect_any 112 #[.pointer (some ⟨w.heap.size, 0, none⟩)] (els N) 0 (fun k => k = w.heap.size ∨ k = 0) (w.alloc (.cells #[.int .u16 (N : Nat)] 100)) eg112
    (each1_iter w.heap.size N _ (Boxed.new w _ _) hN (hT.lo hb)) (fun k hk => by have := tab_pos hT; simp; omega) (by have := @els_len N; omega))
  clear hT hb hN
  go_enter Tryd.func66, Tryd.ntmps66
  go_wp2_with fail
  refine E.out.mono ?_
  rintro e W1 ⟨rfl, rfl⟩
  go_wp2_with fail
  refine C.out.mono ?_
  rintro e W ⟨v, rfl, ho, hb⟩
  have HO := Lib.hid ho; have HB := Lib.hid hb
  clear ho hb
  go_wp2_with fail
  go_ret
  exact ⟨v, rfl, own_mono HO.out (by simp), below_go (below_al w _) HB.out⟩

end Go.Proofs.YtaloffdkadhhnaaDoor

namespace Go.Proofs.YtaloffdkadhhnaaDoor
open Go.RowKit

/-- The boards of a ball, by rows. -/
structure Cs where
  b0 : Int
  b1 : Int
  b2 : Int
  b3 : Int
def Cs.val (c : Cs) : Value := .agg #[.int .i64 c.b0, .int .i64 c.b1, .int .i64 c.b2, .int .i64 c.b3]
def Cs.at (c : Cs) (i : Int) : Int := if i = 0 then c.b0 else if i = 1 then c.b1 else if i = 2 then c.b2 else c.b3
structure Cs.Ok (c : Cs) : Prop where
  l0 : -1000 ≤ c.b0
  h0 : c.b0 ≤ 1000
  l1 : -1000 ≤ c.b1
  h1 : c.b1 ≤ 1000
  l2 : -1000 ≤ c.b2
  h2 : c.b2 ≤ 1000
  l3 : -1000 ≤ c.b3
  h3 : c.b3 ≤ 1000
/-- Its eleven cells. -/
def sCells (r : Rk) (c : Cs) (fv : Value) (N : Nat) : Array Value := #[.int .i64 r.rows, .int .i64 r.mid, .int .i64 r.gap, .int .i64 r.reach, .slice r.la r.ls.length r.lc, .int .i64 c.b0, .int .i64 c.b1, .int .i64 c.b2, .int .i64 c.b3, fv, .int .u16 (N : Nat)]

def sVal (r : Rk) (c : Cs) (fv : Value) (N : Nat) : Value := .agg (sCells r c fv N)

def reachB (r : Rk) (c : Cs) (p : Int) : Bool := decide (dist (boardN r p) (c.at (rowN p)) ≤ r.reach)

set_option maxRecDepth 100000 in
set_option maxHeartbeats 4000000 in
theorem reaches_any (r : Rk) (c : Cs) (k : Nat) (cap : Array Value) (N : Nat) (p : Int) (w : World) (ok : r.Ok) (oc : c.Ok) (p1 : 0 ≤ p) (p2 : p < pinsN r.rows) :
    Calls Tryd.prog 110 #[sVal r c (.func (.func k) #[] cap) N, .int .i64 p] w fun e w' => e = .returned (.bool (reachB r c p)) ∧ Below w.heap.size w w' := by
  have hp9 : p ≤ 9 := by have := (@pinsN_bd r).2; omega
  have PL := Lib.hid (fun w => place_any r p w ok p1 p2)
  have hbd := boardN_bd ok p1 hp9
  have hrow := rowN_bd p1 hp9
  have HR : Hid (reachB r c p = decide (dist (boardN r p) (c.at (rowN p)) ≤ r.reach)) := Lib.hid rfl
  generalize reachB r c p = R at *
  have hi : rowN p = 0 ∨ rowN p = 1 ∨ rowN p = 2 ∨ rowN p = 3 := by omega
  unfold plcV at PL
  generalize rowN p = i at *
  generalize boardN r p = b at *
  clear hrow p1 p2 hp9
  obtain ⟨rows, mid, gap, reach, la, lc, L⟩ := r
  obtain ⟨c0, c1, c2, c3⟩ := c
  obtain ⟨l0, h0, l1, h1, l2, h2, l3, h3⟩ := oc
  unfold sVal sCells Rk.val at *
  simp only at *
  have HD := Lib.hid (fun x (hx1 : -1000 ≤ x) (hx2 : x ≤ 1000) w => apart_any b x w (by omega) (by omega) (by omega) (by omega))
  have HB := Lib.hid hbd
  clear hbd ok
  rcases hi with rfl | rfl | rfl | rfl
  · have HX := Lib.hid (HD.out c0 l0 h0)
    have HR2 := Lib.hid (show R = decide (dist b c0 ≤ reach) from HR.out)
    clear HR HD
    generalize dist b c0 = d at *
    have B0 := Lib.hid (below_al w (.cells #[.int .i64 rows, .int .i64 mid, .int .i64 gap, .int .i64 reach, .slice la L.length lc, .int .i64 c0, .int .i64 c1, .int .i64 c2, .int .i64 c3, .func (.func k) #[] cap, .int .u16 (N : Nat)] 115))
    have Z0 := Lib.hid (show w.heap.size < (w.alloc (.cells #[.int .i64 rows, .int .i64 mid, .int .i64 gap, .int .i64 reach, .slice la L.length lc, .int .i64 c0, .int .i64 c1, .int .i64 c2, .int .i64 c3, .func (.func k) #[] cap, .int .u16 (N : Nat)] 115)).heap.size by simp)
    go_enter Tryd.func110, Tryd.ntmps110
    go_wp2_with fail
    refine (PL.out _).mono ?_
    rintro e w1 ⟨rfl, hb⟩
    have B1 := Lib.hid (below_go B0.out hb)
    have q0 := fun o => (lo_cell hb w.heap.size o Z0.out).1
    have f0 := new_cell w1 (cs := #[.int .i64 0, .int .i64 b]) (t := 162) (i := 0) rfl
    have f1 := new_cell w1 (cs := #[.int .i64 0, .int .i64 b]) (t := 162) (i := 1) rfl
    have f2 := cell_lo (below_al w1 (.cells #[.int .i64 0, .int .i64 b] 162)) ((q0 5).trans (new_cell w (i := 5) rfl))
    have f3 := cell_lo (below_al w1 (.cells #[.int .i64 0, .int .i64 b] 162)) ((q0 3).trans (new_cell w (i := 3) rfl))
    have B2 := Lib.hid (below_al2 B1.out (.cells #[.int .i64 0, .int .i64 b] 162))
    clear hb
    go_wp2_with fail
    generalize World.alloc w1 _ = W2 at f0 f1 f2 f3 B2 ⊢
    clear q0
    go_quiet ((go_at_call 119; exact Calls.quiet_of_same ((HX.out _).mono fun _ _ h => ⟨h.1, h.2.symm⟩)))
    go_wp2_with fail
    go_ret
    exact ⟨by rw [HR2.out]; rfl, Below.drewN' B2.out _⟩
  · have HX := Lib.hid (HD.out c1 l1 h1)
    have HR2 := Lib.hid (show R = decide (dist b c1 ≤ reach) from HR.out)
    clear HR HD
    generalize dist b c1 = d at *
    have B0 := Lib.hid (below_al w (.cells #[.int .i64 rows, .int .i64 mid, .int .i64 gap, .int .i64 reach, .slice la L.length lc, .int .i64 c0, .int .i64 c1, .int .i64 c2, .int .i64 c3, .func (.func k) #[] cap, .int .u16 (N : Nat)] 115))
    have Z0 := Lib.hid (show w.heap.size < (w.alloc (.cells #[.int .i64 rows, .int .i64 mid, .int .i64 gap, .int .i64 reach, .slice la L.length lc, .int .i64 c0, .int .i64 c1, .int .i64 c2, .int .i64 c3, .func (.func k) #[] cap, .int .u16 (N : Nat)] 115)).heap.size by simp)
    go_enter Tryd.func110, Tryd.ntmps110
    go_wp2_with fail
    refine (PL.out _).mono ?_
    rintro e w1 ⟨rfl, hb⟩
    have B1 := Lib.hid (below_go B0.out hb)
    have q0 := fun o => (lo_cell hb w.heap.size o Z0.out).1
    have f0 := new_cell w1 (cs := #[.int .i64 1, .int .i64 b]) (t := 162) (i := 0) rfl
    have f1 := new_cell w1 (cs := #[.int .i64 1, .int .i64 b]) (t := 162) (i := 1) rfl
    have f2 := cell_lo (below_al w1 (.cells #[.int .i64 1, .int .i64 b] 162)) ((q0 6).trans (new_cell w (i := 6) rfl))
    have f3 := cell_lo (below_al w1 (.cells #[.int .i64 1, .int .i64 b] 162)) ((q0 3).trans (new_cell w (i := 3) rfl))
    have B2 := Lib.hid (below_al2 B1.out (.cells #[.int .i64 1, .int .i64 b] 162))
    clear hb
    go_wp2_with fail
    generalize World.alloc w1 _ = W2 at f0 f1 f2 f3 B2 ⊢
    clear q0
    go_quiet ((go_at_call 119; exact Calls.quiet_of_same ((HX.out _).mono fun _ _ h => ⟨h.1, h.2.symm⟩)))
    go_wp2_with fail
    go_ret
    exact ⟨by rw [HR2.out]; rfl, Below.drewN' B2.out _⟩
  · have HX := Lib.hid (HD.out c2 l2 h2)
    have HR2 := Lib.hid (show R = decide (dist b c2 ≤ reach) from HR.out)
    clear HR HD
    generalize dist b c2 = d at *
    have B0 := Lib.hid (below_al w (.cells #[.int .i64 rows, .int .i64 mid, .int .i64 gap, .int .i64 reach, .slice la L.length lc, .int .i64 c0, .int .i64 c1, .int .i64 c2, .int .i64 c3, .func (.func k) #[] cap, .int .u16 (N : Nat)] 115))
    have Z0 := Lib.hid (show w.heap.size < (w.alloc (.cells #[.int .i64 rows, .int .i64 mid, .int .i64 gap, .int .i64 reach, .slice la L.length lc, .int .i64 c0, .int .i64 c1, .int .i64 c2, .int .i64 c3, .func (.func k) #[] cap, .int .u16 (N : Nat)] 115)).heap.size by simp)
    go_enter Tryd.func110, Tryd.ntmps110
    go_wp2_with fail
    refine (PL.out _).mono ?_
    rintro e w1 ⟨rfl, hb⟩
    have B1 := Lib.hid (below_go B0.out hb)
    have q0 := fun o => (lo_cell hb w.heap.size o Z0.out).1
    have f0 := new_cell w1 (cs := #[.int .i64 2, .int .i64 b]) (t := 162) (i := 0) rfl
    have f1 := new_cell w1 (cs := #[.int .i64 2, .int .i64 b]) (t := 162) (i := 1) rfl
    have f2 := cell_lo (below_al w1 (.cells #[.int .i64 2, .int .i64 b] 162)) ((q0 7).trans (new_cell w (i := 7) rfl))
    have f3 := cell_lo (below_al w1 (.cells #[.int .i64 2, .int .i64 b] 162)) ((q0 3).trans (new_cell w (i := 3) rfl))
    have B2 := Lib.hid (below_al2 B1.out (.cells #[.int .i64 2, .int .i64 b] 162))
    clear hb
    go_wp2_with fail
    generalize World.alloc w1 _ = W2 at f0 f1 f2 f3 B2 ⊢
    clear q0
    go_quiet ((go_at_call 119; exact Calls.quiet_of_same ((HX.out _).mono fun _ _ h => ⟨h.1, h.2.symm⟩)))
    go_wp2_with fail
    go_ret
    exact ⟨by rw [HR2.out]; rfl, Below.drewN' B2.out _⟩
  · have HX := Lib.hid (HD.out c3 l3 h3)
    have HR2 := Lib.hid (show R = decide (dist b c3 ≤ reach) from HR.out)
    clear HR HD
    generalize dist b c3 = d at *
    have B0 := Lib.hid (below_al w (.cells #[.int .i64 rows, .int .i64 mid, .int .i64 gap, .int .i64 reach, .slice la L.length lc, .int .i64 c0, .int .i64 c1, .int .i64 c2, .int .i64 c3, .func (.func k) #[] cap, .int .u16 (N : Nat)] 115))
    have Z0 := Lib.hid (show w.heap.size < (w.alloc (.cells #[.int .i64 rows, .int .i64 mid, .int .i64 gap, .int .i64 reach, .slice la L.length lc, .int .i64 c0, .int .i64 c1, .int .i64 c2, .int .i64 c3, .func (.func k) #[] cap, .int .u16 (N : Nat)] 115)).heap.size by simp)
    go_enter Tryd.func110, Tryd.ntmps110
    go_wp2_with fail
    refine (PL.out _).mono ?_
    rintro e w1 ⟨rfl, hb⟩
    have B1 := Lib.hid (below_go B0.out hb)
    have q0 := fun o => (lo_cell hb w.heap.size o Z0.out).1
    have f0 := new_cell w1 (cs := #[.int .i64 3, .int .i64 b]) (t := 162) (i := 0) rfl
    have f1 := new_cell w1 (cs := #[.int .i64 3, .int .i64 b]) (t := 162) (i := 1) rfl
    have f2 := cell_lo (below_al w1 (.cells #[.int .i64 3, .int .i64 b] 162)) ((q0 8).trans (new_cell w (i := 8) rfl))
    have f3 := cell_lo (below_al w1 (.cells #[.int .i64 3, .int .i64 b] 162)) ((q0 3).trans (new_cell w (i := 3) rfl))
    have B2 := Lib.hid (below_al2 B1.out (.cells #[.int .i64 3, .int .i64 b] 162))
    clear hb
    go_wp2_with fail
    generalize World.alloc w1 _ = W2 at f0 f1 f2 f3 B2 ⊢
    clear q0
    go_quiet ((go_at_call 119; exact Calls.quiet_of_same ((HX.out _).mono fun _ _ h => ⟨h.1, h.2.symm⟩)))
    go_wp2_with fail
    go_ret
    exact ⟨by rw [HR2.out]; rfl, Below.drewN' B2.out _⟩

end Go.Proofs.YtaloffdkadhhnaaDoor

namespace Go.Proofs.YtaloffdkadhhnaaDoor
open Go.RowKit Go.Shelf

attribute [local go_sem] Oper.semAt_some

def touchN (r : Rk) (c : Cs) (N : Nat) : Nat := setN ((els N).filter (reachB r c))

theorem touch_snoc (r : Rk) (c : Cs) (pre : List Int) (x : Int) : setN ((pre ++ [x]).filter (reachB r c)) = if reachB r c x then setN (pre.filter (reachB r c)) ||| 1 <<< x.toNat else setN (pre.filter (reachB r c)) := by
  rw [List.filter_append]
  cases h : reachB r c x
  · simp [List.filter, h]
  · simp only [List.filter, h, if_true]; exact setN_snoc _ _

set_option maxRecDepth 100000 in
set_option maxHeartbeats 8000000 in
theorem touched_any (r : Rk) (c : Cs) (k : Nat) (cap : Array Value) (N : Nat) (w : World) (ok : r.Ok) (oc : c.Ok) (hN : N < 65536) (hp : ∀ x ∈ els N, x < pinsN r.rows) (hT : TabOK w) :
    Calls Tryd.prog 95 #[sVal r c (.func (.func k) #[] cap) N] w fun e w' => e = .returned (.int .u16 (touchN r c N : Nat)) ∧ Below w.heap.size w w' := by
  have RE := Lib.hid (fun p w p1 p2 => callsIn_wide (n := 0).2 (reaches_any r c k cap N p w ok oc p1 p2))
  have EA := Lib.hid (fun w => callsIn_wide (n := 0).2 (each_any N w))
  obtain ⟨S, hS⟩ : ∃ S, Hid (S = sVal r c (.func (.func k) #[] cap) N) := ⟨_, Lib.hid rfl⟩
  rw [← hS.out] at RE ⊢
  refine (callsIn_wide (n := 0)).1 ?_
  refine callsIn_of_wp_marks Tryd.func95 rfl trivial ?_ rfl
  simp only [Tryd.ntmps95, List.size_toArray, List.length_cons, List.length_nil, Nat.reduceAdd, Nat.reduceSub, Array.replicate_succ, Array.replicate_zero, List.push_toArray, List.append_toArray, List.nil_append, List.cons_append]
  rw [hS.out]
  unfold sVal sCells
  gi_wp2
  refine ⟨trivial, rfl, ?_⟩
  refine (EA.out _).mono ?_
  rintro e w1 ⟨rfl, rfl⟩
  gi_wp2
  have hSV := hS.out
  unfold sVal sCells at hSV
  rw [← hSV]
  clear hSV
  have bT : Boxed ((((w.alloc (.cells (sCells r c (.func (.func k) #[] cap) N) 115)).alloc (.cells #[.int .u16 0] 100)).alloc (.cells #[.func (.func 110) #[S] #[]] 126)).alloc (.cells #[.int .u16 (N : Nat)] 100)) (w.heap.size + 1) 100 (.int .u16 0) := by
    have := ((Boxed.new (w.alloc (.cells (sCells r c (.func (.func k) #[] cap) N) 115)) 100 (.int .u16 0)).alloc (.cells #[.func (.func 110) #[S] #[]] 126)).alloc (.cells #[.int .u16 (N : Nat)] 100)
    rwa [World.size_alloc] at this
  have bF : Boxed ((((w.alloc (.cells (sCells r c (.func (.func k) #[] cap) N) 115)).alloc (.cells #[.int .u16 0] 100)).alloc (.cells #[.func (.func 110) #[S] #[]] 126)).alloc (.cells #[.int .u16 (N : Nat)] 100)) (w.heap.size + 1 + 1) 126 (.func (.func 110) #[S] #[]) := by
    have := (Boxed.new ((w.alloc (.cells (sCells r c (.func (.func k) #[] cap) N) 115)).alloc (.cells #[.int .u16 0] 100)) 126 (.func (.func 110) #[S] #[])).alloc (.cells #[.int .u16 (N : Nat)] 100)
    rwa [World.size_alloc, World.size_alloc] at this
  have bN : Boxed ((((w.alloc (.cells (sCells r c (.func (.func k) #[] cap) N) 115)).alloc (.cells #[.int .u16 0] 100)).alloc (.cells #[.func (.func 110) #[S] #[]] 126)).alloc (.cells #[.int .u16 (N : Nat)] 100)) (w.heap.size + 1 + 1 + 1) 100 (.int .u16 (N : Nat)) := by
    have := Boxed.new (((w.alloc (.cells (sCells r c (.func (.func k) #[] cap) N) 115)).alloc (.cells #[.int .u16 0] 100)).alloc (.cells #[.func (.func 110) #[S] #[]] 126)) 100 (.int .u16 (N : Nat))
    rwa [World.size_alloc, World.size_alloc, World.size_alloc] at this
  have B0 : Below w.heap.size w ((((w.alloc (.cells (sCells r c (.func (.func k) #[] cap) N) 115)).alloc (.cells #[.int .u16 0] 100)).alloc (.cells #[.func (.func 110) #[S] #[]] 126)).alloc (.cells #[.int .u16 (N : Nat)] 100)) := below_al2 (below_al2 (below_al2 (below_al w _) _) _) _
  have hz : ((((w.alloc (.cells (sCells r c (.func (.func k) #[] cap) N) 115)).alloc (.cells #[.int .u16 0] 100)).alloc (.cells #[.func (.func 110) #[S] #[]] 126)).alloc (.cells #[.int .u16 (N : Nat)] 100)).heap.size = w.heap.size + 4 := by simp
  unfold sCells at bT bF bN B0 hz
  generalize (((w.alloc _).alloc _).alloc _).alloc _ = W0 at *
  have tp := tab_pos hT
  refine wp_iter (gf := 112) (lb := #[.pointer (some ⟨w.heap.size + 1 + 1 + 1, 0, none⟩)]) rfl eg112 (each1_iter (w.heap.size + 1 + 1 + 1) N W0 bN hN (hT.lo B0)) (fun k h => by omega) (fun _ => rfl)
    (fun k => k = w.heap.size + 1) (fun k h => ⟨fun e => by omega, fun e => by unfold Rng at e; omega⟩)
    (fun pre W => Boxed W (w.heap.size + 1) 100 (.int .u16 (setN (pre.filter (reachB r c)) : Nat)) ∧ Boxed W (w.heap.size + 1 + 1) 126 (.func (.func 110) #[S] #[]) ∧ Alt (fun k => w.heap.size ≤ k) w W)
    (fun pre x a1 W => (Boxed W (w.heap.size + 1) 100 (.int .u16 (setN (pre.filter (reachB r c)) : Nat)) ∧ Boxed W (w.heap.size + 1 + 1) 126 (.func (.func 110) #[S] #[]) ∧ Alt (fun k => w.heap.size ≤ k) w W) ∧
      a1 = { tmps := #[S, .pointer (some ⟨w.heap.size, 0, none⟩), .int .u16 0, .pointer (some ⟨w.heap.size + 1, 0, none⟩), .pointer (some ⟨w.heap.size + 1 + 1, 0, none⟩), .int .i64 x, S, .func (.func 110) #[S] #[], .pointer (some ⟨w.heap.size, 10, none⟩), .int .u16 (N : Nat), .func (.func 112) #[] #[.pointer (some ⟨w.heap.size + 1 + 1 + 1, 0, none⟩)], .int .i64 x, undef, undef, undef, undef, undef, undef, undef, undef], defers := [] })
    (fun _ _ _ => False)
    (fun pre A B h hAB => ?stI) (fun pre x a A B h hAB => ?stM) (fun _ _ _ _ h _ => h) ⟨by simpa [setN] using bT, bF, Alt.of_below B0 (fun _ _ h => h)⟩ ?assign ?body ?done ?stop
  case stI =>
    obtain ⟨h1, h2, h3⟩ := h
    exact ⟨Boxed.alt h1 hAB (fun e => by unfold Rng at e; omega), Boxed.alt h2 hAB (fun e => by unfold Rng at e; omega), h3.trans (hAB.mono fun k _ e => by unfold Rng at e; omega)⟩
  case stM =>
    obtain ⟨⟨h1, h2, h3⟩, e⟩ := h
    exact ⟨⟨Boxed.alt h1 hAB (fun e => by unfold Rng at e; omega), Boxed.alt h2 hAB (fun e => by unfold Rng at e; omega), h3.trans (hAB.mono fun k _ e => by unfold Rng at e; omega)⟩, e⟩
  case assign =>
    intro l pre x post A hx hz hl hr h
    gi_wp2
    exact ⟨Alt.refl _ _, h, by first | trivial | rfl⟩
  case body =>
    rintro l pre x post a1 A hx hzA hl hr ⟨⟨h1, h2, h3⟩, rfl⟩
    have c1 := h1.cell
    have c2 := h2.cell
    have hmem : x ∈ els N := by rw [hx]; simp
    have hx0 := els_bd hmem
    have hts0 := touch_snoc r c pre x
    have hsub : setN (pre.filter (reachB r c)) < 65536 := setN_lt fun y hy => els_bd (by rw [hx]; simp [(List.mem_filter.1 hy).1])
    have HRX := Lib.hid (RE.out x A hx0.1 (hp x hmem))
    generalize setN (pre.filter (reachB r c)) = T at *
    have hts := Lib.hid hts0
    have HZ := Lib.hid hz
    clear hts0 hx hz hl
    gi_wp2
    refine ⟨trivial, rfl, ?_⟩
    refine (CallsIn.inRound l HRX.out).mono ?_
    rintro e w1 ⟨rfl, hb⟩
    have b1 := Boxed.alt h1 (Alt.of_below (p := fun k => A.heap.size ≤ k) hb (fun k hk h => by omega)) (by have := h1.lt; omega)
    have b2 := Boxed.alt h2 (Alt.of_below (p := fun k => A.heap.size ≤ k) hb (fun k hk h => by omega)) (by have := h2.lt; omega)
    have A1 : Alt (fun k => k = w.heap.size + 1) A w1 := Alt.of_below hb (fun k hk h => by omega)
    have A2 : Alt (fun k => w.heap.size ≤ k) w w1 := h3.trans (A1.mono fun k _ e => by omega)
    clear hb c1 c2
    have c1 := b1.cell
    have f1 := b1.frozen
    cases hq : reachB r c x
    · have hts2 := Lib.hid (show _ = T from hts.out.trans (by rw [hq]; rfl))
      clear hq
      gi_wp2
      exact ⟨A1, by rw [hts2.out]; exact b1, b2, A2⟩
    · have hts2 := Lib.hid (show _ = T ||| 1 <<< x.toNat from hts.out.trans (by rw [hq]; rfl))
      clear hq
      have E1 := Lib.hid (bor16 hsub (bit16 hx0.1 hx0.2))
      have E2 := Lib.hid (shl16 hx0.1 hx0.2)
      have hmx : Tryd.prog.follows .mixedOrders = true := by kernel_rfl
      clear hp oc ok hN bT bF bN
      gi_wp2
      gi_region_with_o (fail)
      all_goals gi_wp2
      all_goals
        refine ⟨?_, ?_, ?_, ?_⟩
        · exact (A1.setCell (q := ⟨w.heap.size + 1, 0, none⟩) rfl _).drew
        · rw [hts2.out, ← E1.out, ← E2.out]; exact Boxed.set _ b1
        · exact Boxed.other b2 (by omega) _
        · exact (A2.setCell (q := ⟨w.heap.size + 1, 0, none⟩) (by simp) _).drew
  case done =>
    rintro B ⟨h1, h2, h3⟩ hzB hK
    have c1 := h1.cell
    have HZ := Lib.hid hz
    clear hz
    gi_wp2
    refine leave_ret hK (results_tmp rfl _ _ _) ⟨rfl, ?_⟩
    exact (h3.putObj (l := W0.heap.size) (by show w.heap.size ≤ W0.heap.size; have := HZ.out; omega) _).below (Nat.le_refl _) (fun k h => h)
  case stop =>
    intro c pre x post B hx h
    exact h.elim

end Go.Proofs.YtaloffdkadhhnaaDoor

namespace Go.Proofs.YtaloffdkadhhnaaDoor
open Go.RowKit

/-- Block b is these cells. -/
def Blk (W : World) (b : Nat) (cs : Array Value) (t : TypeId) : Prop := W.heap[b]? = some (.cells cs t (0, 0))
theorem Blk.alt {W W' : World} {b : Nat} {cs : Array Value} {t : TypeId} {p : Nat → Prop} (h : Blk W b cs t) (ha : Alt p W W') (hp : ¬ p b) : Blk W' b cs t := ha.obj h hp
theorem Blk.cell {W : World} {b : Nat} {cs : Array Value} {t : TypeId} (h : Blk W b cs t) (i : Nat) {v : Value} (hv : cs[i]? = some v) : W.cell? ⟨b, i, none⟩ = some v := by
  unfold World.cell?
  simp only [show W.heap[b]? = _ from h]
  simpa using hv
theorem Blk.new (W : World) (cs : Array Value) (t : TypeId) : Blk (W.alloc (.cells cs t)) W.heap.size cs t := World.alloc_heap_new W _
theorem Blk.lt {W : World} {b : Nat} {cs : Array Value} {t : TypeId} (h : Blk W b cs t) : b < W.heap.size := (Array.getElem?_eq_some_iff.1 h).1

/-- What the search stands on: the box of what is left, the rack that is hit, the search's own box; the links; what the links' function wants (K), which lies below n0. -/
structure FS (r : Rk) (c : Cs) (k : Nat) (cap : Array Value) (St n0 bL bS bF : Nat) (K : World → Prop) (W : World) (N : Nat) : Prop where
  l : Boxed W bL 100 (.int .u16 (N : Nat))
  s : Blk W bS (sCells r c (.func (.func k) #[] cap) St) 115
  f : Boxed W bF 156 (.func (.func 109) #[] #[.pointer (some ⟨bL, 0, none⟩), .pointer (some ⟨bS, 0, none⟩), .pointer (some ⟨bF, 0, none⟩)])
  ls : LinksAt W r.la r.ls
  k : K W
theorem FS.go {r : Rk} {c : Cs} {k : Nat} {cap : Array Value} {St n0 bL bS bF : Nat} {K : World → Prop} {W W' : World} {N M : Nat} (h : FS r c k cap St n0 bL bS bF K W N) (hK : ∀ A B, K A → Alt (fun k => n0 ≤ k) A B → K B) (hla : ∀ g o, r.la = some ⟨g, o, none⟩ → g < n0)
    (hb : n0 ≤ bL ∧ bL ≠ bS ∧ bL ≠ bF) (ha : Alt (fun k => k = bL) W W') (hl : Boxed W' bL 100 (.int .u16 (M : Nat))) : FS r c k cap St n0 bL bS bF K W' M :=
  ⟨hl, h.s.alt ha (fun e => hb.2.1 e.symm), Boxed.alt h.f ha (fun e => hb.2.2 e.symm), h.ls.alt ha (fun g o e hg => by have := hla g o e; omega), hK _ _ h.k (ha.mono fun k _ e => by omega)⟩

set_option maxRecDepth 100000 in
set_option maxHeartbeats 8000000 in
theorem fall_any (r : Rk) (c : Cs) (k : Nat) (cap : Array Value) (St n0 bL bS bF : Nat) (K : World → Prop) (cb : Lk → Bool) (hK : ∀ A B, K A → Alt (fun k => n0 ≤ k) A B → K B)
    (ek : ∀ args w, (callFunc k args).run Tryd.prog w = .ok (.enter k args) w) (CF : ∀ l W, 0 ≤ l.to → l.to ≤ 15 → K W → Calls Tryd.prog k (#[Lk.val l] ++ cap) W fun e W' => e = .returned (.bool (cb l)) ∧ Below W.heap.size W W')
    (hla : ∀ g o, r.la = some ⟨g, o, none⟩ → g < n0) (hb : n0 ≤ bL ∧ bL ≠ bS ∧ bL ≠ bF) (hl : LinksOk r.ls) (hn : r.ls.length ≤ 1000) :
    ∀ (f : Nat) (p : Int) (N : Nat) (W : World), 0 ≤ p → p ≤ 15 → N < 65536 → (els N).length ≤ f → N.testBit p.toNat = true → FS r c k cap St n0 bL bS bF K W N →
    Calls Tryd.prog 109 #[.int .i64 p, .pointer (some ⟨bL, 0, none⟩), .pointer (some ⟨bS, 0, none⟩), .pointer (some ⟨bF, 0, none⟩)] W fun e W' => e = .returned (.tuple #[]) ∧ Boxed W' bL 100 (.int .u16 (fallF r.ls cb f p N : Nat)) ∧ Alt (fun k => k = bL) W W' := by
  obtain ⟨rows, mid, gap, reach, la, lc, L⟩ := r
  simp only at hla hl hn ⊢
  intro f
  induction f with
  | zero =>
    intro p N W p1 p2 hN hs hbit
    have : p ∈ els N := (mem_els _ _).2 ⟨p1, p2, hbit⟩
    have := List.length_pos_of_mem this
    omega
  | succ f ih =>
    intro p N W p1 p2 hN hs hbit h
    have IH := Lib.hid ih
    clear ih
    have hD : dif N (1 <<< p.toNat) < 65536 := dif_lt hN
    have hDs : (els (dif N (1 <<< p.toNat))).length ≤ f := by
      have := size_lt (dif_sub N (1 <<< p.toNat)) p1 p2 hbit (by rw [dif_one]; simp)
      omega
    have hfs := Lib.hid (fallF_succ L cb f p N)
    have E1 := bnot16 hN (bit16 p1 p2)
    have E2 := shl16 p1 p2
    rw [← E2] at E1
    have cL := h.l.cell
    have fL := h.l.frozen
    have G0 : FS ⟨rows, mid, gap, reach, la, lc, L⟩ c k cap St n0 bL bS bF K (W.setCell ⟨bL, 0, none⟩ (.int .u16 (dif N (1 <<< p.toNat) : Nat))) (dif N (1 <<< p.toNat)) := h.go hK hla hb ((Alt.refl (fun k => k = bL) W).setCell (q := ⟨bL, 0, none⟩) rfl _) (Boxed.set _ h.l)
    have A0 := Lib.hid ((Alt.refl (fun k => k = bL) W).setCell (q := ⟨bL, 0, none⟩) rfl (.int .u16 (dif N (1 <<< p.toNat) : Nat)))
    have H := Lib.hid h
    have HG := Lib.hid G0
    generalize dif N (1 <<< p.toNat) = D at *
    generalize fallF L cb (f + 1) p N = RES at *
    have s4 : (W.setCell ⟨bL, 0, none⟩ (.int .u16 (D : Nat))).cell? ⟨bS, 4, none⟩ = some (.slice la L.length lc) := G0.s.cell 4 rfl
    clear h G0 hbit hs E2
    go_enter Tryd.func109, Tryd.ntmps109
    go_wp2_with fail
    go_still_tail 4, (by kernel_rfl)
    go_wp2_with fail
    generalize hW1 : World.drew _ = W1
    have HG1 : Hid (FS ⟨rows, mid, gap, reach, la, lc, L⟩ c k cap St n0 bL bS bF K W1 D) := by rw [← hW1]; exact HG.out.go hK hla hb ((Alt.refl (fun k => k = bL) _).drew) HG.out.l
    have A1 : Hid (Alt (fun k => k = bL) W W1) := by rw [← hW1]; exact A0.out.drew
    clear hW1 s4 E1 cL fL HG A0 H
    go_loopg [15] L.length (fun g s15 wx => ∃ (i M : Nat), i ≤ L.length ∧ g = L.length - i ∧ s15 = .int .i64 (i : Int) ∧ Hid (M = (L.take i).foldl (stepF L cb f p) D) ∧ Hid (FS ⟨rows, mid, gap, reach, la, lc, L⟩ c k cap St n0 bL bS bF K wx M) ∧ Hid (Alt (fun k => k = bL) W wx))
    case atStart => exact ⟨0, D, by omega, rfl, rfl, Lib.hid rfl, HG1, A1⟩
    case round =>
      obtain ⟨i, M, hi, rfl, rfl, hM, hF, hA⟩ := hrel
      clear HG1 A1
      by_cases hlt : i < L.length
      · have hz0 : (0 : Int) ≤ (i : Int) := by omega
        have hz1 : (i : Int) < (L.length : Int) := by omega
        obtain ⟨l, hl0⟩ : ∃ l, L[i]? = some l := ⟨L[i]'hlt, List.getElem?_eq_getElem _⟩
        have hlo := hl l (List.mem_of_getElem? hl0)
        have HL := Lib.hid (hF.out.ls i l hl0)
        have hT := Lib.hid (show (L.take (i + 1)).foldl (stepF L cb f p) D = stepF L cb f p ((L.take i).foldl (stepF L cb f p) D) l from by rw [List.take_add_one, hl0, Option.toList_some, List.foldl_append]; rfl)
        have hMD := fold_le L cb f p (L.take i) D
        rw [← hM.out] at hMD
        have hM16 := Sub.lt hMD hD
        have hMs : (els M).length ≤ f := Nat.le_trans (size_mono hMD) hDs
        have HMD := Lib.hid hMD
        clear hl0 hMD
        obtain ⟨g, o, rfl, k1, k2, k3⟩ := HL.out
        have s9 : wr.cell? ⟨bS, 9, none⟩ = some (.func (.func k) #[] cap) := hF.out.s.cell 9 rfl
        obtain ⟨fr, to, sr⟩ := l
        simp only at *
        clear HL
        have A3 : Alt (fun k => k = bL) wr (wr.alloc (.cells #[.int .i64 fr, .int .i64 to, .bool sr] 86)) := (Alt.refl _ _).alloc _
        have F3 := Lib.hid (hF.out.go hK hla hb A3 (hF.out.l.alloc _))
        have A4 := Lib.hid (hA.out.trans A3)
        clear A3
        by_cases hfr : fr = p
        · subst hfr
          have CX := Lib.hid (CF ⟨fr, to, sr⟩ _ hlo.2.2.1 hlo.2.2.2 F3.out.k)
          unfold Lk.val at CX
          simp only at CX
          have s9' : (wr.alloc (.cells #[.int .i64 fr, .int .i64 to, .bool sr] 86)).cell? ⟨bS, 9, none⟩ = some (.func (.func k) #[] cap) := F3.out.s.cell 9 rfl
          clear CF
          go_wp2_with fail
          refine CX.out.mono ?_
          rintro e w3 ⟨rfl, hb3⟩
          have Z3 := Lib.hid (show wr.heap.size < (wr.alloc (.cells #[.int .i64 fr, .int .i64 to, .bool sr] 86)).heap.size by simp)
          have x0 := cell_lo hb3 (new_cell wr (cs := #[.int .i64 fr, .int .i64 to, .bool sr]) (t := 86) (i := 0) rfl)
          have x1 := cell_lo hb3 (new_cell wr (cs := #[.int .i64 fr, .int .i64 to, .bool sr]) (t := 86) (i := 1) rfl)
          have A5 : Alt (fun k => k = bL) (wr.alloc (.cells #[.int .i64 fr, .int .i64 to, .bool sr] 86)) w3 := Alt.of_below hb3 (fun k hk h => by omega)
          have F5 := Lib.hid (F3.out.go hK hla hb A5 (Boxed.alt F3.out.l (Alt.of_below (p := fun k => (wr.alloc (.cells #[.int .i64 fr, .int .i64 to, .bool sr] 86)).heap.size ≤ k) hb3 (fun k hk h => h)) (by have := F3.out.l.lt; omega)))
          have A6 := Lib.hid (A4.out.trans A5)
          clear A5 hb3 F3 A4 s9 s9' k1 k2 k3 CX
          have cL := F5.out.l.cell
          have cF := F5.out.f.cell
          cases hcb : cb ⟨fr, to, sr⟩
          · have hS := Lib.hid (show stepF L cb f fr M ⟨fr, to, sr⟩ = M from by unfold stepF; rw [if_neg (fun e => by have := e.2.1; rw [hcb] at this; cases this)])
            clear hcb
            go_wp2_with fail
            go_roundg (L.length - (i + 1))
            case measure => omega
            case rel => exact ⟨i + 1, M, by omega, rfl, by simp, Lib.hid (by rw [hT.out, ← hM.out, hS.out]), F5, A6⟩
          · have HB := Lib.hid (has_bit M to w3 hM16 hlo.2.2.1 hlo.2.2.2)
            go_wp2_with fail
            refine HB.out.mono ?_
            rintro e w4 ⟨rfl, rfl⟩
            cases hbt : M.testBit to.toNat
            · have hS := Lib.hid (show stepF L cb f fr M ⟨fr, to, sr⟩ = M from by unfold stepF; rw [if_neg (fun e => by have := e.2.2; rw [hbt] at this; cases this)])
              clear hcb hbt
              go_wp2_with fail
              go_roundg (L.length - (i + 1))
              case measure => omega
              case rel => exact ⟨i + 1, M, by omega, rfl, by simp, Lib.hid (by rw [hT.out, ← hM.out, hS.out]), F5, A6⟩
            · have hS := Lib.hid (show stepF L cb f fr M ⟨fr, to, sr⟩ = fallF L cb f to M from by unfold stepF; rw [if_pos ⟨rfl, hcb, hbt⟩])
              have IX := Lib.hid (IH.out to M w3 hlo.2.2.1 hlo.2.2.2 hM16 hMs hbt F5.out)
              clear hcb hbt
              go_wp2_with fail
              refine IX.out.mono ?_
              rintro e w5 ⟨rfl, h5, a5⟩
              have F7 := Lib.hid (F5.out.go hK hla hb a5 h5)
              have A7 := Lib.hid (A6.out.trans a5)
              clear h5 a5 cL cF x0 x1
              go_wp2_with fail
              go_roundg (L.length - (i + 1))
              case measure => omega
              case rel => exact ⟨i + 1, fallF L cb f to M, by omega, rfl, by simp, Lib.hid (by rw [hT.out, ← hM.out, hS.out]), F7, A7⟩
        · have hne : (fr == p) = false := by simpa using hfr
          have hS := Lib.hid (show stepF L cb f p M ⟨fr, to, sr⟩ = M from by unfold stepF; rw [if_neg (fun e => hfr e.1)])
          clear hfr CF ek
          go_wp2_with fail
          go_roundg (L.length - (i + 1))
          case measure => omega
          case rel => exact ⟨i + 1, M, by omega, rfl, by simp, Lib.hid (by rw [hT.out, ← hM.out, hS.out]), F3, A4⟩
      · have hz1 : ¬ (i : Int) < (L.length : Int) := by omega
        have hR := Lib.hid (show RES = M from by rw [hfs.out, hM.out, List.take_of_length_le (by omega)])
        clear hlt CF ek
        go_wp2_with fail
        go_end0
        exact ⟨rfl, by rw [hR.out]; exact hF.out.l, hA.out⟩

end Go.Proofs.YtaloffdkadhhnaaDoor

namespace Go.Proofs.YtaloffdkadhhnaaDoor
open Go.RowKit Go.Shelf

attribute [local go_sem] Oper.semAt_some

theorem FS.far {r : Rk} {c : Cs} {k : Nat} {cap : Array Value} {St n0 bL bS bF : Nat} {K : World → Prop} {W W' : World} {N B : Nat} {p : Nat → Prop} (h : FS r c k cap St n0 bL bS bF K W N) (hK : ∀ A B, K A → Alt (fun k => n0 ≤ k) A B → K B) (hla : ∀ g o, r.la = some ⟨g, o, none⟩ → g < n0)
    (hb : n0 ≤ B ∧ bL < B ∧ bS < B ∧ bF < B) (ha : Alt p W W') (hp : ∀ k, p k → B ≤ k) : FS r c k cap St n0 bL bS bF K W' N :=
  ⟨Boxed.alt h.l ha (fun e => by have := hp _ e; omega), h.s.alt ha (fun e => by have := hp _ e; omega), Boxed.alt h.f ha (fun e => by have := hp _ e; omega), h.ls.alt ha (fun g o e hg => by have := hla g o e; have := hp _ hg; omega), hK _ _ h.k (ha.mono fun k _ e => by have := hp _ e; omega)⟩

theorem fold_take_snoc {β γ : Type} (g : β → γ → β) (b : β) (pre : List γ) (x : γ) : (pre ++ [x]).foldl g b = g (pre.foldl g b) x := by simp

set_option maxRecDepth 100000 in
set_option maxHeartbeats 8000000 in
theorem leftBy_any (r : Rk) (c : Cs) (k : Nat) (cap : Array Value) (St T : Nat) (K : World → Prop) (cb : Lk → Bool) (w : World) (hK : ∀ A B, K A → Alt (fun k => w.heap.size ≤ k) A B → K B) (hK0 : K w)
    (ek : ∀ args w, (callFunc k args).run Tryd.prog w = .ok (.enter k args) w) (CF : ∀ l W, 0 ≤ l.to → l.to ≤ 15 → K W → Calls Tryd.prog k (#[Lk.val l] ++ cap) W fun e W' => e = .returned (.bool (cb l)) ∧ Below W.heap.size W W')
    (hla : ∀ g o, r.la = some ⟨g, o, none⟩ → g < w.heap.size) (hl : LinksOk r.ls) (hn : r.ls.length ≤ 1000) (hL : LinksAt w r.la r.ls) (hSt : St < 65536) (hT : T < 65536) (hTab : TabOK w) :
    Calls Tryd.prog 94 #[sVal r c (.func (.func k) #[] cap) St, .int .u16 (T : Nat)] w fun e w' => e = .returned (.int .u16 (leftN r.ls cb St T : Nat)) ∧ Below w.heap.size w w' := by
  have EA := Lib.hid (fun w => callsIn_wide (n := 0).2 (each_any T w))
  have FL := Lib.hid (fun p N W a b d e f g => callsIn_wide (n := 0).2 (fall_any r c k cap St w.heap.size (w.heap.size + 1) w.heap.size (w.heap.size + 1 + 1) K cb hK ek CF hla ⟨by omega, by omega, by omega⟩ hl hn 16 p N W a b d e f g))
  obtain ⟨S, hS⟩ : ∃ S, Hid (S = sVal r c (.func (.func k) #[] cap) St) := ⟨_, Lib.hid rfl⟩
  obtain ⟨CC, hCC⟩ : ∃ CC, Hid (CC = sCells r c (.func (.func k) #[] cap) St) := ⟨_, Lib.hid rfl⟩
  rw [← hS.out]
  refine (callsIn_wide (n := 0)).1 ?_
  refine callsIn_of_wp_marks Tryd.func94 rfl trivial ?_ rfl
  simp only [Tryd.ntmps94, List.size_toArray, List.length_cons, List.length_nil, Nat.reduceAdd, Nat.reduceSub, Array.replicate_succ, Array.replicate_zero, List.push_toArray, List.append_toArray, List.nil_append, List.cons_append]
  rw [hS.out]
  unfold sVal sCells
  gi_wp2
  refine ⟨trivial, rfl, ?_⟩
  refine (EA.out _).mono ?_
  rintro e w1 ⟨rfl, rfl⟩
  gi_wp2
  have hSV := hS.out
  unfold sVal sCells at hSV
  rw [← hSV]
  clear hSV
  have FV : ∀ v, v = Value.func (.func 109) #[] #[.pointer (some ⟨w.heap.size + 1, 0, none⟩), .pointer (some ⟨w.heap.size, 0, none⟩), .pointer (some ⟨w.heap.size + 1 + 1, 0, none⟩)] → True := fun _ _ => trivial
  have bS : Blk ((((w.alloc (.cells (sCells r c (.func (.func k) #[] cap) St) 115)).alloc (.cells #[.int .u16 (St : Nat)] 100)).alloc (.cells #[.func (.func 109) #[] #[.pointer (some ⟨w.heap.size + 1, 0, none⟩), .pointer (some ⟨w.heap.size, 0, none⟩), .pointer (some ⟨w.heap.size + 1 + 1, 0, none⟩)]] 156)).alloc (.cells #[.int .u16 (T : Nat)] 100)) w.heap.size (sCells r c (.func (.func k) #[] cap) St) 115 :=
    Blk.alt (p := fun _ => False) (Blk.new w _ _) ((((Alt.refl _ _).alloc _).alloc _).alloc _) id
  have bL : Boxed ((((w.alloc (.cells (sCells r c (.func (.func k) #[] cap) St) 115)).alloc (.cells #[.int .u16 (St : Nat)] 100)).alloc (.cells #[.func (.func 109) #[] #[.pointer (some ⟨w.heap.size + 1, 0, none⟩), .pointer (some ⟨w.heap.size, 0, none⟩), .pointer (some ⟨w.heap.size + 1 + 1, 0, none⟩)]] 156)).alloc (.cells #[.int .u16 (T : Nat)] 100)) (w.heap.size + 1) 100 (.int .u16 (St : Nat)) := by
    have := ((Boxed.new (w.alloc (.cells (sCells r c (.func (.func k) #[] cap) St) 115)) 100 (.int .u16 (St : Nat))).alloc (.cells #[.func (.func 109) #[] #[.pointer (some ⟨w.heap.size + 1, 0, none⟩), .pointer (some ⟨w.heap.size, 0, none⟩), .pointer (some ⟨w.heap.size + 1 + 1, 0, none⟩)]] 156)).alloc (.cells #[.int .u16 (T : Nat)] 100)
    rwa [World.size_alloc] at this
  have bF : Boxed ((((w.alloc (.cells (sCells r c (.func (.func k) #[] cap) St) 115)).alloc (.cells #[.int .u16 (St : Nat)] 100)).alloc (.cells #[.func (.func 109) #[] #[.pointer (some ⟨w.heap.size + 1, 0, none⟩), .pointer (some ⟨w.heap.size, 0, none⟩), .pointer (some ⟨w.heap.size + 1 + 1, 0, none⟩)]] 156)).alloc (.cells #[.int .u16 (T : Nat)] 100)) (w.heap.size + 1 + 1) 156 (.func (.func 109) #[] #[.pointer (some ⟨w.heap.size + 1, 0, none⟩), .pointer (some ⟨w.heap.size, 0, none⟩), .pointer (some ⟨w.heap.size + 1 + 1, 0, none⟩)]) := by
    have := (Boxed.new ((w.alloc (.cells (sCells r c (.func (.func k) #[] cap) St) 115)).alloc (.cells #[.int .u16 (St : Nat)] 100)) 156 (.func (.func 109) #[] #[.pointer (some ⟨w.heap.size + 1, 0, none⟩), .pointer (some ⟨w.heap.size, 0, none⟩), .pointer (some ⟨w.heap.size + 1 + 1, 0, none⟩)])).alloc (.cells #[.int .u16 (T : Nat)] 100)
    rwa [World.size_alloc, World.size_alloc] at this
  have bN : Boxed ((((w.alloc (.cells (sCells r c (.func (.func k) #[] cap) St) 115)).alloc (.cells #[.int .u16 (St : Nat)] 100)).alloc (.cells #[.func (.func 109) #[] #[.pointer (some ⟨w.heap.size + 1, 0, none⟩), .pointer (some ⟨w.heap.size, 0, none⟩), .pointer (some ⟨w.heap.size + 1 + 1, 0, none⟩)]] 156)).alloc (.cells #[.int .u16 (T : Nat)] 100)) (w.heap.size + 1 + 1 + 1) 100 (.int .u16 (T : Nat)) := by
    have := Boxed.new (((w.alloc (.cells (sCells r c (.func (.func k) #[] cap) St) 115)).alloc (.cells #[.int .u16 (St : Nat)] 100)).alloc (.cells #[.func (.func 109) #[] #[.pointer (some ⟨w.heap.size + 1, 0, none⟩), .pointer (some ⟨w.heap.size, 0, none⟩), .pointer (some ⟨w.heap.size + 1 + 1, 0, none⟩)]] 156)) 100 (.int .u16 (T : Nat))
    rwa [World.size_alloc, World.size_alloc, World.size_alloc] at this
  have B0 : Below w.heap.size w ((((w.alloc (.cells (sCells r c (.func (.func k) #[] cap) St) 115)).alloc (.cells #[.int .u16 (St : Nat)] 100)).alloc (.cells #[.func (.func 109) #[] #[.pointer (some ⟨w.heap.size + 1, 0, none⟩), .pointer (some ⟨w.heap.size, 0, none⟩), .pointer (some ⟨w.heap.size + 1 + 1, 0, none⟩)]] 156)).alloc (.cells #[.int .u16 (T : Nat)] 100)) := below_al2 (below_al2 (below_al2 (below_al w _) _) _) _
  have hz : ((((w.alloc (.cells (sCells r c (.func (.func k) #[] cap) St) 115)).alloc (.cells #[.int .u16 (St : Nat)] 100)).alloc (.cells #[.func (.func 109) #[] #[.pointer (some ⟨w.heap.size + 1, 0, none⟩), .pointer (some ⟨w.heap.size, 0, none⟩), .pointer (some ⟨w.heap.size + 1 + 1, 0, none⟩)]] 156)).alloc (.cells #[.int .u16 (T : Nat)] 100)).heap.size = w.heap.size + 4 := by simp
  have HBS := Lib.hid bS
  unfold sCells at bL bF bN B0 hz bS
  clear FV
  have F0 : FS r c k cap St w.heap.size (w.heap.size + 1) w.heap.size (w.heap.size + 1 + 1) K _ St := ⟨bL, HBS.out, bF, hL.lo B0, hK _ _ hK0 (Alt.of_below B0 (fun _ _ h => h))⟩
  clear HBS bS bL bF
  unfold sCells at F0
  generalize (((w.alloc _).alloc _).alloc _).alloc _ = W0 at *
  have tp := tab_pos hTab
  have TB0 := hTab.lo B0
  have hb' : w.heap.size ≤ W0.heap.size ∧ w.heap.size + 1 < W0.heap.size ∧ w.heap.size < W0.heap.size ∧ w.heap.size + 1 + 1 < W0.heap.size := by omega
  refine wp_iter (gf := 112) (lb := #[.pointer (some ⟨w.heap.size + 1 + 1 + 1, 0, none⟩)]) rfl eg112 (each1_iter (w.heap.size + 1 + 1 + 1) T W0 bN hT TB0) (fun k h => by omega) (fun _ => rfl)
    (fun k => k = w.heap.size + 1) (fun k h => ⟨fun e => by omega, fun e => by unfold Rng at e; omega⟩)
    (fun pre W => FS r c k cap St w.heap.size (w.heap.size + 1) w.heap.size (w.heap.size + 1 + 1) K W (pre.foldl (stepL r.ls cb) St) ∧ Alt (fun k => w.heap.size ≤ k) w W)
    (fun pre x a1 W => (FS r c k cap St w.heap.size (w.heap.size + 1) w.heap.size (w.heap.size + 1 + 1) K W (pre.foldl (stepL r.ls cb) St) ∧ Alt (fun k => w.heap.size ≤ k) w W) ∧
      a1 = { tmps := #[S, .int .u16 (T : Nat), .pointer (some ⟨w.heap.size, 0, none⟩), undef, .int .u16 0, .pointer (some ⟨w.heap.size + 1, 0, none⟩), .pointer (some ⟨w.heap.size + 1 + 1, 0, none⟩), .int .i64 x, .pointer (some ⟨w.heap.size, 10, none⟩), .int .u16 (St : Nat), .func (.func 109) #[] #[.pointer (some ⟨w.heap.size + 1, 0, none⟩), .pointer (some ⟨w.heap.size, 0, none⟩), .pointer (some ⟨w.heap.size + 1 + 1, 0, none⟩)], .int .u16 (T : Nat), .func (.func 112) #[] #[.pointer (some ⟨w.heap.size + 1 + 1 + 1, 0, none⟩)], .int .i64 x, undef, undef, undef, undef, undef, undef, undef], defers := [] })
    (fun _ _ _ => False)
    (fun pre A B h hAB => ?stI) (fun pre x a A B h hAB => ?stM) (fun _ _ _ _ h _ => h) ⟨F0, Alt.of_below B0 (fun _ _ h => h)⟩ ?assign ?body ?done ?stop
  case stI =>
    obtain ⟨h1, h3⟩ := h
    exact ⟨h1.far hK hla hb' hAB (fun k e => by unfold Rng at e; omega), h3.trans (hAB.mono fun k _ e => by unfold Rng at e; omega)⟩
  case stM =>
    obtain ⟨⟨h1, h3⟩, e⟩ := h
    exact ⟨⟨h1.far hK hla hb' hAB (fun k e => by unfold Rng at e; omega), h3.trans (hAB.mono fun k _ e => by unfold Rng at e; omega)⟩, e⟩
  case assign =>
    intro l pre x post A hx hz hl hr h
    gi_wp2
    exact ⟨Alt.refl _ _, h, by first | trivial | rfl⟩
  case body =>
    rintro l pre x post a1 A hx hzA hl' hr ⟨⟨h1, h3⟩, rfl⟩
    have hmem : x ∈ els T := by rw [hx]; simp
    have hx0 := els_bd hmem
    have hts := Lib.hid (fold_take_snoc (stepL r.ls cb) St pre x)
    have hM16 : pre.foldl (stepL r.ls cb) St < 65536 := Sub.lt (fold_inv (fun K => Sub K St) (stepL r.ls cb) pre St (Sub.refl _) fun K p _ h => (stepL_le r.ls cb K p).trans h) hSt
    generalize pre.foldl (stepL r.ls cb) St = M at *
    have HB := Lib.hid (callsIn_wide (n := 0).2 (has_bit M x A hM16 hx0.1 hx0.2))
    have HZ := Lib.hid hz
    have cL := h1.l.cell
    have cF := h1.f.cell
    have H1 := Lib.hid h1
    clear hx hz hl' CF ek EA hK0 hL bN F0
    gi_wp2
    refine ⟨trivial, rfl, ?_⟩
    refine (CallsIn.inRound l HB.out).mono ?_
    rintro e w1 ⟨rfl, rfl⟩
    cases hq : M.testBit x.toNat
    · have hts2 := Lib.hid (show _ = M from hts.out.trans (by unfold stepL; rw [if_neg (by rw [hq]; simp)]))
      clear hq
      gi_wp2
      exact ⟨Alt.refl _ _, by rw [hts2.out]; exact H1.out, h3⟩
    · have hts2 := Lib.hid (show _ = fallF r.ls cb 16 x M from hts.out.trans (by unfold stepL; rw [if_pos hq]))
      have FX := Lib.hid (FL.out x M A hx0.1 hx0.2 hM16 (len16 _) hq H1.out)
      clear hq
      gi_wp2
      refine ⟨trivial, rfl, ?_⟩
      refine (CallsIn.inRound l FX.out).mono ?_
      rintro e w2 ⟨rfl, h5, a5⟩
      have F7 := Lib.hid (H1.out.go hK hla ⟨by omega, by omega, by omega⟩ a5 h5)
      have A5 := Lib.hid a5
      have A7 := Lib.hid (h3.trans (a5.mono fun k _ e => by omega))
      clear h5 a5 cL cF
      gi_wp2
      exact ⟨A5.out, by rw [hts2.out]; exact F7.out, A7.out⟩
  case done =>
    rintro B ⟨h1, h3⟩ hzB hK'
    have c1 := h1.l.cell
    have HZ := Lib.hid hz
    have HR : Hid (leftN r.ls cb St T = (els T).foldl (stepL r.ls cb) St) := Lib.hid rfl
    clear hz CF ek EA hK0 hL bN F0
    gi_wp2
    refine leave_ret hK' (results_tmp rfl _ _ _) ⟨by rw [HR.out]; rfl, ?_⟩
    exact (h3.putObj (l := W0.heap.size) (by show w.heap.size ≤ W0.heap.size; have := HZ.out; omega) _).below (Nat.le_refl _) (fun k h => h)
  case stop =>
    intro c pre x post B hx h
    exact h.elim

end Go.Proofs.YtaloffdkadhhnaaDoor
