/- The contracts of what collects the elements of an iterator. -/
import Derived.Test.YtaloffdkadhhnaaDoorEa
import Derived.RangeFuncBox
import Derived.Maps.AppendAt
set_option linter.unusedVariables false
set_option linter.unusedSimpArgs false
namespace Go.Proofs.YtaloffdkadhhnaaDoor
open Go.RowKit Go.Shelf

attribute [local go_sem] Oper.semAt_some

theorem Iter.later {α : Type} {P : Program} {g : Nat} {lb : Array Value} {encs : α → Array Value} {xs : List α} {K : Nat} {Rd : Nat → Prop} {w w1 : World} (h : Iter P g lb encs xs K Rd w) (hA : Alt (fun k => ¬ Rd k) w w1) : Iter P g lb encs xs K Rd w1 :=
  fun l J Jx W hW => h l J Jx W (hA.trans hW)

theorem ownsRow_alt {W W' : World} {base : Nat} {e : TypeId} {size : Nat} {v : Value} {n : Nat} {xs : List Value} {p : Nat → Prop} (h : W.ownsRow base e size v n xs) (ha : Alt p W W') (hp : ∀ g, base ≤ g → ¬ p g) : W'.ownsRow base e size v n xs := by
  obtain ⟨h1, h2⟩ := h
  refine ⟨h1, ?_⟩
  rcases h2 with h2 | ⟨g, cap, cur, e1, e2, e3, e4⟩
  · exact .inl h2
  · exact .inr ⟨g, cap, cur, e1, e2, ha.obj e3 (hp g e2), e4⟩

theorem info3 : (Tryd.prog.info? 3).map (fun i => (i.zero, i.size, i.bytes)) = some (some (.int .i64 0), 1, 8) := by kernel_rfl

theorem own_intsAt {W : World} {base : Nat} {a : Option Addr} {n c : Nat} {xs : List Int} (h : W.ownsRow base 3 1 (.slice a n c) n (xs.map (Value.int .i64))) : IntsAt W a xs ∧ n = xs.length := by
  obtain ⟨h1, h2⟩ := h
  have hn : n = xs.length := by simpa using h1.symm
  refine ⟨?_, hn⟩
  intro i v hv
  rcases h2 with ⟨_, h0⟩ | ⟨g, cap, cur, e1, e2, e3, e4, e5, e6, e7⟩
  · subst h0
    have : xs = [] := List.length_eq_zero_iff.1 hn.symm
    subst this; simp at hv
  · cases e1
    refine ⟨g, 0, rfl, ?_⟩
    have hlt := (List.getElem?_eq_some_iff.1 hv).1
    have : cur.toList[i]? = some (.int .i64 v) := by
      have e8 : (cur.toList.take (n * 1))[i]? = some (Value.int .i64 v) := by rw [e7, List.getElem?_map, hv]; rfl
      rw [List.getElem?_take] at e8
      split at e8
      · exact e8
      · cases e8
    simp only [World.cell?, e3, Nat.zero_add]
    simpa using this

theorem own_base {W : World} {base : Nat} {e : TypeId} {size : Nat} {v : Value} {n : Nat} {xs : List Value} (h : W.ownsRow base e size v n xs) {k : Nat} (hk : v.ownBlock = some k) : base ≤ k := by
  rcases h.2 with ⟨rfl, _⟩ | ⟨g, cap, cur, rfl, hb, _, _⟩
  · simp [Value.ownBlock] at hk
  · obtain rfl : g = k := by simpa [Value.ownBlock] using hk
    exact hb
theorem own_mono {W : World} {base base' : Nat} {e : TypeId} {size : Nat} {v : Value} {n : Nat} {xs : List Value} (h : W.ownsRow base e size v n xs) (hb : base' ≤ base) : W.ownsRow base' e size v n xs := by
  obtain ⟨h1, h2⟩ := h
  refine ⟨h1, h2.imp_right ?_⟩
  rintro ⟨g, cap, cur, e1, e2, e3⟩
  exact ⟨g, cap, cur, e1, Nat.le_trans hb e2, e3⟩

/-- 'out = append(out, ..)': the variable's box, and the row. -/
theorem boxed_app {W w1 : World} {base B : Nat} {t e : TypeId} {size : Nat} {v v' : Value} {k m : Nat} {xs ys : List Value} {tmp : Obj}
    (hv : Boxed W B t v) (hte : t ≠ e) (hrow : W.ownsRow base e size v k xs) (hown' : w1.ownsRow base e size v' m ys) (hgrow : (W.alloc tmp).grownBy w1 v.ownBlock) :
    Boxed w1 B t v ∧ Boxed (w1.setCell ⟨B, 0, none⟩ v') B t v' ∧ (w1.setCell ⟨B, 0, none⟩ v').ownsRow base e size v' m ys ∧ Alt (fun k => k = B ∨ base ≤ k) W (w1.setCell ⟨B, 0, none⟩ v') := by
  have hv1 : Boxed w1 B t v := (hv.alloc tmp).kept hgrow (hv.not_row hte hrow)
  refine ⟨hv1, hv1.set v', hown'.kept (grownBy_setCell' w1 B v') (.inr (hv1.not_row hte hown').symm), ?_⟩
  exact ((((Alt.refl _ W).alloc tmp).grown hgrow (fun k hk => .inr (own_base hrow hk))).setCell (q := ⟨B, 0, none⟩) (.inl rfl) v')

set_option maxRecDepth 100000 in
set_option maxHeartbeats 8000000 in
theorem appendSeq_any (g : Nat) (lb : Array Value) (xs : List Int) (K : Nat) (Rd : Nat → Prop) (w : World) (eg : ∀ args w, (callFunc g args).run Tryd.prog w = .ok (.enter g args) w)
    (hI : Iter Tryd.prog g lb (fun x : Int => #[Value.int .i64 x]) xs K Rd w) (hRd : ∀ k, Rd k → k < w.heap.size) (hn : xs.length ≤ 1000) :
    Calls Tryd.prog 111 #[.slice none 0 0, .func (.func g) #[] lb] w fun e W' => ∃ v, e = .returned v ∧ W'.ownsRow w.heap.size 3 1 v xs.length (xs.map (Value.int .i64)) ∧ Below w.heap.size w W' := by
  obtain ⟨i0, hi, hz0, hz1, hz2⟩ := info_parts info3
  refine (callsIn_wide (n := 0)).1 ?_
  refine callsIn_of_wp_marks Tryd.func111 rfl trivial ?_ rfl
  simp only [Tryd.ntmps111, List.size_toArray, List.length_cons, List.length_nil, Nat.reduceAdd, Nat.reduceSub, Array.replicate_succ, Array.replicate_zero, List.push_toArray, List.append_toArray, List.nil_append, List.cons_append]
  gi_wp2
  have bO := Boxed.new w 25 (.slice none 0 0)
  have A0 : Alt (fun k => w.heap.size ≤ k) w (w.alloc (.cells #[.slice none 0 0] 25)) := (Alt.refl _ _).alloc _
  have I0 := hI.later ((Alt.refl (fun k => ¬ Rd k) w).alloc (.cells #[.slice none 0 0] 25))
  have hsz : (w.alloc (.cells #[.slice none 0 0] 25)).heap.size = w.heap.size + 1 := by simp
  generalize w.alloc (.cells #[.slice none 0 0] 25) = W0 at *
  refine wp_iter (gf := g) (lb := lb) rfl eg I0 (fun k h => by have := hRd k h; omega) (fun _ => rfl)
    (fun k => w.heap.size ≤ k ∧ ¬ Rng W0.heap.size (2 + K) k) (fun k h => ⟨fun e => by have := hRd k e; omega, h.2⟩)
    (fun pre W => (∃ v, Boxed W w.heap.size 25 v ∧ W.ownsRow (W0.heap.size + (2 + K)) 3 1 v pre.length (pre.map (Value.int .i64))) ∧ Alt (fun k => w.heap.size ≤ k) w W)
    (fun pre x a1 W => ((∃ v, Boxed W w.heap.size 25 v ∧ W.ownsRow (W0.heap.size + (2 + K)) 3 1 v pre.length (pre.map (Value.int .i64))) ∧ Alt (fun k => w.heap.size ≤ k) w W) ∧ a1 = { tmps := #[.slice none 0 0, .func (.func g) #[] lb, .pointer (some ⟨w.heap.size, 0, none⟩), undef, .slice none 0 0, .int .i64 x, .func (.func g) #[] lb, .int .i64 x, undef, undef, undef, undef, undef], defers := [] })
    (fun _ _ _ => False)
    (fun pre A B h hAB => ?stI) (fun pre x a A B h hAB => ?stM) (fun _ _ _ _ h _ => h) ⟨⟨_, bO, World.ownsRow_nil _ _ _ _⟩, A0⟩ ?assign ?body ?done ?stop
  case stI =>
    obtain ⟨⟨v, hv, hr⟩, hA⟩ := h
    exact ⟨⟨v, Boxed.alt hv hAB (fun e => by unfold Rng at e; omega), ownsRow_alt hr hAB (fun g hg e => by unfold Rng at e; omega)⟩, hA.trans (hAB.mono fun k _ e => by unfold Rng at e; omega)⟩
  case stM =>
    obtain ⟨⟨⟨v, hv, hr⟩, hA⟩, e⟩ := h
    exact ⟨⟨⟨v, Boxed.alt hv hAB (fun e => by unfold Rng at e; omega), ownsRow_alt hr hAB (fun g hg e => by unfold Rng at e; omega)⟩, hA.trans (hAB.mono fun k _ e => by unfold Rng at e; omega)⟩, e⟩
  case assign =>
    intro l pre x post A hx hz hl hr h
    gi_wp2
    exact ⟨Alt.refl _ _, h, by first | trivial | rfl⟩
  case body =>
    rintro l pre x post a1 A hx hz hl hr ⟨⟨⟨v, hv, hrow⟩, hA⟩, rfl⟩
    have hc := hv.cell
    have hpl : pre.length + 1 ≤ 1000 := by rw [hx] at hn; simp at hn; omega
    have hBS : w.heap.size ≤ A.heap.size := hA.size
    gi_wp2_with (gi_at_builtin; refine wpListIn_append_own _ rfl _ _ 25 rfl (W0.heap.size + (2 + K)) 3 i0 (.int .i64 0) 1 8 Tryd.underlying25 hi hz0 hz1 hz2 rfl (by decide) _ _ _ rfl (hrow.alloc _) ⟨A.heap.size, 0, none⟩ 1 1 [.int .i64 x] rfl rfl (cell_one_new _ _ _) (by simp [Value.oneCell']) (by unfold maxLen; omega) (by omega) (by simp; omega) ?_; intro v' w1 hown' hgrow _; obtain ⟨g', cap', rfl⟩ := ownsRow_succ hown'; obtain ⟨hv1, hv2, hr2, ha2⟩ := boxed_app hv (by decide) hrow hown' hgrow; have hc1 := hv1.cell; have hf1 := hv1.frozen)
    exact ⟨ha2.mono fun k _ e => by unfold Rng; omega, ⟨_, hv2, by simpa using hr2⟩, hA.trans (ha2.mono fun k _ e => by omega)⟩
  case done =>
    rintro B ⟨⟨v, hv, hrow⟩, hA⟩ hz hK
    have hc := hv.cell
    gi_wp2
    refine leave_ret hK (results_tmp rfl _ _ _) ⟨v, rfl, ?_, ?_⟩
    · exact own_mono (ownsRow_alt hrow (Alt.put (p := fun k => k = W0.heap.size) rfl _) (fun g hg e => by omega)) (by omega)
    · exact (hA.putObj (l := W0.heap.size) (by show w.heap.size ≤ W0.heap.size; omega) _).below (Nat.le_refl _) (fun k h => h)
  case stop =>
    intro c pre x post B hx h
    exact h.elim

theorem collect_any (g : Nat) (lb : Array Value) (xs : List Int) (K : Nat) (Rd : Nat → Prop) (w : World) (eg : ∀ args w, (callFunc g args).run Tryd.prog w = .ok (.enter g args) w)
    (hI : Iter Tryd.prog g lb (fun x : Int => #[Value.int .i64 x]) xs K Rd w) (hRd : ∀ k, Rd k → k < w.heap.size) (hn : xs.length ≤ 1000) :
    Calls Tryd.prog 96 #[.func (.func g) #[] lb] w fun e W' => ∃ v, e = .returned v ∧ W'.ownsRow w.heap.size 3 1 v xs.length (xs.map (Value.int .i64)) ∧ Below w.heap.size w W' := by
  have C := Lib.hid (appendSeq_any g lb xs K Rd w eg hI hRd hn)
  clear hI hRd eg hn
  go_enter Tryd.func96, Tryd.ntmps96
  go_wp2_with fail
  refine C.out.mono ?_
  rintro e W ⟨v, rfl, ho, hb⟩
  have HO := Lib.hid ho; have HB := Lib.hid hb
  clear ho hb
  go_wp2_with fail
  go_ret
  exact ⟨v, rfl, HO.out, HB.out⟩

theorem els_len {N : Nat} : (els N).length ≤ 16 := by
  have l1 : ∀ f k N, (elsF f k N).length ≤ f := fun f => by
    induction f with
    | zero => intro k N; simp [elsF]
    | succ f ih => intro k N; rw [elsF]; split
                   · simp; exact ih _ _
                   · exact Nat.le_succ_of_le (ih _ _)
  exact l1 16 0 N

theorem tab_pos {w : World} (h : TabOK w) : 0 < w.heap.size := cell_lt (h 0 (by decide))
theorem eg112 : ∀ args w, (callFunc 112 args).run Tryd.prog w = .ok (.enter 112 args) w := enters_of Tryd.func112 (by kernel_rfl) rfl

theorem list_any (N : Nat) (w : World) (hN : N < 65536) (hT : TabOK w) :
    Calls Tryd.prog 66 #[.int .u16 (N : Nat)] w fun e W' => ∃ v, e = .returned v ∧ W'.ownsRow w.heap.size 3 1 v (els N).length ((els N).map (Value.int .i64)) ∧ Below w.heap.size w W' := by
  have E := Lib.hid (each_any N w)
  have hb := below_al w (.cells #[.int .u16 (N : Nat)] 100)
  have C := Lib.hid (collect_any 112 #[.pointer (some ⟨w.heap.size, 0, none⟩)] (els N) 0 (fun k => k = w.heap.size ∨ k = 0) (w.alloc (.cells #[.int .u16 (N : Nat)] 100)) eg112
    (each1_iter w.heap.size N _ (Boxed.new w _ _) hN (hT.lo hb)) (fun k hk => by have := tab_pos hT; simp; omega) (by have := @els_len N; omega))
  clear hT hb hN
  go_enter Tryd.func66, Tryd.ntmps66
  go_wp2_with fail
  refine E.out.mono ?_
  rintro e W1 ⟨rfl, rfl⟩
  go_wp2_with fail
  refine C.out.mono ?_
  rintro e W ⟨v, rfl, ho, hb⟩
  have HO := Lib.hid ho; have HB := Lib.hid hb
  clear ho hb
  go_wp2_with fail
  go_ret
  exact ⟨v, rfl, own_mono HO.out (by simp), below_go (below_al w _) HB.out⟩

end Go.Proofs.YtaloffdkadhhnaaDoor
