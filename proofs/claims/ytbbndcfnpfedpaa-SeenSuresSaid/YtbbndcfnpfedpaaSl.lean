/- Lists of pairs in memory; the contract of Collect. -/
import Derived.Test.YtbbndcfnpfedpaaSk
set_option linter.unusedVariables false
set_option linter.unusedSimpArgs false
namespace Go.Proofs.Ytbbndcfnpfedpaa
open Go.RowKit Go.Shelf

attribute [local go_sem] Oper.semAt_some

theorem info105 : (Try.prog.info? 105).map (fun i => (i.zero, i.size, i.bytes)) = some (some (.agg #[.int .i64 0, .int .i64 0]), 2, 16) := by kernel_rfl

def p2C (p : Int × Int) : List Value := [.int .i64 p.1, .int .i64 p.2]
def p2Cells (L : List (Int × Int)) : List Value := L.flatMap p2C
theorem p2Cells_snoc (L : List (Int × Int)) (x : Int × Int) : p2Cells (L ++ [x]) = p2Cells L ++ p2C x := by unfold p2Cells; simp
theorem p2Cells_at : ∀ (L : List (Int × Int)) (i : Nat) (b : Int × Int), L[i]? = some b → (p2Cells L)[i * 2]? = some (.int .i64 b.1) ∧ (p2Cells L)[i * 2 + 1]? = some (.int .i64 b.2)
  | x :: L, 0, b, h => by simp at h; subst h; exact ⟨rfl, rfl⟩
  | x :: L, i + 1, b, h => by
    have := p2Cells_at L i b (by simpa using h)
    have e : p2Cells (x :: L) = .int .i64 x.1 :: .int .i64 x.2 :: p2Cells L := rfl
    rw [e, show (i + 1) * 2 = i * 2 + 1 + 1 by omega]
    exact this
/-- Pairs of numbers lie in a slice. -/
def P2At (w : World) (a : Option Addr) (L : List (Int × Int)) : Prop := ∀ (i : Nat) (x : Int × Int), L[i]? = some x → ∃ (g o : Nat), a = some ⟨g, o, none⟩ ∧ w.cell? ⟨g, o + i * 2, none⟩ = some (.int .i64 x.1) ∧ w.cell? ⟨g, o + i * 2 + 1, none⟩ = some (.int .i64 x.2)
theorem P2At.lo {w W : World} {a : Option Addr} {L : List (Int × Int)} (h : P2At w a L) (hb : Below w.heap.size w W) : P2At W a L := by
  intro i x hx
  obtain ⟨g, o, e, h1, h2⟩ := h i x hx
  exact ⟨g, o, e, cell_lo hb h1, cell_lo hb h2⟩
theorem P2At.alt {w W : World} {a : Option Addr} {L : List (Int × Int)} {p : Nat → Prop} (h : P2At w a L) (hb : Alt p w W) (hp : ∀ g o, a = some ⟨g, o, none⟩ → ¬ p g) : P2At W a L := by
  intro i x hx
  obtain ⟨g, o, e, h1, h2⟩ := h i x hx
  exact ⟨g, o, e, alt_cell hb h1 (hp g o e), alt_cell hb h2 (hp g o e)⟩
theorem P2At.nil (w : World) (a : Option Addr) : P2At w a [] := fun i x h => by simp at h
theorem own_p2 {W : World} {base : Nat} {t : TypeId} {v : Value} {L : List (Int × Int)} (h : W.ownsRow base t 2 v L.length (p2Cells L)) : ∃ a c, v = .slice a L.length c ∧ P2At W a L ∧ ∀ g o, a = some ⟨g, o, none⟩ → base ≤ g ∧ g < W.heap.size := by
  by_cases h0 : 0 < L.length
  · obtain ⟨g, cap, rfl, hb, hl⟩ := h.form h0
    refine ⟨some ⟨g, 0, none⟩, cap, rfl, ?_, fun g' o e => by cases e; exact ⟨hb, hl⟩⟩
    intro i l hi
    obtain ⟨k1, k2⟩ := p2Cells_at L i l hi
    have hc : ∀ j u, (p2Cells L)[j]? = some u → W.cell? ⟨g, j, none⟩ = some u := fun j u hj => (h.cellAt j (by have := (List.getElem?_eq_some_iff.1 hj).1; have := h.1; omega)).trans hj
    exact ⟨g, 0, rfl, by rw [Nat.zero_add]; exact hc _ _ k1, by rw [Nat.zero_add]; exact hc _ _ k2⟩
  · have : L = [] := List.eq_nil_of_length_eq_zero (by omega)
    subst this
    rcases h.2 with ⟨rfl, _⟩ | ⟨g, cap, cur, rfl, hb, hg, _⟩
    · exact ⟨none, 0, rfl, fun i l h => by simp at h, fun g o e => by cases e⟩
    · refine ⟨some ⟨g, 0, none⟩, cap, rfl, fun i l h => by simp at h, fun g' o e => by cases e; exact ⟨hb, (Array.getElem?_eq_some_iff.1 hg).1⟩⟩

/-- 'out = append(out, ..)': the variable's box, and the row. -/
theorem boxed_app {W w1 : World} {base B : Nat} {t e : TypeId} {size : Nat} {v v' : Value} {k m : Nat} {xs ys : List Value} {tmp : Obj}
    (hv : Boxed W B t v) (hte : t ≠ e) (hrow : W.ownsRow base e size v k xs) (hown' : w1.ownsRow base e size v' m ys) (hgrow : (W.alloc tmp).grownBy w1 v.ownBlock) :
    Boxed w1 B t v ∧ Boxed (w1.setCell ⟨B, 0, none⟩ v') B t v' ∧ (w1.setCell ⟨B, 0, none⟩ v').ownsRow base e size v' m ys ∧ Alt (fun k => k = B ∨ base ≤ k) W (w1.setCell ⟨B, 0, none⟩ v') := by
  have hv1 : Boxed w1 B t v := (hv.alloc tmp).kept hgrow (hv.not_row hte hrow)
  refine ⟨hv1, hv1.set v', hown'.kept (grownBy_setCell' w1 B v') (.inr (hv1.not_row hte hown').symm), ?_⟩
  exact ((((Alt.refl _ W).alloc tmp).grown hgrow (fun k hk => .inr (own_base hrow hk))).setCell (q := ⟨B, 0, none⟩) (.inl rfl) v')

theorem IterA.later {α : Type} {P : Program} {g : Nat} {lb : Array Value} {encs : α → Array Value} {xs : List α} {K : Nat} {Rd : Nat → Prop} {w w1 : World} (h : IterA P g lb encs xs K Rd w) (hA : Alt (fun k => ¬ Rd k) w w1) : IterA P g lb encs xs K Rd w1 :=
  fun l J Jx W hW => h l J Jx W (hA.trans hW)

set_option maxRecDepth 100000 in
set_option maxHeartbeats 8000000 in
theorem appSeqR_any (lb : Array Value) (xs : List (Int × Int)) (K : Nat) (Rd : Nat → Prop) (w : World)
    (hI : IterA Try.prog 90 lb (fun p : Int × Int => #[rVal p]) xs K Rd w) (hRd : ∀ k, Rd k → k < w.heap.size) (hn : xs.length ≤ 1000) :
    Calls Try.prog 87 #[.slice none 0 0, .func (.func 90) #[] lb] w fun e W' => ∃ v, e = .returned v ∧ W'.ownsRow w.heap.size 105 2 v xs.length (p2Cells xs) ∧ Below w.heap.size w W' := by
  obtain ⟨i0, hi, hz0, hz1, hz2⟩ := info_parts info105
  refine (callsIn_wide (n := 0)).1 ?_
  refine callsIn_of_wp_marks Try.func87 rfl trivial ?_ rfl
  simp only [Try.ntmps87, List.size_toArray, List.length_cons, List.length_nil, Nat.reduceAdd, Nat.reduceSub, Array.replicate_succ, Array.replicate_zero, List.push_toArray, List.append_toArray, List.nil_append, List.cons_append]
  gi_wp2
  have bO := Boxed.new w 100 (.slice none 0 0)
  have A0 : Alt (fun k => w.heap.size ≤ k) w (w.alloc (.cells #[.slice none 0 0] 100)) := (Alt.refl _ _).alloc _
  have I0 := hI.later ((Alt.refl (fun k => ¬ Rd k) w).alloc (.cells #[.slice none 0 0] 100))
  have hsz : (w.alloc (.cells #[.slice none 0 0] 100)).heap.size = w.heap.size + 1 := by simp
  generalize w.alloc (.cells #[.slice none 0 0] 100) = W0 at *
  refine wp_iterA (gf := 90) (lb := lb) rfl eg90 I0 (fun k h => by have := hRd k h; omega) (fun _ => rfl)
    (fun k => w.heap.size ≤ k ∧ ¬ Rng W0.heap.size (2 + K) k) (fun k h => ⟨fun e => by have := hRd k e; omega, h.2⟩)
    (fun pre W => (∃ v, Boxed W w.heap.size 100 v ∧ W.ownsRow (W0.heap.size + (2 + K)) 105 2 v pre.length (p2Cells pre)) ∧ Alt (fun k => w.heap.size ≤ k) w W)
    (fun pre x a1 W => ((∃ v, Boxed W w.heap.size 100 v ∧ W.ownsRow (W0.heap.size + (2 + K)) 105 2 v pre.length (p2Cells pre)) ∧ Alt (fun k => w.heap.size ≤ k) w W) ∧ ∃ b5, W0.heap.size + (2 + K) ≤ b5 ∧ Blk W b5 #[.int .i64 x.1, .int .i64 x.2] 105 ∧ a1 = { tmps := #[.slice none 0 0, .func (.func 90) #[] lb, .pointer (some ⟨w.heap.size, 0, none⟩), undef, .slice none 0 0, .pointer (some ⟨b5, 0, none⟩), .func (.func 90) #[] lb, .agg #[.int .i64 x.1, .int .i64 x.2], undef, undef, undef, undef, undef], defers := [] })
    (fun _ _ _ => False)
    (fun pre A B h hAB => ?stI) (fun pre x a A B h hAB => ?stM) (fun _ _ _ _ h _ => h) ⟨⟨_, bO, World.ownsRow_nil _ _ _ _⟩, A0⟩ ?assign ?body ?done ?stop
  case stI =>
    obtain ⟨⟨v, hv, hr⟩, hA⟩ := h
    exact ⟨⟨v, Boxed.alt hv hAB (fun e => by unfold Rng at e; omega), ownsRow_alt hr hAB (fun g hg e => by unfold Rng at e; omega)⟩, hA.trans (hAB.mono fun k _ e => by unfold Rng at e; omega)⟩
  case stM =>
    obtain ⟨⟨⟨v, hv, hr⟩, hA⟩, b5, hb5, k5, e⟩ := h
    exact ⟨⟨⟨v, Boxed.alt hv hAB (fun e => by unfold Rng at e; omega), ownsRow_alt hr hAB (fun g hg e => by unfold Rng at e; omega)⟩, hA.trans (hAB.mono fun k _ e => by unfold Rng at e; omega)⟩, b5, hb5, Blk.alt k5 hAB (fun e => by unfold Rng at e; omega), e⟩
  case assign =>
    intro l pre x post A hx hz hl hr h
    have HX := Lib.hid hz
    have HH := Lib.hid h
    unfold rVal
    clear hx hz hl hr h
    gi_wp2
    obtain ⟨⟨v, hv, hrow⟩, hA⟩ := HH.out
    exact ⟨(Alt.refl _ _).alloc _, ⟨⟨v, Boxed.alt (p := fun _ => False) hv ((Alt.refl _ _).alloc _) id, ownsRow_alt (p := fun _ => False) hrow ((Alt.refl _ _).alloc _) (fun _ _ => id)⟩, hA.alloc _⟩, A.heap.size, HX.out, Blk.new _ _ _, rfl⟩
  case body =>
    rintro l pre x post a1 A hx hz hl hr ⟨⟨⟨v, hv, hrow⟩, hA⟩, b5, hb5, k5, rfl⟩
    have hc := hv.cell
    have hpl : pre.length + 1 ≤ 1000 := by rw [hx] at hn; simp at hn; omega
    have hBS : w.heap.size ≤ A.heap.size := hA.size
    have c1 := k5.cell 0 (show _ = some (Value.int .i64 x.1) from rfl)
    have c2 := k5.cell 1 (show _ = some (Value.int .i64 x.2) from rfl)
    obtain ⟨p, q⟩ := x
    simp only at c1 c2
    have HPS := Lib.hid (p2Cells_snoc pre (p, q))
    gi_wp2_with (gi_at_builtin; refine wpListIn_append_own _ rfl _ _ 100 rfl (W0.heap.size + (2 + K)) 105 i0 _ 2 16 Try.underlying100 hi hz0 hz1 hz2 rfl (by decide) _ _ _ rfl (hrow.alloc _) ⟨A.heap.size, 0, none⟩ 1 1 (p2C (p, q)) rfl rfl (World.news_of_block (cs := #[.int .i64 p, .int .i64 q]) (t := 105) (fr := (0, 0)) (heap_alloc_new A _)) (by simp [Value.oneCell', p2C]) (by unfold maxLen; omega) (by omega) (by simp; omega) ?_; intro v' w1 hown' hgrow _; obtain ⟨g', cap', rfl, _, _⟩ := hown'.form (by omega); obtain ⟨hv1, hv2, hr2, ha2⟩ := boxed_app hv (by decide) hrow hown' hgrow; have hc1 := hv1.cell; have hf1 := hv1.frozen)
    exact ⟨ha2.mono fun k _ e => by unfold Rng; omega, ⟨_, hv2, by rw [HPS.out, List.length_append]; first | exact hr2 | (rw [hsz] at hr2; exact hr2)⟩, hA.trans (ha2.mono fun k _ e => by omega)⟩
  case done =>
    rintro B ⟨⟨v, hv, hrow⟩, hA⟩ hz hK
    have hc := hv.cell
    gi_wp2
    refine leave_ret hK (results_tmp rfl _ _ _) ⟨v, rfl, ?_, ?_⟩
    · exact own_mono (ownsRow_alt hrow (Alt.put (p := fun k => k = W0.heap.size) rfl _) (fun g hg e => by omega)) (by omega)
    · exact (hA.putObj (l := W0.heap.size) (by show w.heap.size ≤ W0.heap.size; omega) _).below (Nat.le_refl _) (fun k h => h)
  case stop =>
    intro c pre x post B hx h
    exact h.elim

theorem collect_any (lb : Array Value) (xs : List (Int × Int)) (K : Nat) (Rd : Nat → Prop) (w : World)
    (hI : IterA Try.prog 90 lb (fun p : Int × Int => #[rVal p]) xs K Rd w) (hRd : ∀ k, Rd k → k < w.heap.size) (hn : xs.length ≤ 1000) :
    Calls Try.prog 77 #[.func (.func 90) #[] lb] w fun e W' => ∃ v, e = .returned v ∧ W'.ownsRow w.heap.size 105 2 v xs.length (p2Cells xs) ∧ Below w.heap.size w W' := by
  have C := Lib.hid (appSeqR_any lb xs K Rd w hI hRd hn)
  clear hI hRd hn
  go_enter Try.func77, Try.ntmps77
  go_wp2_with fail
  refine C.out.mono ?_
  rintro e W ⟨v, rfl, ho, hb⟩
  have HO := Lib.hid ho; have HB := Lib.hid hb
  clear ho hb
  go_wp2_with fail
  go_ret
  exact ⟨v, rfl, HO.out, HB.out⟩

theorem rolls_len : rolls.length = 66 := by kernel_rfl
theorem games_len (ws : List Wd) (s : Int → Bool) (fr : Int) : (gamesL ws s fr).length ≤ 66 := by
  have := List.length_filter_le (fun p : Int × Int => fitsB ws s fr p.1 p.2) rolls
  rw [rolls_len] at this
  exact this

/-- What is read of the games of a frame: a list in memory. -/
def RowR (w : World) (e : Ending) (gs : List (Int × Int)) (w' : World) : Prop := ∃ a c, e = .returned (.slice a gs.length c) ∧ P2At w' a gs ∧ (∀ g o, a = some ⟨g, o, none⟩ → w.heap.size ≤ g ∧ g < w'.heap.size) ∧ Below w.heap.size w w'
theorem collectR_any (l : Lan) (s : Int → Bool) (fr : Int) (bL bF : Nat) (w : World) (hO : ONc l s fr bL bF w) (hT : ∀ x ∈ l.ws, 0 ≤ x.te ∧ x.te ≤ 3) (hn : l.ws.length ≤ 1000) (hga : ∀ g o, l.wa = some ⟨g, o, none⟩ → g < w.heap.size) :
    Calls Try.prog 77 #[.func (.func 90) #[] #[.pointer (some ⟨bL, 0, none⟩), .pointer (some ⟨bF, 0, none⟩)]] w fun e w' => RowR w e (gamesL l.ws s fr) w' := by
  have hRd : ∀ k, RdO l bL bF k → k < w.heap.size := fun k h => by
    rcases h with rfl | rfl | ⟨o, e⟩
    · exact hO.li.lt
    · exact hO.is.lt
    · exact hga _ _ e
  refine (collect_any _ _ _ _ w (only1_iter l s fr bL bF w hO hT hn hga) hRd (by have := games_len l.ws s fr; omega)).mono ?_
  rintro e W ⟨v, rfl, ho, hb⟩
  obtain ⟨a, c, rfl, h1, h2⟩ := own_p2 ho
  exact ⟨a, c, rfl, h1, h2, hb⟩

end Go.Proofs.Ytbbndcfnpfedpaa
