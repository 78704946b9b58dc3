/- The contract of Ranges. -/
import Derived.Test.YtbbndcfnpfedpaaSp
set_option linter.unusedVariables false
set_option linter.unusedSimpArgs false
namespace Go.Proofs.Ytbbndcfnpfedpaa
open Go.RowKit Go.Shelf

attribute [local go_sem] Oper.semAt_some

theorem info41 : (Try.prog.info? 41).map (fun i => (i.zero, i.size, i.bytes)) = some (some (.agg #[.int .i64 0, .int .i64 0]), 2, 16) := by kernel_rfl

def rngsL (l : Lan) (ts : List Int) : List (Int × Int) := (rngL (gofL l ts)).map fun x => x.2
def fellL (gs : List (Int × Int)) : Int × Int := spanL (gs.map fun p => 10 - p.2)
def cntStep (c : Int × Int) (gs : List (Int × Int)) : Int × Int := (c.1 + (fellL gs).1, c.2 + (fellL gs).2)
def cntL (L : List (List (Int × Int))) : Int × Int := L.foldl cntStep (0, 0)
theorem cntL_snoc (L : List (List (Int × Int))) (gs : List (Int × Int)) : cntL (L ++ [gs]) = cntStep (cntL L) gs := by unfold cntL; rw [List.foldl_append]; rfl

theorem spanL_in {ns : List Int} (h : ∀ n ∈ ns, 0 ≤ n ∧ n ≤ 10) : 0 ≤ (spanL ns).1 ∧ (spanL ns).1 ≤ 10 ∧ 0 ≤ (spanL ns).2 ∧ (spanL ns).2 ≤ 10 := by
  cases ns with
  | nil => simp [spanL]
  | cons n ns =>
    have h0 := h n (by simp)
    refine fold_inv (fun r : Int × Int => 0 ≤ r.1 ∧ r.1 ≤ 10 ∧ 0 ≤ r.2 ∧ r.2 ≤ 10) spanStep ns (n, n) ⟨h0.1, h0.2, h0.1, h0.2⟩ fun r x hx hr => ?_
    have h1 := h x (by simp [hx])
    unfold spanStep
    simp only
    omega
theorem fellL_in {gs : List (Int × Int)} (h : ∀ p ∈ gs, 0 ≤ p.2 ∧ p.2 ≤ 10) : 0 ≤ (fellL gs).1 ∧ (fellL gs).1 ≤ 10 ∧ 0 ≤ (fellL gs).2 ∧ (fellL gs).2 ≤ 10 := by
  refine spanL_in fun n hn => ?_
  obtain ⟨p, hp, rfl⟩ := List.mem_map.1 hn
  have := h p hp
  omega
theorem cntL_in {L : List (List (Int × Int))} (h : ∀ gs ∈ L, ∀ p ∈ gs, 0 ≤ p.2 ∧ p.2 ≤ 10) : 0 ≤ (cntL L).1 ∧ (cntL L).1 ≤ 10 * (L.length : Int) ∧ 0 ≤ (cntL L).2 ∧ (cntL L).2 ≤ 10 * (L.length : Int) := by
  have key : ∀ (L : List (List (Int × Int))) (c : Int × Int) (k : Int), (∀ gs ∈ L, ∀ p ∈ gs, 0 ≤ p.2 ∧ p.2 ≤ 10) → (0 ≤ c.1 ∧ c.1 ≤ k ∧ 0 ≤ c.2 ∧ c.2 ≤ k) → 0 ≤ (L.foldl cntStep c).1 ∧ (L.foldl cntStep c).1 ≤ k + 10 * (L.length : Int) ∧ 0 ≤ (L.foldl cntStep c).2 ∧ (L.foldl cntStep c).2 ≤ k + 10 * (L.length : Int) := by
    intro L
    induction L with
    | nil => intro c k _ hc; simpa using hc
    | cons g L ih =>
      intro c k h hc
      have hg := fellL_in (h g (by simp))
      have := ih (cntStep c g) (k + 10) (fun gs hgs => h gs (by simp [hgs])) (by unfold cntStep; simp only; omega)
      rw [List.length_cons]
      simp only [List.foldl_cons]
      omega
  have := key L (0, 0) 0 h (by simp)
  simpa [cntL] using this

/-- What Ranges stands on: N + 1 the ranges of places, N + 2 that of the count. -/
structure RG (L : List (List (Int × Int))) (aF : Option Addr) (lo up base : Nat) (w W : World) (v : Value) (xs : List (Int × Int)) (cn : Int × Int) : Prop where
  b4 : Boxed W (w.heap.size + 1) 39 v
  ow : W.ownsRow base 41 2 v xs.length (p2Cells xs)
  b5 : Blk W (w.heap.size + 1 + 1) #[.int .i64 cn.1, .int .i64 cn.2] 41
  fr : FrAt lo up W aF L
  al : Alt (fun k => w.heap.size ≤ k) w W
theorem RG.far {L : List (List (Int × Int))} {aF : Option Addr} {lo up base : Nat} {w W W' : World} {v : Value} {xs : List (Int × Int)} {cn : Int × Int} {p : Nat → Prop} (h : RG L aF lo up base w W v xs cn) (ha : Alt p W W')
    (h1 : ¬ p (w.heap.size + 1)) (h2 : ¬ p (w.heap.size + 1 + 1)) (h3 : ∀ k, base ≤ k → ¬ p k) (h4 : ∀ k, lo ≤ k → k < up → ¬ p k) (h5 : ∀ k, k < W.heap.size → p k → w.heap.size ≤ k) : RG L aF lo up base w W' v xs cn :=
  ⟨Boxed.alt h.b4 ha h1, ownsRow_alt h.ow ha h3, Blk.alt h.b5 ha h2, h.fr.alt ha h4, h.al.trans (ha.mono h5)⟩
theorem RG.lo {L : List (List (Int × Int))} {aF : Option Addr} {lo up base : Nat} {w W W' : World} {v : Value} {xs : List (Int × Int)} {cn : Int × Int} (h : RG L aF lo up base w W v xs cn) (hb : Below W.heap.size W W') : RG L aF lo up base w W' v xs cn :=
  h.far (p := fun _ => False) (Alt.of_below hb (fun k hk e => by omega)) id id (fun _ _ => id) (fun _ _ _ => id) (fun _ _ h => h.elim)

theorem RG.push {L : List (List (Int × Int))} {aF : Option Addr} {lo up base : Nat} {w W w1 : World} {v v' : Value} {xs ys : List (Int × Int)} {y : Int × Int} {cn : Int × Int} {tmp : Obj} (h : RG L aF lo up base w W v xs cn)
    (h1 : w.heap.size + 3 ≤ lo) (h2 : lo ≤ up) (h3 : up ≤ base) (hown' : w1.ownsRow base 41 2 v' (xs.length + 1) (p2Cells xs ++ p2C y)) (hgrow : (W.alloc tmp).grownBy w1 v.ownBlock) (hys : ys = xs ++ [y]) :
    Boxed w1 (w.heap.size + 1) 39 v ∧ RG L aF lo up base w (w1.setCell ⟨w.heap.size + 1, 0, none⟩ v') v' ys cn ∧ Alt (fun k => k = w.heap.size + 1 ∨ base ≤ k) W (w1.setCell ⟨w.heap.size + 1, 0, none⟩ v') := by
  obtain ⟨g1, g2, g3, g4⟩ := boxed_app h.b4 (by decide) h.ow hown' hgrow
  subst hys
  refine ⟨g1, ⟨g2, ?_, Blk.alt h.b5 g4 (by omega), h.fr.alt g4 (fun k a b c => by omega), h.al.trans (g4.mono fun k _ e => by omega)⟩, g4⟩
  rw [p2Cells_snoc, List.length_append]
  exact g3
theorem RG.cnt {L : List (List (Int × Int))} {aF : Option Addr} {lo up base : Nat} {w W : World} {v : Value} {xs : List (Int × Int)} {cn : Int × Int} (h : RG L aF lo up base w W v xs cn) (h1 : w.heap.size + 3 ≤ lo) (h2 : lo ≤ up) (h3 : up ≤ base) (x y : Int) :
    RG L aF lo up base w ((W.setCell ⟨w.heap.size + 1 + 1, 0, none⟩ (.int .i64 x)).setCell ⟨w.heap.size + 1 + 1, 1, none⟩ (.int .i64 y)) v xs (x, y) := by
  obtain ⟨g1, g2⟩ := h.b5.put2 (.int .i64 x) (.int .i64 y)
  exact ⟨Boxed.alt h.b4 g2 (by omega), ownsRow_alt h.ow g2 (fun k hk => by omega), g1, h.fr.alt g2 (fun k a b c => by omega), h.al.trans (g2.mono fun k _ e => by omega)⟩

/-- To store what lies there is to do nothing. -/
theorem setCell_eq {W : World} {b i : Nat} {cs : Array Value} {t : TypeId} {v : Value} (h : Blk W b cs t) (hv : cs[i]? = some v) : W.setCell ⟨b, i, none⟩ v = W := by
  have hlt := h.lt
  have hb := (Array.getElem?_eq_some_iff.1 (show W.heap[b]? = _ from h)).2
  have e : (W.setCell ⟨b, i, none⟩ v).heap = W.heap := by
    apply Array.ext_getElem?
    intro j
    by_cases hj : j = b
    · subst hj
      have h1 := Blk.setAt h i v
      have e2 : cs.setIfInBounds i v = cs := by
        apply Array.ext_getElem?
        intro m
        rw [Array.getElem?_setIfInBounds]
        split
        · next hm => subst hm; split
                     · exact hv.symm
                     · next hm2 => rw [Array.getElem?_eq_none (by omega)]
        · rfl
      rw [e2] at h1
      exact (show _ = some (Obj.cells cs t (0, 0)) from h1).trans (show W.heap[j]? = some (Obj.cells cs t (0, 0)) from h).symm
    · exact Below.heap_setCell _ _ _ _ hj
  calc W.setCell ⟨b, i, none⟩ v = { W with heap := (W.setCell ⟨b, i, none⟩ v).heap } := rfl
    _ = W := by rw [e]

theorem rngL_len (L : List (List (Int × Int))) : (rngL L).length = 2 * L.length := by
  have key : ∀ n, ((List.range n).flatMap (rngF L)).length = 2 * n := fun n => by
    induction n with
    | zero => rfl
    | succ n ih => rw [flat_take, List.length_append, ih]; rfl
  exact key _

def RngR (l : Lan) (ts : List Int) (w : World) (e : Ending) (w' : World) : Prop := ∃ a c, e = .returned (.tuple #[.slice a (rngsL l ts).length c, .agg #[.int .i64 (cntL (gofL l ts)).1, .int .i64 (cntL (gofL l ts)).2], .int .i64 (gofE l ts)]) ∧ P2At w' a (rngsL l ts) ∧ (∀ g o, a = some ⟨g, o, none⟩ → w.heap.size ≤ g ∧ g < w'.heap.size) ∧ Below w.heap.size w w'

set_option maxRecDepth 100000 in
set_option maxHeartbeats 8000000 in
theorem rangesP_any (l : Lan) (ts : List Int) (a : Option Addr) (c : Nat) (w : World) (hL : WdsAt w l.wa l.ws) (hX : IntsAt w a ts) (hn : l.ws.length ≤ 1000) (hm : ts.length ≤ 1000) (hga : ∀ g o, l.wa = some ⟨g, o, none⟩ → g < w.heap.size) :
    Calls Try.prog 26 #[l.val, .slice a ts.length c] w (RngR l ts w) := by
  have GO := Lib.hid (fun W (hb : Below w.heap.size w W) => gamesOf_any l ts a c W (hL.lo hb) (hX.lo hb) hn hm (fun g o e => Nat.lt_of_lt_of_le (hga g o e) hb.size))
  have HRL : Hid (rngsL l ts = (rngL (gofL l ts)).map fun x => x.2) := Lib.hid rfl
  have HLe : Hid (∀ gs ∈ gofL l ts, gs.length ≤ 66) := Lib.hid fun gs h => (gofL_mem h).1
  have HLq : Hid (∀ gs ∈ gofL l ts, ∀ p ∈ gs, 0 ≤ p.2 ∧ p.2 ≤ 10) := Lib.hid fun gs h p hp => by have := (gofL_mem h).2 p hp; omega
  have HL5 := Lib.hid (gofL_len l ts)
  have HNO : Hid (gofE l ts ≠ 0 → gofL l ts = []) := Lib.hid gofL_no
  have R0 := Lib.hid (fun lo up base (wx : World) (h : wx = ((w.alloc (.cells #[.int .i64 l.fs, .slice l.wa l.ws.length l.wc] 32)).alloc (.cells #[.slice none 0 0] 39)).alloc (.cells #[.int .i64 0, .int .i64 0] 41)) => (show RG [] none lo up base w wx (.slice none 0 0) [] (0, 0) from by
    subst h
    refine ⟨?_, ⟨rfl, .inl ⟨rfl, rfl⟩⟩, ?_, fun i gs h => by simp at h, (((Alt.refl _ _).alloc _).alloc _).alloc _⟩
    · have := Boxed.alt (p := fun _ => False) (Boxed.new (w.alloc (.cells #[.int .i64 l.fs, .slice l.wa l.ws.length l.wc] 32)) 39 (.slice none 0 0)) ((Alt.refl _ _).alloc (.cells #[.int .i64 0, .int .i64 0] 41)) id
      rwa [World.size_alloc] at this
    · have := Blk.new ((w.alloc (.cells #[.int .i64 l.fs, .slice l.wa l.ws.length l.wc] 32)).alloc (.cells #[.slice none 0 0] 39)) #[.int .i64 0, .int .i64 0] 41
      rwa [World.size_alloc, World.size_alloc] at this))
  unfold RngR
  unfold GofR at GO
  generalize rngsL l ts = RL at *
  generalize gofE l ts = E at *
  generalize gofL l ts = L at *
  unfold Lan.val at *
  clear hL hX hn hm hga
  refine (callsIn_wide (n := 0)).1 ?_
  refine callsIn_of_wp_marks Try.func26 rfl trivial ?_ rfl
  simp only [Try.ntmps26, List.size_toArray, List.length_cons, List.length_nil, Nat.reduceAdd, Nat.reduceSub, Array.replicate_succ, Array.replicate_zero, List.push_toArray, List.append_toArray, List.nil_append, List.cons_append]
  gi_wp2
  have hz3 : (((w.alloc (.cells #[.int .i64 l.fs, .slice l.wa l.ws.length l.wc] 32)).alloc (.cells #[.slice none 0 0] 39)).alloc (.cells #[.int .i64 0, .int .i64 0] 41)).heap.size = w.heap.size + 3 := by simp
  generalize hW3 : (World.alloc (World.alloc (World.alloc _ _) _) _) = W3
  have R3 := Lib.hid (fun lo up base => R0.out lo up base W3 hW3.symm)
  have B3 := Lib.hid (show Below w.heap.size w W3 from by rw [← hW3]; exact below_al2 (below_al2 (below_al _ _) _) _)
  rw [hW3] at hz3
  have HZ3 := Lib.hid hz3
  clear hW3 R0 hz3
  refine ⟨trivial, rfl, ?_⟩
  refine (callsIn_wide (n := 0).2 (GO.out _ B3.out)).mono ?_
  rintro e w1 ⟨aL, cL, rfl, hfr, hb1⟩
  have HFR := Lib.hid hfr
  have R1 := Lib.hid (fun lo up base => (R3.out lo up base).lo hb1)
  have HZ1 := Lib.hid hb1.size
  clear hfr GO hb1
  by_cases hE : E = 0
  · subst hE
    obtain ⟨i0, hi, hy0, hy1, hy2⟩ := info_parts info41
    gi_wp2
    refine ⟨trivial, rfl, ?_⟩
    refine (callsIn_wide (n := 0).2 (ranges_any aL L.length cL w1)).mono ?_
    rintro e W0 ⟨rfl, hW0⟩
    have hz0 : W0.heap.size = w1.heap.size + 1 := by rw [hW0]; simp
    have X0 : ∀ p, Alt p w1 W0 := fun p => by rw [hW0]; exact (Alt.refl _ _).alloc _
    have FR0 := HFR.out.alt (X0 fun _ => False) (fun _ _ _ => id)
    have IT := Lib.hid (ranges1_iter L aL cL W3.heap.size w1.heap.size w1.heap.size W0 (by rw [hW0]; exact Boxed.new _ _ _) FR0 (by omega) (by have := HL5.out; omega) (fun gs h => by have := HLe.out gs h; omega))
    have RI := Lib.hid (show RG L aL W3.heap.size w1.heap.size (W0.heap.size + (2 + 0)) w W0 (.slice none 0 0) [] (0, 0) from by
      have r := (R1.out W3.heap.size w1.heap.size (W0.heap.size + (2 + 0))).far (X0 fun _ => False) id id (fun _ _ => id) (fun _ _ _ => id) (fun _ _ h => h.elim)
      exact ⟨r.b4, r.ow, r.b5, FR0, r.al⟩)
    have HZ0 := Lib.hid hz0
    clear hW0 X0 FR0 R1 R3 HFR hz0
    generalize w1.heap.size = up at *
    have H12 := Lib.hid (show w.heap.size + 3 ≤ W3.heap.size by have := HZ3.out; omega)
    clear HZ3 B3
    generalize W3.heap.size = lo at *
    obtain ⟨base, hbase⟩ : ∃ base, base = W0.heap.size + (2 + 0) := ⟨_, rfl⟩
    rw [← hbase] at RI
    have HBS := Lib.hid hbase
    have HBU := Lib.hid (show up ≤ base by have := HZ0.out; omega)
    clear hbase
    gi_wp2
    refine wp_iterT (gf := 78) (lb := #[.pointer (some ⟨up, 0, none⟩)]) rfl eg78 IT.out (fun k h => ?rd) (fun _ => rfl)
      (fun k => k = w.heap.size + 1 ∨ base ≤ k) (fun k h => ?hM)
      (fun pre A => ∃ v, RG L aL lo up base w A v (pre.map fun x => x.2) (0, 0))
      (fun pre x a1 A => (∃ v, RG L aL lo up base w A v (pre.map fun x => x.2) (0, 0)) ∧ ∃ b9, base ≤ b9 ∧ Blk A b9 #[.int .i64 x.2.1, .int .i64 x.2.2] 41 ∧ a1 = { tmps := #[.agg #[.int .i64 l.fs, .slice l.wa l.ws.length l.wc], .slice a ts.length c, .pointer (some ⟨w.heap.size, 0, none⟩), undef, .pointer (some ⟨w.heap.size + 1, 0, none⟩), .pointer (some ⟨w.heap.size + 1 + 1, 0, none⟩), .int .i64 0, .slice aL L.length cL, undef, .pointer (some ⟨b9, 0, none⟩), undef, undef, undef, .tuple #[.slice aL L.length cL, .int .i64 0], .agg #[.int .i64 l.fs, .slice l.wa l.ws.length l.wc], .slice a ts.length c, .tuple #[.slice aL L.length cL, .int .i64 0], .slice aL L.length cL, .int .i64 0, .int .i64 0, .bool false, undef, undef, .slice aL L.length cL, .func (.func 78) #[] #[.pointer (some ⟨up, 0, none⟩)], .agg #[.int .i64 x.1.1, .int .i64 x.1.2], .agg #[.int .i64 x.2.1, .int .i64 x.2.2], undef, undef, undef, undef, undef, undef, undef, undef, undef, undef, undef, undef, undef, undef, undef, undef, undef, undef, undef, undef, undef, undef, undef, undef, undef, undef, undef], defers := [] })
      (fun pre A B h hAB => ?stI) (fun pre x a A B h hAB => ?stM) ⟨_, RI.out⟩ ?assign ?body ?done
    case rd =>
      have := HZ0.out; have := H12.out; have := HZ1.out
      rcases h with rfl | ⟨h1, h2⟩ <;> omega
    case hM =>
      have := HZ0.out; have := H12.out; have := HZ1.out; have := HBS.out
      refine ⟨fun h2 => ?_, fun h2 => ?_⟩
      · rcases h2 with rfl | ⟨h1, h2⟩ <;> omega
      · unfold Rng at h2; omega
    case stI =>
      have := HZ0.out; have := H12.out; have := HZ1.out; have := HBS.out
      obtain ⟨v, hG⟩ := h
      exact ⟨v, hG.far hAB (fun e => by unfold Rng at e; omega) (fun e => by unfold Rng at e; omega) (fun k hk e => by unfold Rng at e; omega) (fun k h1 h2 e => by unfold Rng at e; omega) (fun k _ e => by unfold Rng at e; omega)⟩
    case stM =>
      have := HZ0.out; have := H12.out; have := HZ1.out; have := HBS.out
      obtain ⟨⟨v, hG⟩, b9, hb9, k9, e⟩ := h
      exact ⟨⟨v, hG.far hAB (fun e => by unfold Rng at e; omega) (fun e => by unfold Rng at e; omega) (fun k hk e => by unfold Rng at e; omega) (fun k h1 h2 e => by unfold Rng at e; omega) (fun k _ e => by unfold Rng at e; omega)⟩, b9, hb9, Blk.alt k9 hAB (fun e => by unfold Rng at e; omega), e⟩
    case assign =>
      intro l2 pre x post A hx hzA hl hr h
      have HX := Lib.hid (show base ≤ A.heap.size by have := HBS.out; omega)
      have HH := Lib.hid h
      unfold rgEnc
      clear hx hzA hl hr h
      gi_wp2
      obtain ⟨v, hG⟩ := HH.out
      exact ⟨(Alt.refl _ _).alloc _, ⟨v, hG.far (p := fun _ => False) ((Alt.refl _ _).alloc _) id id (fun _ _ => id) (fun _ _ _ => id) (fun _ _ h => h.elim)⟩, A.heap.size, HX.out, Blk.new _ _ _, rfl⟩
    case body =>
      rintro l2 pre x post a1 A hx hzA hl hr ⟨⟨v, hG⟩, b9, hb9, k9, rfl⟩
      have HPL := Lib.hid (show pre.length + 1 ≤ 10 by have h9 := congrArg List.length hx; rw [rngL_len] at h9; simp at h9; have := HL5.out; omega)
      have HBZ := Lib.hid (show base ≤ A.heap.size by have := HBS.out; omega)
      have c4 := hG.b4.cell
      obtain ⟨x1, p, q⟩ := x
      simp only at k9
      have c1 := k9.cell 0 (show _ = some (Value.int .i64 p) from rfl)
      have c2 := k9.cell 1 (show _ = some (Value.int .i64 q) from rfl)
      have HML := Lib.hid (show (pre.map fun x => x.2).length = pre.length by simp)
      have HMS := Lib.hid (show (pre ++ [(x1, p, q)]).map (fun x => x.2) = (pre.map fun x => x.2) ++ [(p, q)] by simp)
      generalize pre.map (fun x => x.2) = xs at *
      have PU := Lib.hid (fun w1 v' ho hg => RG.push (w1 := w1) (v' := v') (ys := xs ++ [(p, q)]) (y := (p, q)) (tmp := .cells #[.int .i64 p, .int .i64 q] 41) hG H12.out HZ1.out HBU.out ho hg rfl)
      rw [HML.out] at PU
      have OW := hG.ow
      rw [HML.out] at OW
      clear hx hzA hl hr k9 hG
      gi_wp2_with (gi_at_builtin; refine wpListIn_append_own _ rfl _ _ 39 rfl base 41 i0 _ 2 16 Try.underlying39 hi hy0 hy1 hy2 rfl (by decide) _ _ _ rfl (OW.alloc _) ⟨A.heap.size, 0, none⟩ 1 1 (p2C (p, q)) rfl rfl (World.news_of_block (cs := #[.int .i64 p, .int .i64 q]) (t := 41) (fr := (0, 0)) (heap_alloc_new A _)) (by simp [Value.oneCell', p2C]) (by unfold maxLen; have := HPL.out; omega) (by have := HPL.out; omega) (by have := HBZ.out; simp; omega) ?_; intro v' w1 hown' hgrow _; obtain ⟨g', cap', rfl, _, _⟩ := hown'.form (by omega); obtain ⟨hv1, hr2, ha2⟩ := PU.out _ _ hown' hgrow; have hc1 := hv1.cell; have hf1 := hv1.frozen)
      exact ⟨ha2, _, by rw [HMS.out]; exact hr2⟩
    case done =>
      rintro B ⟨v, hG⟩ hzB hK
      have HK := Lib.hid hK
      have HG0 := Lib.hid hG
      rw [← HRL.out] at HG0
      clear hK hG hzB
      gi_wp2
      gi_loopw [33] (fun s wx => ∃ i : Nat, i ≤ L.length ∧ s = .int .i64 (i : Int) ∧ Hid (RG L aL lo up base w wx v RL (cntL (L.take i))) ∧ Hid (wx.heap[W0.heap.size]? = some (.deferred (some [])))) (fun s wx => ((L.length : Int) - intOf s).toNat)
      case atStart => exact ⟨0, by omega, rfl, HG0, HK⟩
      case round =>
        obtain ⟨i, hi2, rfl, hR, hD⟩ := hrel
        clear HG0 HK
        by_cases hlt : i < L.length
        · have hz0 : (0 : Int) ≤ (i : Int) := by omega
          have hz1 : (i : Int) < (L.length : Int) := by omega
          obtain ⟨gs, hgs⟩ : ∃ gs, L[i]? = some gs := ⟨L[i]'hlt, List.getElem?_eq_getElem _⟩
          obtain ⟨g, o, a', c', rfl, hgb, k1, k2, k3⟩ := hR.out.fr i gs hgs
          have hmem := List.mem_of_getElem? hgs
          have BT := Lib.hid (callsIn_wide (n := 0).2 (between_59_any gs a' c' wr k2 (by have := HLe.out gs hmem; omega) (HLq.out gs hmem)))
          have HCN := Lib.hid (show cntL (L.take (i + 1)) = ((cntL (L.take i)).1 + (fellL gs).1, (cntL (L.take i)).2 + (fellL gs).2) by rw [take_next hgs, cntL_snoc]; rfl)
          have hF := fellL_in (HLq.out gs hmem)
          have hC := cntL_in (L := L.take i) (fun gs h => HLq.out gs (List.mem_of_mem_take h))
          have hln : ((L.take i).length : Int) ≤ 5 := by have := HL5.out; rw [List.length_take]; omega
          unfold fellL at HCN hF
          generalize spanL (gs.map fun p => 10 - p.2) = f at *
          generalize cntL (L.take i) = cn at *
          have e1 : IntKind.i64.wrap (cn.1 + f.1) = cn.1 + f.1 := IntWalk.i64_in _ (by omega)
          have e2 : IntKind.i64.wrap (cn.2 + f.2) = cn.2 + f.2 := IntWalk.i64_in _ (by omega)
          have e3 : IntKind.i64.wrap ((i : Int) + 1) = (i : Int) + 1 := IntWalk.i64_in _ (by have := HL5.out; omega)
          have HI := Lib.hid hlt
          clear hgs hgb k2 k3 hmem hF hC hln hlt hi2
          gi_wp2
          refine ⟨trivial, rfl, ?_⟩
          refine BT.out.mono ?_
          rintro e w4 ⟨rfl, hb4⟩
          have AL := Lib.hid (show ∀ p, Alt p wr (w4.alloc (.cells #[.int .i64 f.1, .int .i64 f.2] 41)) from fun p => (Alt.of_below hb4 (fun k hk e => by omega)).alloc _)
          have RN := Lib.hid (hR.out.far (AL.out fun _ => False) id id (fun _ _ => id) (fun _ _ _ => id) (fun _ _ h => h.elim))
          have DN := Lib.hid ((AL.out fun _ => False).obj hD.out id)
          have SZ4 := Lib.hid (show w.heap.size + 3 ≤ w4.heap.size by have := H12.out; have := HZ1.out; have h9 := hR.out.al.size; have h8 := hR.out.b5.lt; have := hb4.size; omega)
          have KF := Lib.hid (Blk.new w4 #[.int .i64 f.1, .int .i64 f.2] 41)
          have r0 := RN.out.b5.cell 0 (show _ = some (Value.int .i64 cn.1) from rfl)
          have r1 := RN.out.b5.cell 1 (show _ = some (Value.int .i64 cn.2) from rfl)
          have f0 := RN.out.b5.fr 0
          have f1 := RN.out.b5.fr 1
          have q0 := KF.out.cell 0 (show _ = some (Value.int .i64 f.1) from rfl)
          have q1 := KF.out.cell 1 (show _ = some (Value.int .i64 f.2) from rfl)
          have NE := Lib.hid (show w4.heap.size ≠ w.heap.size + 1 + 1 by have := SZ4.out; omega)
          have ne := NE.out
          have RC := Lib.hid (RN.out.cnt H12.out HZ1.out HBU.out (cn.1 + f.1) (cn.2 + f.2))
          have DC := Lib.hid (((Alt.refl (fun k => k = w.heap.size + 1 + 1) (w4.alloc (.cells #[.int .i64 f.1, .int .i64 f.2] 41))).setCell (q := ⟨w.heap.size + 1 + 1, 0, none⟩) rfl (.int .i64 (cn.1 + f.1))).setCell (q := ⟨w.heap.size + 1 + 1, 1, none⟩) rfl (.int .i64 (cn.2 + f.2)) |>.obj DN.out (by have := HZ0.out; have := H12.out; have := HZ1.out; omega))
          clear hb4 k1 hR hD BT
          gi_wp2
          generalize World.setCell _ _ _ = X at RC DC ⊢
          go_roundw
          case rel => exact ⟨i + 1, by have := HI.out; omega, by go_num, by rw [HCN.out]; exact RC, DC⟩
          case measure => have := HI.out; simp [intOf]; omega
        · have hz1 : ¬ (i : Int) < (L.length : Int) := by omega
          have hR2 := hR.out
          rw [List.take_of_length_le (by omega)] at hR2
          have RD := hR2.far (p := fun _ => False) (Alt.refl _ _).drew id id (fun _ _ => id) (fun _ _ _ => id) (fun _ _ h => h.elim)
          obtain ⟨aR, cR, rfl, hP, hB⟩ := own_p2 RD.ow
          have HP2 := Lib.hid hP
          have HB2 := Lib.hid hB
          have RDH := Lib.hid RD
          have hmx : Try.prog.follows .mixedOrders = true := by kernel_rfl
          have DD := Lib.hid ((Alt.refl (fun _ => False) wr).drew.obj hD.out id)
          have c4 := RD.b4.cell
          have f4 := RD.b4.frozen
          have c50 := RD.b5.cell 0 (show _ = some (Value.int .i64 (cntL L).1) from rfl)
          have c51 := RD.b5.cell 1 (show _ = some (Value.int .i64 (cntL L).2) from rfl)
          have f50 := RD.b5.fr 0
          have f51 := RD.b5.fr 1
          have s4 : wr.drew.setCell ⟨w.heap.size + 1, 0, none⟩ (.slice aR RL.length cR) = wr.drew := setCell_eq (cs := #[.slice aR RL.length cR]) RD.b4 rfl
          have s50 : wr.drew.setCell ⟨w.heap.size + 1 + 1, 0, none⟩ (.int .i64 (cntL L).1) = wr.drew := setCell_eq RD.b5 rfl
          have s51 : wr.drew.setCell ⟨w.heap.size + 1 + 1, 1, none⟩ (.int .i64 (cntL L).2) = wr.drew := setCell_eq RD.b5 rfl
          clear hR hR2 RD hlt hi2 hD hP hB
          gi_wp2
          first
          | (gi_region_with_o (fail))
          | fail "region"
          all_goals
            gi_wp2
            have r4 := (Boxed.alt RDH.out.b4 (Alt.put (p := fun k => k = W0.heap.size) (w := wr.drew) rfl (.deferred none)) (by have := HZ0.out; have := H12.out; have := HZ1.out; omega)).cell
            have rb := Blk.alt RDH.out.b5 (Alt.put (p := fun k => k = W0.heap.size) (w := wr.drew) rfl (.deferred none)) (by have := HZ0.out; have := H12.out; have := HZ1.out; omega)
            have r50 := rb.cell 0 (show _ = some (Value.int .i64 (cntL L).1) from rfl)
            have r51 := rb.cell 1 (show _ = some (Value.int .i64 (cntL L).2) from rfl)
            have hput : Alt (fun k => w.heap.size ≤ k) wr.drew (wr.drew.putObj W0.heap.size (.deferred none)) := Alt.put (by have := HZ0.out; have := H12.out; have := HZ1.out; omega) _
            refine leave_ret (v := .tuple #[.slice aR RL.length cR, .agg #[.int .i64 (cntL L).1, .int .i64 (cntL L).2], .int .i64 0]) DD.out (by simp [results, Try.results26, go_sem, r4, r50, r51]) ⟨aR, cR, rfl, ?_, fun g o e => ?_, (RDH.out.al.trans hput).below (Nat.le_refl _) fun _ h => h⟩
            · exact HP2.out.alt (Alt.put (p := fun k => k = W0.heap.size) (w := wr.drew) rfl (.deferred none)) (fun g o e => by have := HB2.out g o e; have := HBS.out; omega)
            · have h1 := HB2.out g o e
              have h2 := hput.size
              have := HBS.out; have := HZ0.out; have := H12.out; have := HZ1.out
              exact ⟨by omega, by omega⟩
  · have hE2 : (E == 0) = false := by simpa using hE
    have HN0 := HNO.out hE
    subst HN0
    have R1' := R1.out 0 0 0
    have c4 := R1'.b4.cell
    have f4 := R1'.b4.frozen
    have c50 := R1'.b5.cell 0 (show _ = some (Value.int .i64 0) from rfl)
    have c51 := R1'.b5.cell 1 (show _ = some (Value.int .i64 0) from rfl)
    have f50 := R1'.b5.fr 0
    have f51 := R1'.b5.fr 1
    have s4 : w1.setCell ⟨w.heap.size + 1, 0, none⟩ (.slice none 0 0) = w1 := setCell_eq (cs := #[.slice none 0 0]) R1'.b4 rfl
    have s50 : w1.setCell ⟨w.heap.size + 1 + 1, 0, none⟩ (.int .i64 0) = w1 := setCell_eq R1'.b5 rfl
    have s51 : w1.setCell ⟨w.heap.size + 1 + 1, 1, none⟩ (.int .i64 0) = w1 := setCell_eq R1'.b5 rfl
    have HB := Lib.hid (R1'.al.below (Nat.le_refl _) fun _ h => h)
    clear R1' R1 R3
    gi_wp2
    refine bodyPostM_ret0 (v := .tuple #[.slice none 0 0, .agg #[.int .i64 0, .int .i64 0], .int .i64 E]) (by simp [results, Try.results26, go_sem, c4, c50, c51]) ⟨none, 0, ?_, ?_, ?_, HB.out⟩
    · rw [HRL.out]; rfl
    · rw [HRL.out]; exact P2At.nil _ _
    · intro g o e; cases e

end Go.Proofs.Ytbbndcfnpfedpaa
