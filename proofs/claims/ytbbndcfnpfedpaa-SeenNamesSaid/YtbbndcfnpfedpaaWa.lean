/- The program's Sure. -/
import Derived.Test.YtbbndcfnpfedpaaVl
set_option linter.unusedVariables false
set_option linter.unusedSimpArgs false
namespace Go.Proofs.Ytbbndcfnpfedpaa
open Go.RowKit Go.Shelf Go.Maps

attribute [local go_sem] Oper.semAt_some

theorem info54 : (Try.prog.info? 54).map (fun i => (i.zero, i.size, i.bytes)) = some (some (.agg #[.int .i64 0, .int .i64 0]), 2, 16) := by kernel_rfl

/-- The places whose range is one number. -/
def sureF (x : (Int × Int) × (Int × Int)) : Bool := x.2.1 == x.2.2
def sureP (L : List ((Int × Int) × (Int × Int))) : List (Int × Int) := (L.filter sureF).map fun x => x.1
def sureL (l : Lan) (ts : List Int) : List (Int × Int) := sureP (rngL (gofL l ts))
theorem sureP_yes (L : List ((Int × Int) × (Int × Int))) (x : (Int × Int) × (Int × Int)) (h : x.2.1 = x.2.2) : sureP (L ++ [x]) = sureP L ++ [x.1] := by
  unfold sureP
  rw [List.filter_append]
  simp [List.filter, sureF, h]
theorem sureP_no (L : List ((Int × Int) × (Int × Int))) (x : (Int × Int) × (Int × Int)) (h : x.2.1 ≠ x.2.2) : sureP (L ++ [x]) = sureP L := by
  unfold sureP
  rw [List.filter_append]
  have : sureF x = false := by unfold sureF; simpa using h
  simp [List.filter, this]
theorem sureP_len (L : List ((Int × Int) × (Int × Int))) : (sureP L).length ≤ L.length := by
  unfold sureP; rw [List.length_map]; exact List.length_filter_le _ _

/-- What Sure stands on: up is the box of the list. -/
structure RS (L : List (List (Int × Int))) (aF : Option Addr) (lo up base : Nat) (w W : World) (v : Value) (xs : List (Int × Int)) : Prop where
  b4 : Boxed W up 48 v
  ow : W.ownsRow base 54 2 v xs.length (p2Cells xs)
  fr : FrAt lo up W aF L
  al : Alt (fun k => w.heap.size ≤ k) w W
theorem RS.far {L : List (List (Int × Int))} {aF : Option Addr} {lo up base : Nat} {w W W' : World} {v : Value} {xs : List (Int × Int)} {p : Nat → Prop} (h : RS L aF lo up base w W v xs) (ha : Alt p W W')
    (h1 : ¬ p up) (h3 : ∀ k, base ≤ k → ¬ p k) (h4 : ∀ k, lo ≤ k → k < up → ¬ p k) (h5 : ∀ k, k < W.heap.size → p k → w.heap.size ≤ k) : RS L aF lo up base w W' v xs :=
  ⟨Boxed.alt h.b4 ha h1, ownsRow_alt h.ow ha h3, h.fr.alt ha h4, h.al.trans (ha.mono h5)⟩
theorem RS.push {L : List (List (Int × Int))} {aF : Option Addr} {lo up base : Nat} {w W w1 : World} {v v' : Value} {xs ys : List (Int × Int)} {y : Int × Int} {tmp : Obj} (h : RS L aF lo up base w W v xs)
    (h1 : w.heap.size ≤ lo) (h2 : lo ≤ up) (h3 : up < base) (hown' : w1.ownsRow base 54 2 v' (xs.length + 1) (p2Cells xs ++ p2C y)) (hgrow : (W.alloc tmp).grownBy w1 v.ownBlock) (hys : ys = xs ++ [y]) :
    Boxed w1 up 48 v ∧ RS L aF lo up base w (w1.setCell ⟨up, 0, none⟩ v') v' ys ∧ Alt (fun k => k = up ∨ base ≤ k) W (w1.setCell ⟨up, 0, none⟩ v') := by
  obtain ⟨g1, g2, g3, g4⟩ := boxed_app h.b4 (by decide) h.ow hown' hgrow
  subst hys
  refine ⟨g1, ⟨g2, ?_, h.fr.alt g4 (fun k a b c => by omega), h.al.trans (g4.mono fun k _ e => by omega)⟩, g4⟩
  rw [p2Cells_snoc, List.length_append]
  exact g3

def SureR (l : Lan) (ts : List Int) (w : World) (e : Ending) (w' : World) : Prop := ∃ a c, e = .returned (.tuple #[.slice a (sureL l ts).length c, .int .i64 (gofE l ts)]) ∧ P2At w' a (sureL l ts) ∧ (∀ g o, a = some ⟨g, o, none⟩ → w.heap.size ≤ g ∧ g < w'.heap.size) ∧ Below w.heap.size w w'

set_option maxRecDepth 100000 in
set_option maxHeartbeats 8000000 in
theorem sure_any (l : Lan) (ts : List Int) (a : Option Addr) (c : Nat) (w : World) (hL : WdsAt w l.wa l.ws) (hX : IntsAt w a ts) (hn : l.ws.length ≤ 1000) (hm : ts.length ≤ 1000) (hga : ∀ g o, l.wa = some ⟨g, o, none⟩ → g < w.heap.size) :
    Calls Try.prog 29 #[l.val, .slice a ts.length c] w (SureR l ts w) := by
  have GO := Lib.hid (fun W (hb : Below w.heap.size w W) => gamesOf_any l ts a c W (hL.lo hb) (hX.lo hb) hn hm (fun g o e => Nat.lt_of_lt_of_le (hga g o e) hb.size))
  have HRL : Hid (sureL l ts = sureP (rngL (gofL l ts))) := Lib.hid rfl
  have HLe : Hid (∀ gs ∈ gofL l ts, gs.length ≤ 66) := Lib.hid fun gs h => (gofL_mem h).1
  have HL5 := Lib.hid (gofL_len l ts)
  have HNO : Hid (gofE l ts ≠ 0 → gofL l ts = []) := Lib.hid gofL_no
  have B3 := Lib.hid (below_al w (.cells #[.int .i64 l.fs, .slice l.wa l.ws.length l.wc] 32))
  have HZ3 := Lib.hid (show (w.alloc (.cells #[.int .i64 l.fs, .slice l.wa l.ws.length l.wc] 32)).heap.size = w.heap.size + 1 by simp)
  unfold SureR
  unfold GofR at GO
  generalize sureL l ts = SL at *
  generalize gofE l ts = E at *
  generalize gofL l ts = L at *
  unfold Lan.val at *
  clear hL hX hn hm hga
  refine (callsIn_wide (n := 0)).1 ?_
  refine callsIn_of_wp_marks Try.func29 rfl trivial ?_ rfl
  simp only [Try.ntmps29, List.size_toArray, List.length_cons, List.length_nil, Nat.reduceAdd, Nat.reduceSub, Array.replicate_succ, Array.replicate_zero, List.push_toArray, List.append_toArray, List.nil_append, List.cons_append]
  gi_wp2
  generalize (World.alloc w _) = W3 at B3 HZ3 ⊢
  refine ⟨trivial, rfl, ?_⟩
  refine (callsIn_wide (n := 0).2 (GO.out _ B3.out)).mono ?_
  rintro e w1 ⟨aL, cL, rfl, hfr, hb1⟩
  have HFR := Lib.hid hfr
  have HZ1 := Lib.hid hb1.size
  have B1 := Lib.hid (below_go B3.out hb1)
  clear hfr GO hb1
  by_cases hE : E = 0
  · subst hE
    obtain ⟨i0, hi, hy0, hy1, hy2⟩ := info_parts info54
    gi_wp2
    refine ⟨trivial, rfl, ?_⟩
    refine (callsIn_wide (n := 0).2 (ranges_any aL L.length cL _)).mono ?_
    rintro e W0 ⟨rfl, hW0⟩
    rw [World.size_alloc]
    have hz0 : W0.heap.size = w1.heap.size + 2 := by rw [hW0]; simp
    have FR0 := HFR.out.alt (show Alt (fun _ => False) w1 W0 from by rw [hW0]; exact ((Alt.refl _ _).alloc _).alloc _) (fun _ _ _ => id)
    have BB := (show Boxed W0 (w1.heap.size + 1) 94 (.slice aL L.length cL) from by
      rw [hW0]
      have := Boxed.new (w1.alloc (.cells #[.slice none 0 0] 48)) 94 (.slice aL L.length cL)
      rwa [World.size_alloc] at this)
    have BS := (show Boxed W0 w1.heap.size 48 (.slice none 0 0) from by
      rw [hW0]
      exact Boxed.alt (p := fun _ => False) (Boxed.new w1 48 (.slice none 0 0)) ((Alt.refl _ _).alloc _) id)
    have A0 := (show Alt (fun k => w.heap.size ≤ k) w W0 from by
      rw [hW0]
      exact (((Alt.of_below (p := fun k => w.heap.size ≤ k) B1.out (fun k _ e => e))).alloc _).alloc _)
    have IT := Lib.hid (ranges1_iter L aL cL W3.heap.size w1.heap.size (w1.heap.size + 1) W0 BB FR0 (by omega) (by have := HL5.out; omega) (fun gs h => by have := HLe.out gs h; omega))
    have RI := Lib.hid (show RS L aL W3.heap.size w1.heap.size (W0.heap.size + (2 + 0)) w W0 (.slice none 0 0) [] from ⟨BS, ⟨rfl, .inl ⟨rfl, rfl⟩⟩, FR0, A0⟩)
    have HZ0 := Lib.hid hz0
    clear hW0 FR0 BB BS A0 HFR hz0
    generalize w1.heap.size = up at *
    have H12 := Lib.hid (show w.heap.size ≤ W3.heap.size by have := HZ3.out; omega)
    clear HZ3 B3 B1
    generalize W3.heap.size = lo at *
    obtain ⟨base, hbase⟩ : ∃ base, base = W0.heap.size + (2 + 0) := ⟨_, rfl⟩
    rw [← hbase] at RI
    have HBS := Lib.hid hbase
    have HBU := Lib.hid (show up < base by have := HZ0.out; omega)
    clear hbase
    gi_wp2
    refine wp_iterT (gf := 78) (lb := #[.pointer (some ⟨up + 1, 0, none⟩)]) rfl eg78 IT.out (fun k h => ?rd) (fun _ => rfl)
      (fun k => k = up ∨ base ≤ k) (fun k h => ?hM)
      (fun pre A => ∃ v, RS L aL lo up base w A v (sureP pre))
      (fun pre x a1 A => (∃ v, RS L aL lo up base w A v (sureP pre)) ∧ ∃ b9, base ≤ b9 ∧ Blk A b9 #[.int .i64 x.1.1, .int .i64 x.1.2] 54 ∧ Blk A (b9 + 1) #[.int .i64 x.2.1, .int .i64 x.2.2] 41 ∧ a1 = { tmps := #[.agg #[.int .i64 l.fs, .slice l.wa l.ws.length l.wc], .slice a ts.length c, .pointer (some ⟨w.heap.size, 0, none⟩), undef, .slice none 0 0, .int .i64 0, .slice aL L.length cL, .int .i64 0, .pointer (some ⟨up, 0, none⟩), .pointer (some ⟨b9, 0, none⟩), .pointer (some ⟨b9 + 1, 0, none⟩), .tuple #[.slice aL L.length cL, .int .i64 0], .agg #[.int .i64 l.fs, .slice l.wa l.ws.length l.wc], .slice a ts.length c, .tuple #[.slice aL L.length cL, .int .i64 0], .slice aL L.length cL, .int .i64 0, .int .i64 0, .bool false, undef, .slice aL L.length cL, .func (.func 78) #[] #[.pointer (some ⟨up + 1, 0, none⟩)], .agg #[.int .i64 x.1.1, .int .i64 x.1.2], .agg #[.int .i64 x.2.1, .int .i64 x.2.2], undef, undef, undef, undef, undef, undef, undef, undef, undef, undef], defers := [] })
      (fun pre A B h hAB => ?stI) (fun pre x a A B h hAB => ?stM) ⟨_, RI.out⟩ ?assign ?body ?done
    case rd =>
      have := HZ0.out; have := H12.out; have := HZ1.out
      rcases h with rfl | ⟨h1, h2⟩ <;> omega
    case hM =>
      have := HZ0.out; have := H12.out; have := HZ1.out; have := HBS.out
      refine ⟨fun h2 => ?_, fun h2 => ?_⟩
      · rcases h2 with rfl | ⟨h1, h2⟩ <;> omega
      · unfold Rng at h2; omega
    case stI =>
      have := HZ0.out; have := H12.out; have := HZ1.out; have := HBS.out
      obtain ⟨v, hG⟩ := h
      exact ⟨v, hG.far hAB (fun e => by unfold Rng at e; omega) (fun k hk e => by unfold Rng at e; omega) (fun k h1 h2 e => by unfold Rng at e; omega) (fun k _ e => by unfold Rng at e; omega)⟩
    case stM =>
      have := HZ0.out; have := H12.out; have := HZ1.out; have := HBS.out
      obtain ⟨⟨v, hG⟩, b9, hb9, k9, k10, e⟩ := h
      exact ⟨⟨v, hG.far hAB (fun e => by unfold Rng at e; omega) (fun k hk e => by unfold Rng at e; omega) (fun k h1 h2 e => by unfold Rng at e; omega) (fun k _ e => by unfold Rng at e; omega)⟩, b9, hb9, Blk.alt k9 hAB (fun e => by unfold Rng at e; omega), Blk.alt k10 hAB (fun e => by unfold Rng at e; omega), e⟩
    case assign =>
      intro l2 pre x post A hx hzA hl hr h
      have HX := Lib.hid (show base ≤ A.heap.size by have := HBS.out; omega)
      have HH := Lib.hid h
      unfold rgEnc
      clear hx hzA hl hr h
      gi_wp2
      obtain ⟨v, hG⟩ := HH.out
      refine ⟨((Alt.refl _ _).alloc _).alloc _, ⟨v, hG.far (p := fun _ => False) (((Alt.refl _ _).alloc _).alloc _) id (fun _ _ => id) (fun _ _ _ => id) (fun _ _ h => h.elim)⟩, A.heap.size, HX.out, ?_, ?_, rfl⟩
      · exact Blk.alt (p := fun _ => False) (Blk.new A _ _) ((Alt.refl _ _).alloc _) id
      · have := Blk.new (A.alloc (.cells #[.int .i64 x.1.1, .int .i64 x.1.2] 54)) #[.int .i64 x.2.1, .int .i64 x.2.2] 41
        rwa [World.size_alloc] at this
    case body =>
      rintro l2 pre x post a1 A hx hzA hl hr ⟨⟨v, hG⟩, b9, hb9, k9, k10, rfl⟩
      have HPL := Lib.hid (show (sureP pre).length + 1 ≤ 11 by have h9 := congrArg List.length hx; rw [rngL_len] at h9; simp at h9; have := HL5.out; have := sureP_len pre; omega)
      have HBZ := Lib.hid (show base ≤ A.heap.size by have := HBS.out; omega)
      have HSY := Lib.hid (fun h => sureP_yes pre x h)
      have HSN := Lib.hid (fun h => sureP_no pre x h)
      have c4 := hG.b4.cell
      obtain ⟨⟨x1, x2⟩, p, q⟩ := x
      simp only at k9 k10 HSY HSN
      have c1 := k10.cell 0 (show _ = some (Value.int .i64 p) from rfl)
      have c2 := k10.cell 1 (show _ = some (Value.int .i64 q) from rfl)
      have c5 := k9.cell 0 (show _ = some (Value.int .i64 x1) from rfl)
      have c6 := k9.cell 1 (show _ = some (Value.int .i64 x2) from rfl)
      by_cases hpq : p = q
      · have HMS := Lib.hid (HSY.out hpq)
        subst hpq
        generalize sureP pre = xs at *
        have PU := Lib.hid (fun w1 v' ho hg => RS.push (w1 := w1) (v' := v') (ys := xs ++ [(x1, x2)]) (y := (x1, x2)) (tmp := .cells #[.int .i64 x1, .int .i64 x2] 54) hG H12.out (by have := HZ1.out; omega) HBU.out ho hg rfl)
        have OW := hG.ow
        clear hx hzA hl hr k9 k10 hG HSY HSN
        gi_wp2_with (gi_at_builtin; refine wpListIn_append_own _ rfl _ _ 48 rfl base 54 i0 _ 2 16 Try.underlying48 hi hy0 hy1 hy2 rfl (by decide) _ _ _ rfl (OW.alloc _) ⟨A.heap.size, 0, none⟩ 1 1 (p2C (x1, x2)) rfl rfl (World.news_of_block (cs := #[.int .i64 x1, .int .i64 x2]) (t := 54) (fr := (0, 0)) (heap_alloc_new A _)) (by simp [Value.oneCell', p2C]) (by unfold maxLen; have := HPL.out; omega) (by have := HPL.out; omega) (by have := HBZ.out; simp; omega) ?_; intro v' w1 hown' hgrow _; obtain ⟨g', cap', rfl, _, _⟩ := hown'.form (by omega); obtain ⟨hv1, hr2, ha2⟩ := PU.out _ _ hown' hgrow; have hc1 := hv1.cell; have hf1 := hv1.frozen)
        exact ⟨ha2, _, by rw [HMS.out]; exact hr2⟩
      · have HMS := Lib.hid (HSN.out hpq)
        have hpq2 : (p == q) = false := by simpa using hpq
        have HG := Lib.hid hG
        clear hx hzA hl hr k9 k10 hG HSY HSN hpq
        gi_wp2
        exact ⟨Alt.refl _ _, v, by rw [HMS.out]; exact HG.out⟩
    case done =>
      rintro B ⟨v, hG⟩ hzB hK
      have HK := Lib.hid hK
      rw [← HRL.out] at hG
      obtain ⟨aR, cR, rfl, hP, hB⟩ := own_p2 hG.ow
      have HP2 := Lib.hid hP
      have HB2 := Lib.hid hB
      have HG0 := Lib.hid hG
      have c4 := hG.b4.cell
      clear hK hG hzB hP hB
      gi_wp2
      have hput : Alt (fun k => w.heap.size ≤ k) B (B.putObj W0.heap.size (.deferred none)) := Alt.put (by have := HZ0.out; have := H12.out; have := HZ1.out; omega) _
      refine leave_ret (v := .tuple #[.slice aR SL.length cR, .int .i64 0]) HK.out (by simp [results, Try.results29, go_sem]) ⟨aR, cR, rfl, ?_, fun g o e => ?_, (HG0.out.al.trans hput).below (Nat.le_refl _) fun _ h => h⟩
      · exact HP2.out.alt (Alt.put (p := fun k => k = W0.heap.size) (w := B) rfl (.deferred none)) (fun g o e => by have := HB2.out g o e; have := HBS.out; omega)
      · have h1 := HB2.out g o e
        have h2 := hput.size
        have := HBS.out; have := HZ0.out; have := H12.out; have := HZ1.out
        exact ⟨by omega, by omega⟩
  · have hE2 : (E == 0) = false := by simpa using hE
    have HN0 := HNO.out hE
    subst HN0
    gi_wp2
    refine bodyPostM_ret0 (v := .tuple #[.slice none 0 0, .int .i64 E]) (by simp [results, Try.results29, go_sem]) ⟨none, 0, ?_, ?_, ?_, B1.out⟩
    · rw [HRL.out]; rfl
    · rw [HRL.out]; exact P2At.nil _ _
    · intro g o e; cases e

end Go.Proofs.Ytbbndcfnpfedpaa
