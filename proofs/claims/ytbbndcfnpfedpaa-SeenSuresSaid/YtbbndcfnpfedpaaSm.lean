/- The contract of gamesOf. -/
import Derived.Test.YtbbndcfnpfedpaaSl
set_option linter.unusedVariables false
set_option linter.unusedSimpArgs false
namespace Go.Proofs.Ytbbndcfnpfedpaa
open Go.RowKit Go.Shelf

attribute [local go_sem] Oper.semAt_some

theorem info100 : (Try.prog.info? 100).map (fun i => (i.zero, i.size, i.bytes)) = some (some (.slice none 0 0), 1, 24) := by kernel_rfl

def frmL (l : Lan) (s : Int → Bool) : List (List (Int × Int)) := (List.range l.fs.toNat).map fun (f : Nat) => gamesL l.ws s (f : Int)
def gofE (l : Lan) (ts : List Int) : Int := if chkE l ts = 0 then (if possB l (offS ts) = true then 0 else 9) else chkE l ts
def gofL (l : Lan) (ts : List Int) : List (List (Int × Int)) := if gofE l ts = 0 then frmL l (offS ts) else []

/-- Rows of pairs lie in a slice, in blocks from lo up to hi. -/
def FrAt (lo hi : Nat) (w : World) (a : Option Addr) (L : List (List (Int × Int))) : Prop := ∀ (i : Nat) (gs : List (Int × Int)), L[i]? = some gs → ∃ (g o : Nat) (a' : Option Addr) (c' : Nat), a = some ⟨g, o, none⟩ ∧ (lo ≤ g ∧ g < hi) ∧ w.cell? ⟨g, o + i, none⟩ = some (.slice a' gs.length c') ∧ P2At w a' gs ∧ ∀ g' o', a' = some ⟨g', o', none⟩ → lo ≤ g' ∧ g' < hi
theorem FrAt.alt {lo hi : Nat} {w W : World} {a : Option Addr} {L : List (List (Int × Int))} {p : Nat → Prop} (h : FrAt lo hi w a L) (hb : Alt p w W) (hp : ∀ k, lo ≤ k → k < hi → ¬ p k) : FrAt lo hi W a L := fun i gs hi => by
  obtain ⟨g, o, a', c', e, h0, h1, h2, h3⟩ := h i gs hi
  exact ⟨g, o, a', c', e, h0, alt_cell hb h1 (hp _ h0.1 h0.2), h2.alt hb (fun g o e => hp _ (h3 g o e).1 (h3 g o e).2), h3⟩

def FrOk (lo : Nat) (W : World) (ob : Option Nat) (L : List (List (Int × Int))) (hs : List Value) : Prop := ∀ (i : Nat) (gs : List (Int × Int)), L[i]? = some gs → ∃ (a : Option Addr) (c : Nat), hs[i]? = some (.slice a gs.length c) ∧ P2At W a gs ∧ ∀ g o, a = some ⟨g, o, none⟩ → (lo ≤ g ∧ g < W.heap.size) ∧ ob ≠ some g
/-- A list of rows that may grow, in a block from base on. -/
def FW (lo base : Nat) (W : World) (v : Value) (L : List (List (Int × Int))) : Prop := ∃ hs, W.ownsRow base 100 1 v L.length hs ∧ FrOk lo W v.ownBlock L hs
theorem FW.nil (lo base : Nat) (W : World) : FW lo base W (.slice none 0 0) [] := ⟨[], ⟨rfl, .inl ⟨rfl, rfl⟩⟩, fun i l h => by simp at h⟩
theorem FW.lo {lo base : Nat} {W W' : World} {v : Value} {L : List (List (Int × Int))} (h : FW lo base W v L) (hb : Below W.heap.size W W') : FW lo base W' v L := by
  obtain ⟨hs, h1, h2⟩ := h
  refine ⟨hs, h1.kept (below_row hb) (by cases hk : v.ownBlock with | none => exact .inl rfl | some k => exact .inr (fun e => by cases e)), fun i gs hi => ?_⟩
  obtain ⟨a, c, e1, e2, e3⟩ := h2 i gs hi
  exact ⟨a, c, e1, e2.lo hb, fun g o e => ⟨⟨(e3 g o e).1.1, Nat.lt_of_lt_of_le (e3 g o e).1.2 hb.size⟩, (e3 g o e).2⟩⟩
theorem FW.push {lo base : Nat} {W w1 : World} {v v' : Value} {L : List (List (Int × Int))} {hs : List Value} {gs : List (Int × Int)} {a3 : Option Addr} {c3 : Nat} {o : Obj} (hr : FrOk lo W v.ownBlock L hs) (hlen : hs.length = L.length)
    (hg : (W.alloc o).grownBy w1 v.ownBlock) (ho : w1.ownsRow base 100 1 v' (L.length + 1) (hs ++ [.slice a3 gs.length c3])) (hloc : v'.ownBlock = v.ownBlock ∨ v'.ownBlock = some (W.alloc o).heap.size)
    (h3 : P2At W a3 gs) (h4 : ∀ g o, a3 = some ⟨g, o, none⟩ → (lo ≤ g ∧ g < W.heap.size) ∧ v.ownBlock ≠ some g) : FW lo base w1 v' (L ++ [gs]) := by
  have hA : Alt (fun k => v.ownBlock = some k) W w1 := ((Alt.refl _ W).alloc o).grown hg (fun k e => e)
  have keep : ∀ a (l : List (Int × Int)), P2At W a l → (∀ g o, a = some ⟨g, o, none⟩ → (lo ≤ g ∧ g < W.heap.size) ∧ v.ownBlock ≠ some g) → P2At w1 a l ∧ ∀ g o, a = some ⟨g, o, none⟩ → (lo ≤ g ∧ g < w1.heap.size) ∧ v'.ownBlock ≠ some g := fun a l hp hq => by
    refine ⟨hp.alt hA (fun g o e => (hq g o e).2), fun g o' e => ⟨⟨(hq g o' e).1.1, Nat.lt_of_lt_of_le (hq g o' e).1.2 hA.size⟩, ?_⟩⟩
    rcases hloc with e' | e'
    · rw [e']; exact (hq g o' e).2
    · rw [e']; intro e''; cases e''; have := (hq _ _ e).1.2; simp at this; omega
  refine ⟨_, by rw [List.length_append]; exact ho, fun i l hl => ?_⟩
  by_cases hi : i < L.length
  · rw [List.getElem?_append_left hi] at hl
    obtain ⟨a, c, e1, e2, e3⟩ := hr i l hl
    obtain ⟨k1, k2⟩ := keep a l e2 e3
    exact ⟨a, c, by rw [List.getElem?_append_left (by omega)]; exact e1, k1, k2⟩
  · rw [List.getElem?_append_right (by omega)] at hl
    obtain ⟨k1, k2⟩ := keep a3 gs h3 h4
    have hi2 : i - L.length = 0 := by
      have := (List.getElem?_eq_some_iff.1 hl).1; simp at this; omega
    rw [hi2] at hl
    have hl2 : gs = l := by simpa using hl
    subst hl2
    exact ⟨a3, c3, by rw [List.getElem?_append_right (by omega), hlen, hi2]; rfl, k1, k2⟩
theorem FW.out {lo base : Nat} {W : World} {v : Value} {L : List (List (Int × Int))} (h : FW lo base W v L) (hlo : lo ≤ base) : ∃ a c, v = .slice a L.length c ∧ FrAt lo W.heap.size W a L := by
  obtain ⟨hs, h1, h2⟩ := h
  have hlt := h1.lt
  rcases h1.2 with ⟨e1, e2⟩ | ⟨g, cap, cur, e1, e2, e3, e4⟩
  · refine ⟨none, 0, by rw [e1, e2], fun i l hl => ?_⟩
    have : L = [] := List.eq_nil_of_length_eq_zero e2
    subst this; simp at hl
  · refine ⟨some ⟨g, 0, none⟩, cap, e1, fun i l hl => ?_⟩
    obtain ⟨a, c, x1, x2, x3⟩ := h2 i l hl
    have := h1.cells (g := g) (by rw [e1]; rfl) i _ x1
    rw [add_pl] at this
    have hg := hlt g (by rw [e1]; rfl)
    exact ⟨g, 0, a, c, rfl, ⟨by omega, hg.2⟩, this, x2, fun g' o' e => (x3 g' o' e).1⟩

/-- What gamesOf stands on: the watch, and the rows that grow. -/
structure FS (l : Lan) (S : Int → Bool) (N6 : Nat) (w W : World) (v : Value) (L : List (List (Int × Int))) : Prop where
  b6 : Blk W N6 (wtCells l S) 90
  fw : FW w.heap.size (N6 + 1) W v L
  bl : Below w.heap.size w W
  sz : N6 + 1 ≤ W.heap.size
theorem FS.lo {l : Lan} {S : Int → Bool} {N6 : Nat} {w W W' : World} {v : Value} {L : List (List (Int × Int))} (h : FS l S N6 w W v L) (hb : Below W.heap.size W W') : FS l S N6 w W' v L :=
  ⟨Blk.alt (p := fun _ => False) h.b6 (Alt.of_below hb (fun k hk e => by omega)) id, h.fw.lo hb, below_go h.bl hb, Nat.le_trans h.sz hb.size⟩
theorem FS.push {l : Lan} {S : Int → Bool} {N6 : Nat} {w W w1 : World} {v v' : Value} {L : List (List (Int × Int))} {gs : List (Int × Int)} {a3 : Option Addr} {c3 : Nat} {o : Obj} (h : FS l S N6 w W v L) (h6 : w.heap.size ≤ N6)
    {hs : List Value} (hr : FrOk w.heap.size W v.ownBlock L hs) (hw : W.ownsRow (N6 + 1) 100 1 v L.length hs)
    (hg : (W.alloc o).grownBy w1 v.ownBlock) (ho : w1.ownsRow (N6 + 1) 100 1 v' (L.length + 1) (hs ++ [.slice a3 gs.length c3])) (hloc : v'.ownBlock = v.ownBlock ∨ v'.ownBlock = some (W.alloc o).heap.size)
    (h3 : P2At W a3 gs) (h4 : ∀ g o, a3 = some ⟨g, o, none⟩ → (w.heap.size ≤ g ∧ g < W.heap.size) ∧ v.ownBlock ≠ some g) : FS l S N6 w w1 v' (L ++ [gs]) := by
  have hA : Alt (fun k => N6 + 1 ≤ k) W w1 := ((Alt.refl _ W).alloc o).grown hg (fun k e => own_base hw e)
  exact ⟨Blk.alt h.b6 hA (by omega), FW.push hr (by have := hw.1; omega) hg ho hloc h3 h4, ((Alt.of_below (p := fun k => w.heap.size ≤ k) h.bl (fun k _ e => e)).trans (hA.mono fun k _ e => by omega)).below (Nat.le_refl _) fun _ e => e, Nat.le_trans h.sz hA.size⟩

/-- What gamesOf gives. -/
def GofR (l : Lan) (ts : List Int) (w : World) (e : Ending) (w' : World) : Prop := ∃ a c, e = .returned (.tuple #[.slice a (gofL l ts).length c, .int .i64 (gofE l ts)]) ∧ FrAt w.heap.size w'.heap.size w' a (gofL l ts) ∧ Below w.heap.size w w'

set_option maxRecDepth 100000 in
set_option maxHeartbeats 8000000 in
theorem gamesOf_any (l : Lan) (ts : List Int) (a : Option Addr) (c : Nat) (w : World) (hL : WdsAt w l.wa l.ws) (hX : IntsAt w a ts) (hn : l.ws.length ≤ 1000) (hm : ts.length ≤ 1000) (hga : ∀ g o, l.wa = some ⟨g, o, none⟩ → g < w.heap.size) :
    Calls Try.prog 56 #[l.val, .slice a ts.length c] w (GofR l ts w) := by
  have CK := Lib.hid (fun W (hb : Below w.heap.size w W) => check_any l ts a c W (hL.lo hb) (hX.lo hb) hn hm)
  have PO := Lib.hid (fun W (hb : Below w.heap.size w W) (h : chkE l ts = 0) => possible_any l (offS ts) W (hL.lo hb) (fault0 (chkE_zero h).1).1 hn (by have := (fault0 (chkE_zero h).1).2.2.1; omega) (fault0 (chkE_zero h).1).2.2.2.1 (fun g o e => Nat.lt_of_lt_of_le (hga g o e) hb.size))
  have CO := Lib.hid (fun (fr : Int) bL bF W (hO : ONc l (offS ts) fr bL bF W) (hb : Below w.heap.size w W) (h : chkE l ts = 0) => collectR_any l (offS ts) fr bL bF W hO (fault0 (chkE_zero h).1).1 hn (fun g o e => Nat.lt_of_lt_of_le (hga g o e) hb.size))
  have HFS : Hid (chkE l ts = 0 → 1 ≤ l.fs ∧ l.fs ≤ 5) := Lib.hid fun h => ⟨(fault0 (chkE_zero h).1).2.2.1, (fault0 (chkE_zero h).1).2.2.2.1⟩
  have HL := Lib.hid hL
  have HB : Hid (gofE l ts = if chkE l ts = 0 then (if possB l (offS ts) = true then 0 else 9) else chkE l ts) := Lib.hid rfl
  have HG : Hid (gofL l ts = if gofE l ts = 0 then frmL l (offS ts) else []) := Lib.hid rfl
  have HV : Hid (chkV l ts = .agg (if chkE l ts = 0 then wtCells l (offS ts) else wtZero)) := Lib.hid rfl
  have K0 := Lib.hid (Blk.new w #[.int .i64 l.fs, .slice l.wa l.ws.length l.wc] 32)
  have B0 := Lib.hid (below_al w (.cells #[.int .i64 l.fs, .slice l.wa l.ws.length l.wc] 32))
  unfold GofR
  generalize chkE l ts = E at *
  generalize chkV l ts = V at *
  generalize gofE l ts = GE at *
  generalize gofL l ts = GL at *
  generalize offS ts = S at *
  generalize possB l S = PB at *
  by_cases hE : E = 0
  · subst hE
    have HV2 := HV.out
    rw [if_pos rfl] at HV2
    have HB2 : Hid (GE = if PB = true then 0 else 9) := Lib.hid (by rw [HB.out, if_pos rfl])
    have PO2 := Lib.hid (fun W hb => PO.out W hb rfl)
    have CO2 := Lib.hid (fun fr bL bF W hO hb => CO.out fr bL bF W hO hb rfl)
    obtain ⟨f1, f5⟩ := HFS.out rfl
    have AT := Lib.hid (fun fr W => at_any l S fr W)
    have GG := Lib.hid (fun fr W => games_any l S fr W)
    obtain ⟨F, hF⟩ : ∃ F : Nat → List (Int × Int), Hid (F = fun f : Nat => gamesL l.ws S (f : Int)) := ⟨_, Lib.hid rfl⟩
    have HFR : Hid (frmL l S = (List.range l.fs.toNat).map F) := Lib.hid (by rw [hF.out]; rfl)
    have HFk := Lib.hid (fun k : Nat => (show gamesL l.ws S (k : Int) = F k by rw [hF.out]))
    obtain ⟨N, hN⟩ : ∃ N : Nat, l.fs = (N : Int) := ⟨l.fs.toNat, by omega⟩
    have HN5 := Lib.hid (show N ≤ 5 by omega)
    have F6 := Lib.hid (fun (N6 : Nat) (wx : World) (h6 : N6 = wx.heap.size) (hb : Below w.heap.size w wx) => (show FS l S N6 w (wx.alloc (.cells (wtCells l S) 90)) (.slice none 0 0) [] from
      ⟨by rw [h6]; exact Blk.new _ _ _, FW.nil _ _ _, below_al2 hb _, by rw [h6]; simp⟩))
    have HWT : Hid (wtCells l S = #[.int .i64 (N : Int), .slice l.wa l.ws.length l.wc, .bool (S 0), .bool (S 1), .bool (S 2), .bool (S 3)]) := Lib.hid (by unfold wtCells; rw [hN])
    rw [HWT.out] at HV2 PO2 AT F6
    unfold Lan.val at *
    rw [hN] at CK K0 B0 HFR ⊢
    rw [Int.toNat_natCast] at HFR
    clear HV HB PO CO hL hX hn hm hga HFS f1 f5 hF hN
    subst HV2
    go_enter Try.func56, Try.ntmps56
    go_wp2_with fail
    refine (CK.out _ B0.out).mono ?_
    rintro e w1 ⟨rfl, hb1⟩
    have B1 := Lib.hid (below_go B0.out hb1)
    have K1 := Lib.hid (Blk.alt (p := fun _ => False) K0.out (Alt.of_below hb1 (fun k hk e => by omega)) id)
    clear hb1 B0 CK K0
    have F2 := Lib.hid (F6.out _ w1 rfl B1.out)
    have K2 := Lib.hid (Blk.alt (p := fun _ => False) K1.out ((Alt.refl _ _).alloc (.cells #[.int .i64 (N : Int), .slice l.wa l.ws.length l.wc, .bool (S 0), .bool (S 1), .bool (S 2), .bool (S 3)] 90)) id)
    have HS6 := Lib.hid B1.out.size
    clear B1 K1 F6
    go_wp2_with fail
    refine (PO2.out _ F2.out.bl).mono ?_
    rintro e w3 ⟨rfl, hb3⟩
    have F3 := Lib.hid (F2.out.lo hb3)
    have K3 := Lib.hid (Blk.alt (p := fun _ => False) K2.out (Alt.of_below hb3 (fun k hk e => by omega)) id)
    clear hb3 PO2 F2 K2
    generalize w1.heap.size = N6 at *
    cases PB
    · have HE9 : Hid (GE = 9) := HB2
      have HGL : Hid (GL = []) := Lib.hid (by rw [HG.out, HE9.out, if_neg (by omega)])
      clear HG HB2
      go_wp2_with fail
      go_returns
      refine ⟨none, 0, ?_, ?_, F3.out.bl⟩
      · rw [HE9.out, HGL.out]; first | done | rfl
      · rw [HGL.out]; exact fun i gs h => by simp at h
    · have HE0 : Hid (GE = 0) := HB2
      have HGL : Hid (GL = (List.range N).map F) := Lib.hid (by rw [HG.out, HE0.out, if_pos rfl, HFR.out])
      clear HG HB2 HFR
      have k0 := K3.out.cell 0 (show _ = some (Value.int .i64 (N : Int)) from rfl)
      obtain ⟨i0, hi0, hy0, hy1, hy2⟩ := info_parts info100
      go_wp2_with fail
      go_loopg [8, 26] N (fun g s8 s26 wx => ∃ (i : Nat) (v : Value), i ≤ N ∧ g = N - i ∧ s26 = .int .i64 (i : Int) ∧ v = s8 ∧ Hid (FS l S N6 w wx v ((List.range i).map F)))
      case atStart => exact ⟨0, _, by omega, by omega, rfl, rfl, F3⟩
      case round =>
        obtain ⟨i, v, hi, rfl, rfl, rfl, hF⟩ := hrel
        clear F3 K3 k0
        by_cases hlt : i < N
        · have hz1 : (i : Int) < (N : Int) := by omega
          have e2 : IntKind.i64.wrap ((i : Int) + 1) = (i : Int) + 1 := IntWalk.i64_in _ (by have := HN5.out; omega)
          have HI := Lib.hid hlt
          have b6 := hF.out.b6
          rw [HWT.out] at b6
          have k60 := b6.cell 0 (show _ = some (Value.int .i64 (N : Int)) from rfl)
          have k61 := b6.cell 1 (show _ = some (Value.slice l.wa l.ws.length l.wc) from rfl)
          have k62 := b6.cell 2 (show _ = some (Value.bool (S 0)) from rfl)
          have k63 := b6.cell 3 (show _ = some (Value.bool (S 1)) from rfl)
          have k64 := b6.cell 4 (show _ = some (Value.bool (S 2)) from rfl)
          have k65 := b6.cell 5 (show _ = some (Value.bool (S 3)) from rfl)
          clear hlt hi b6
          go_wp2_with fail
          refine (AT.out (i : Int) wr).mono ?_
          rintro e x1 ⟨rfl, hb1⟩
          have F1 := Lib.hid (hF.out.lo hb1)
          clear hb1 k60 k61 k62 k63 k64 k65 hF
          have G1 := Lib.hid (GG.out (i : Int) x1)
          unfold lookCells at G1 ⊢
          go_wp2_with fail
          refine G1.out.mono ?_
          rintro e x2 ⟨bL, bF, rfl, hg⟩
          have F2 := Lib.hid (F1.out.lo hg.bl)
          have C2 := Lib.hid (CO2.out (i : Int) bL bF x2 ⟨hg.li, hg.is, HL.out.lo F2.out.bl⟩ F2.out.bl)
          rw [HFk.out i] at C2
          clear hg F1 G1
          go_wp2_with fail
          have HRS := Lib.hid (show (List.range (i + 1)).map F = (List.range i).map F ++ [F i] by rw [List.range_succ, List.map_append]; rfl)
          have HRL := Lib.hid (show ((List.range i).map F).length = i by simp)
          generalize F i = gs at *
          generalize (List.range i).map F = L at *
          refine C2.out.mono ?_
          rintro e x3 ⟨a3, c3, rfl, hp3, hg3, hb3⟩
          have F3 := Lib.hid (F2.out.lo hb3)
          obtain ⟨hs, hown, hok⟩ := F3.out.fw
          obtain ⟨_, hown2, _⟩ := F2.out.fw
          have H4 : Hid (∀ g o, a3 = some ⟨g, o, none⟩ → (w.heap.size ≤ g ∧ g < x3.heap.size) ∧ v.ownBlock ≠ some g) := Lib.hid (fun g o e => ⟨⟨Nat.le_trans F2.out.bl.size (hg3 g o e).1, (hg3 g o e).2⟩, fun e2 => by have := (hown2.lt g e2).2; have := (hg3 g o e).1; omega⟩)
          have PS := Lib.hid (fun w1 v' h1 h2 h3 => FS.push (w1 := w1) (v' := v') (gs := gs) (a3 := a3) (c3 := c3) (o := .cells #[.slice a3 gs.length c3] 100) F3.out HS6.out hok hown h1 h2 h3 hp3 H4.out)
          have HSZ := Lib.hid F3.out.sz
          rw [HRL.out] at hown PS
          have HNC : Hid (i + 1 ≤ maxLen) := Lib.hid (by unfold maxLen; have := HI.out; have := HN5.out; omega)
          have HIB : Hid ((i + 1) * 24 ≤ 140737488355328) := Lib.hid (by have := HI.out; have := HN5.out; omega)
          clear hb3 C2 F2 hown2 hok hp3 hg3
          go_wp2_with (at_builtin; go_must (refine wpList_append_own_at _ rfl _ _ 94 rfl (N6 + 1) 100 i0 _ 1 24 Try.underlying94 hi0 hy0 hy1 hy2 rfl (by decide) v i hs rfl (hown.alloc _) ⟨x3.heap.size, 0, none⟩ 1 1 [.slice a3 gs.length c3] rfl (by rfl) (cell_one_new _ _ _) (by simp [Value.oneCell']) HNC.out HIB.out (by have := HSZ.out; simp; omega) ?_); intro v' w1 hown' hgrow hnil hloc; have KN := Lib.hid (PS.out w1 v' hgrow hown' hloc); clear hown' hgrow hnil hloc)
          rw [← HRS.out] at KN
          clear PS F3 hown H4 HRS HRL
          go_roundg (N - (i + 1))
          case measure => have := HI.out; omega
          case rel => exact ⟨i + 1, _, by have := HI.out; omega, rfl, by simp, rfl, KN⟩
        · have hz1 : ¬ (i : Int) < (N : Int) := by omega
          have hiN : i = N := by omega
          rw [hiN] at hF
          obtain ⟨a, c, rfl, h1⟩ := hF.out.fw.out (by have := HS6.out; omega)
          have H1 := Lib.hid h1
          have HLN := Lib.hid (show ((List.range N).map F).length = GL.length by rw [HGL.out])
          clear h1 hlt hi hiN
          go_wp2_with fail
          go_returns
          refine ⟨a, ⟨c, ?_⟩, ?_, hF.out.bl⟩
          · rw [HE0.out, HGL.out]; first | done | simp
          · rw [HGL.out]; exact H1.out
  · have HV2 := HV.out
    rw [if_neg hE] at HV2
    have HR : Hid (GE = E) := Lib.hid (by rw [HB.out, if_neg hE])
    have HGL : Hid (GL = []) := Lib.hid (by rw [HG.out, HR.out, if_neg hE])
    have hE2 : (E == 0) = false := by simpa using hE
    unfold Lan.val wtZero at *
    clear HV HB PO CO hL hX hn hm hga HFS HG hE
    subst HV2
    go_enter Try.func56, Try.ntmps56
    go_wp2_with fail
    refine (CK.out _ B0.out).mono ?_
    rintro e w1 ⟨rfl, hb1⟩
    have B1 := Lib.hid (below_go B0.out hb1)
    clear hb1 B0 CK
    have B2 := Lib.hid (below_al2 B1.out (.cells #[.int .i64 0, .slice none 0 0, .bool false, .bool false, .bool false, .bool false] 90))
    go_wp2_with fail
    go_returns
    refine ⟨none, 0, ?_, ?_, B2.out⟩
    · rw [HR.out, HGL.out]; first | done | rfl
    · rw [HGL.out]; exact fun i gs h => by simp at h

end Go.Proofs.Ytbbndcfnpfedpaa
