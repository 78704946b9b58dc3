/- The contract of narrower, where what is seen is narrower. -/
import Derived.Test.YtbbndcfnpfedpaaYb
set_option linter.unusedVariables false
set_option linter.unusedSimpArgs false
namespace Go.Proofs.Ytbbndcfnpfedpaa
open Go.RowKit Go.Shelf Go.Maps

attribute [local go_sem] Oper.semAt_some

theorem same_sure2 (l : Lan) (a : Option Addr) (c : Nat) (ts : List Int) : sureL { l with wa := a, wc := c } ts = sureL l ts := rfl
/-- What is seen of the first lane lies within what is seen of the second one. -/
structure NarH (a b : Lan) (ts : List Int) : Prop where
  ea : gofE a ts = 0
  eb : gofE b ts = 0
  len : (rngsL a ts).length = (rngsL b ts).length
  l10 : (rngsL b ts).length ≤ 10
  sure : (sureL b ts).length ≤ (sureL a ts).length
  many : manyN a ts ≤ manyN b ts
  c1 : (cntL (gofL b ts)).1 ≤ (cntL (gofL a ts)).1
  c2 : (cntL (gofL a ts)).2 ≤ (cntL (gofL b ts)).2
  rng : ∀ (i : Nat) (x y : Int × Int), (rngsL a ts)[i]? = some x → (rngsL b ts)[i]? = some y → y.1 ≤ x.1 ∧ x.2 ≤ y.2

/-- Two boxes of lanes. -/
structure BX2 (la lb : Lan) (w W : World) : Prop where
  a : Blk W w.heap.size #[.int .i64 la.fs, .slice la.wa la.ws.length la.wc] 24
  b : Blk W (w.heap.size + 1) #[.int .i64 lb.fs, .slice lb.wa lb.ws.length lb.wc] 24
  bl : Below w.heap.size w W
theorem BX2.lo {la lb : Lan} {w W W' : World} (h : BX2 la lb w W) (hb : Below W.heap.size W W') : BX2 la lb w W' :=
  ⟨Blk.alt (p := fun _ => False) h.a (Alt.of_below hb (fun k hk e => by omega)) id, Blk.alt (p := fun _ => False) h.b (Alt.of_below hb (fun k hk e => by omega)) id, below_go h.bl hb⟩
theorem BX2.mk' (la lb : Lan) (w : World) : BX2 la lb w ((w.alloc (.cells #[.int .i64 la.fs, .slice la.wa la.ws.length la.wc] 24)).alloc (.cells #[.int .i64 lb.fs, .slice lb.wa lb.ws.length lb.wc] 24)) :=
  ⟨Blk.alt (p := fun _ => False) (Blk.new _ _ _) ((Alt.refl _ _).alloc _) id, Blk.nw1 _ _ _ _, below_al2 (below_al _ _) _⟩

set_option maxRecDepth 100000 in
set_option maxHeartbeats 16000000 in
theorem narrower_any (la lb : Lan) (ts : List Int) (ta : Option Addr) (tc : Nat) (w : World) (hA : WdsAt w la.wa la.ws) (hB : WdsAt w lb.wa lb.ws) (hX : IntsAt w ta ts) (hnl : ta = none → ts = [] ∧ tc = 0) (hna : la.ws.length ≤ 1000) (hnb : lb.ws.length ≤ 1000) (hm : ts.length ≤ 1000) (NH : NarH la lb ts) :
    Calls Try.prog 49 #[la.val, lb.val, .slice ta ts.length tc] w fun e w' => e = .returned (.bool true) ∧ Below w.heap.size w w' := by
  have X := Lib.hid (BX2.mk' la lb w)
  have I1 := Lib.hid (hX.lo (below_al2 (below_al w (.cells #[.int .i64 la.fs, .slice la.wa la.ws.length la.wc] 24)) (.cells #[.int .i64 lb.fs, .slice lb.wa lb.ws.length lb.wc] 24)))
  have N1 := Lib.hid hnl
  have LI := Lib.hid (fun a c W (hX : IntsAt W a ts) (h0 : a = none → ts = [] ∧ c = 0) => lawlist_any ts a c W hX h0 hm)
  have LNA := Lib.hid (fun W (hb : Below w.heap.size w W) => lawLane_any la W (hA.lo hb) hna)
  have LNB := Lib.hid (fun W (hb : Below w.heap.size w W) => lawLane_any lb W (hB.lo hb) hnb)
  have RGA := Lib.hid (fun (a a2 : Option Addr) (c c2 : Nat) W (hW : WdsAt W a la.ws) (hg : ∀ g o, a = some ⟨g, o, none⟩ → g < W.heap.size) (hX : IntsAt W a2 ts) => rangesP_any { la with wa := a, wc := c } ts a2 c2 W hW hX hna hm hg)
  unfold RngR at RGA
  simp only [(same_rngs la _ _ ts).1, (same_rngs la _ _ ts).2.1, (same_rngs la _ _ ts).2.2, NH.ea] at RGA
  have SUA := Lib.hid (fun (a a2 : Option Addr) (c c2 : Nat) W (hW : WdsAt W a la.ws) (hg : ∀ g o, a = some ⟨g, o, none⟩ → g < W.heap.size) (hX : IntsAt W a2 ts) => sure_any { la with wa := a, wc := c } ts a2 c2 W hW hX hna hm hg)
  unfold SureR at SUA
  simp only [same_sure2 la _ _ _, (same_rngs la _ _ _).2.2, NH.ea] at SUA
  have MNA := Lib.hid (fun (a a2 : Option Addr) (c c2 : Nat) W (hW : WdsAt W a la.ws) (hg : ∀ g o, a = some ⟨g, o, none⟩ → g < W.heap.size) (hX : IntsAt W a2 ts) => many_any { la with wa := a, wc := c } ts a2 c2 W hW hX hna hm hg)
  simp only [same_many la _ _ _, (same_rngs la _ _ _).2.2, NH.ea] at MNA
  have RGB := Lib.hid (fun (a a2 : Option Addr) (c c2 : Nat) W (hW : WdsAt W a lb.ws) (hg : ∀ g o, a = some ⟨g, o, none⟩ → g < W.heap.size) (hX : IntsAt W a2 ts) => rangesP_any { lb with wa := a, wc := c } ts a2 c2 W hW hX hnb hm hg)
  unfold RngR at RGB
  simp only [(same_rngs lb _ _ ts).1, (same_rngs lb _ _ ts).2.1, (same_rngs lb _ _ ts).2.2, NH.eb] at RGB
  have SUB := Lib.hid (fun (a a2 : Option Addr) (c c2 : Nat) W (hW : WdsAt W a lb.ws) (hg : ∀ g o, a = some ⟨g, o, none⟩ → g < W.heap.size) (hX : IntsAt W a2 ts) => sure_any { lb with wa := a, wc := c } ts a2 c2 W hW hX hnb hm hg)
  unfold SureR at SUB
  simp only [same_sure2 lb _ _ _, (same_rngs lb _ _ _).2.2, NH.eb] at SUB
  have MNB := Lib.hid (fun (a a2 : Option Addr) (c c2 : Nat) W (hW : WdsAt W a lb.ws) (hg : ∀ g o, a = some ⟨g, o, none⟩ → g < W.heap.size) (hX : IntsAt W a2 ts) => many_any { lb with wa := a, wc := c } ts a2 c2 W hW hX hnb hm hg)
  simp only [same_many lb _ _ _, (same_rngs lb _ _ _).2.2, NH.eb] at MNB
  have H1 := Lib.hid NH.len
  have H2 := Lib.hid NH.l10
  have H3 := Lib.hid NH.sure
  have H4 := Lib.hid NH.many
  have H5 := Lib.hid NH.c1
  have H6 := Lib.hid NH.c2
  have H7 := Lib.hid NH.rng
  unfold NewLan at LNA LNB
  unfold Lan.val at *
  clear hA hB hX hnl hna hnb hm NH
  generalize rngsL la ts = RA at *
  generalize rngsL lb ts = RB at *
  generalize sureL la ts = SA at *
  generalize sureL lb ts = SB at *
  generalize manyN la ts = MA at *
  generalize manyN lb ts = MB at *
  generalize cntL (gofL la ts) = ca at *
  generalize cntL (gofL lb ts) = cb at *
  go_enter Try.func49, Try.ntmps49
  go_wp2_with fail
  generalize (w.alloc _).alloc _ = W0 at X I1 ⊢
  have k0 := X.out.a.cell 0 (show _ = some (Value.int .i64 la.fs) from rfl)
  have k1 := X.out.a.cell 1 (show _ = some (Value.slice la.wa la.ws.length la.wc) from rfl)
  go_wp2_with fail
  refine (LNA.out _ X.out.bl).mono ?_
  rintro e w3 ⟨a3, c3, rfl, hW3, hg3, hb⟩
  replace X := Lib.hid (X.out.lo hb)
  replace I1 := Lib.hid (I1.out.lo hb)
  have W3 := Lib.hid hW3
  have G3 := Lib.hid hg3
  clear hW3 hg3 hb k0 k1
  go_wp2_with fail
  refine (LI.out _ _ _ I1.out N1.out).mono ?_
  rintro e w4 ⟨v4, rfl, ho, hb⟩
  obtain ⟨a4, c4, rfl⟩ := own_len ho
  have I4 := Lib.hid (own_intsAt ho).1
  replace X := Lib.hid (X.out.lo hb)
  replace I1 := Lib.hid (I1.out.lo hb)
  have W4 := Lib.hid (W3.out.lo hb)
  have G4 := Lib.hid (show ∀ g o, a3 = some ⟨g, o, none⟩ → g < w4.heap.size from fun g o e => Nat.lt_of_lt_of_le (G3.out g o e) hb.size)
  clear ho hb W3 G3
  have R4 := Lib.hid (RGA.out a3 a4 c3 c4 _ W4.out G4.out I4.out)
  clear W4 G4 I4
  go_wp2_with fail
  refine R4.out.mono ?_
  rintro e w5 ⟨a5, c5, rfl, hP, hB, hb⟩
  replace X := Lib.hid (X.out.lo hb)
  replace I1 := Lib.hid (I1.out.lo hb)
  have PA := Lib.hid hP
  clear hP hB hb R4
  have BA := below_al w5 (.cells #[.int .i64 ca.1, .int .i64 ca.2] 41)
  have KA := Lib.hid (Blk.new w5 #[.int .i64 ca.1, .int .i64 ca.2] 41)
  replace X := Lib.hid (X.out.lo BA)
  replace I1 := Lib.hid (I1.out.lo BA)
  replace PA := Lib.hid (PA.out.lo BA)
  clear BA
  have k0 := X.out.b.cell 0 (show _ = some (Value.int .i64 lb.fs) from rfl)
  have k1 := X.out.b.cell 1 (show _ = some (Value.slice lb.wa lb.ws.length lb.wc) from rfl)
  go_wp2_with fail
  refine (LNB.out _ X.out.bl).mono ?_
  rintro e w6 ⟨a3, c3, rfl, hW3, hg3, hb⟩
  replace X := Lib.hid (X.out.lo hb)
  replace I1 := Lib.hid (I1.out.lo hb)
  replace PA := Lib.hid (PA.out.lo hb)
  replace KA := Lib.hid (Blk.alt (p := fun _ => False) KA.out (Alt.of_below hb (fun k hk e => by omega)) id)
  have W3 := Lib.hid hW3
  have G3 := Lib.hid hg3
  clear hW3 hg3 hb k0 k1
  go_wp2_with fail
  refine (LI.out _ _ _ I1.out N1.out).mono ?_
  rintro e w7 ⟨v4, rfl, ho, hb⟩
  obtain ⟨a4, c4, rfl⟩ := own_len ho
  have I4 := Lib.hid (own_intsAt ho).1
  replace X := Lib.hid (X.out.lo hb)
  replace I1 := Lib.hid (I1.out.lo hb)
  replace PA := Lib.hid (PA.out.lo hb)
  replace KA := Lib.hid (Blk.alt (p := fun _ => False) KA.out (Alt.of_below hb (fun k hk e => by omega)) id)
  have W4 := Lib.hid (W3.out.lo hb)
  have G4 := Lib.hid (show ∀ g o, a3 = some ⟨g, o, none⟩ → g < w7.heap.size from fun g o e => Nat.lt_of_lt_of_le (G3.out g o e) hb.size)
  clear ho hb W3 G3
  have R4 := Lib.hid (RGB.out a3 a4 c3 c4 _ W4.out G4.out I4.out)
  clear W4 G4 I4
  go_wp2_with fail
  refine R4.out.mono ?_
  rintro e w8 ⟨a6, c6, rfl, hP, hB, hb⟩
  replace X := Lib.hid (X.out.lo hb)
  replace I1 := Lib.hid (I1.out.lo hb)
  replace PA := Lib.hid (PA.out.lo hb)
  replace KA := Lib.hid (Blk.alt (p := fun _ => False) KA.out (Alt.of_below hb (fun k hk e => by omega)) id)
  have PB := Lib.hid hP
  clear hP hB hb R4
  have BA := below_al w8 (.cells #[.int .i64 cb.1, .int .i64 cb.2] 41)
  have KB := Lib.hid (Blk.new w8 #[.int .i64 cb.1, .int .i64 cb.2] 41)
  replace X := Lib.hid (X.out.lo BA)
  replace I1 := Lib.hid (I1.out.lo BA)
  replace PA := Lib.hid (PA.out.lo BA)
  replace KA := Lib.hid (Blk.alt (p := fun _ => False) KA.out (Alt.of_below BA (fun k hk e => by omega)) id)
  replace PB := Lib.hid (PB.out.lo BA)
  clear BA
  have k0 := X.out.a.cell 0 (show _ = some (Value.int .i64 la.fs) from rfl)
  have k1 := X.out.a.cell 1 (show _ = some (Value.slice la.wa la.ws.length la.wc) from rfl)
  go_wp2_with fail
  refine (LNA.out _ X.out.bl).mono ?_
  rintro e w9 ⟨a3, c3, rfl, hW3, hg3, hb⟩
  replace X := Lib.hid (X.out.lo hb)
  replace I1 := Lib.hid (I1.out.lo hb)
  replace PA := Lib.hid (PA.out.lo hb)
  replace KA := Lib.hid (Blk.alt (p := fun _ => False) KA.out (Alt.of_below hb (fun k hk e => by omega)) id)
  replace PB := Lib.hid (PB.out.lo hb)
  replace KB := Lib.hid (Blk.alt (p := fun _ => False) KB.out (Alt.of_below hb (fun k hk e => by omega)) id)
  have W3 := Lib.hid hW3
  have G3 := Lib.hid hg3
  clear hW3 hg3 hb k0 k1
  go_wp2_with fail
  refine (LI.out _ _ _ I1.out N1.out).mono ?_
  rintro e w10 ⟨v4, rfl, ho, hb⟩
  obtain ⟨a4, c4, rfl⟩ := own_len ho
  have I4 := Lib.hid (own_intsAt ho).1
  replace X := Lib.hid (X.out.lo hb)
  replace I1 := Lib.hid (I1.out.lo hb)
  replace PA := Lib.hid (PA.out.lo hb)
  replace KA := Lib.hid (Blk.alt (p := fun _ => False) KA.out (Alt.of_below hb (fun k hk e => by omega)) id)
  replace PB := Lib.hid (PB.out.lo hb)
  replace KB := Lib.hid (Blk.alt (p := fun _ => False) KB.out (Alt.of_below hb (fun k hk e => by omega)) id)
  have W4 := Lib.hid (W3.out.lo hb)
  have G4 := Lib.hid (show ∀ g o, a3 = some ⟨g, o, none⟩ → g < w10.heap.size from fun g o e => Nat.lt_of_lt_of_le (G3.out g o e) hb.size)
  clear ho hb W3 G3
  have R4 := Lib.hid (SUA.out a3 a4 c3 c4 _ W4.out G4.out I4.out)
  clear W4 G4 I4
  go_wp2_with fail
  refine R4.out.mono ?_
  rintro e w11 ⟨a7, c7, rfl, hP, hB, hb⟩
  replace X := Lib.hid (X.out.lo hb)
  replace I1 := Lib.hid (I1.out.lo hb)
  replace PA := Lib.hid (PA.out.lo hb)
  replace KA := Lib.hid (Blk.alt (p := fun _ => False) KA.out (Alt.of_below hb (fun k hk e => by omega)) id)
  replace PB := Lib.hid (PB.out.lo hb)
  replace KB := Lib.hid (Blk.alt (p := fun _ => False) KB.out (Alt.of_below hb (fun k hk e => by omega)) id)
  clear hP hB hb R4
  have k0 := X.out.b.cell 0 (show _ = some (Value.int .i64 lb.fs) from rfl)
  have k1 := X.out.b.cell 1 (show _ = some (Value.slice lb.wa lb.ws.length lb.wc) from rfl)
  go_wp2_with fail
  refine (LNB.out _ X.out.bl).mono ?_
  rintro e w12 ⟨a3, c3, rfl, hW3, hg3, hb⟩
  replace X := Lib.hid (X.out.lo hb)
  replace I1 := Lib.hid (I1.out.lo hb)
  replace PA := Lib.hid (PA.out.lo hb)
  replace KA := Lib.hid (Blk.alt (p := fun _ => False) KA.out (Alt.of_below hb (fun k hk e => by omega)) id)
  replace PB := Lib.hid (PB.out.lo hb)
  replace KB := Lib.hid (Blk.alt (p := fun _ => False) KB.out (Alt.of_below hb (fun k hk e => by omega)) id)
  have W3 := Lib.hid hW3
  have G3 := Lib.hid hg3
  clear hW3 hg3 hb k0 k1
  go_wp2_with fail
  refine (LI.out _ _ _ I1.out N1.out).mono ?_
  rintro e w13 ⟨v4, rfl, ho, hb⟩
  obtain ⟨a4, c4, rfl⟩ := own_len ho
  have I4 := Lib.hid (own_intsAt ho).1
  replace X := Lib.hid (X.out.lo hb)
  replace I1 := Lib.hid (I1.out.lo hb)
  replace PA := Lib.hid (PA.out.lo hb)
  replace KA := Lib.hid (Blk.alt (p := fun _ => False) KA.out (Alt.of_below hb (fun k hk e => by omega)) id)
  replace PB := Lib.hid (PB.out.lo hb)
  replace KB := Lib.hid (Blk.alt (p := fun _ => False) KB.out (Alt.of_below hb (fun k hk e => by omega)) id)
  have W4 := Lib.hid (W3.out.lo hb)
  have G4 := Lib.hid (show ∀ g o, a3 = some ⟨g, o, none⟩ → g < w13.heap.size from fun g o e => Nat.lt_of_lt_of_le (G3.out g o e) hb.size)
  clear ho hb W3 G3
  have R4 := Lib.hid (SUB.out a3 a4 c3 c4 _ W4.out G4.out I4.out)
  clear W4 G4 I4
  go_wp2_with fail
  refine R4.out.mono ?_
  rintro e w14 ⟨a8, c8, rfl, hP, hB, hb⟩
  replace X := Lib.hid (X.out.lo hb)
  replace I1 := Lib.hid (I1.out.lo hb)
  replace PA := Lib.hid (PA.out.lo hb)
  replace KA := Lib.hid (Blk.alt (p := fun _ => False) KA.out (Alt.of_below hb (fun k hk e => by omega)) id)
  replace PB := Lib.hid (PB.out.lo hb)
  replace KB := Lib.hid (Blk.alt (p := fun _ => False) KB.out (Alt.of_below hb (fun k hk e => by omega)) id)
  clear hP hB hb R4
  have k0 := X.out.a.cell 0 (show _ = some (Value.int .i64 la.fs) from rfl)
  have k1 := X.out.a.cell 1 (show _ = some (Value.slice la.wa la.ws.length la.wc) from rfl)
  go_wp2_with fail
  refine (LNA.out _ X.out.bl).mono ?_
  rintro e w15 ⟨a3, c3, rfl, hW3, hg3, hb⟩
  replace X := Lib.hid (X.out.lo hb)
  replace I1 := Lib.hid (I1.out.lo hb)
  replace PA := Lib.hid (PA.out.lo hb)
  replace KA := Lib.hid (Blk.alt (p := fun _ => False) KA.out (Alt.of_below hb (fun k hk e => by omega)) id)
  replace PB := Lib.hid (PB.out.lo hb)
  replace KB := Lib.hid (Blk.alt (p := fun _ => False) KB.out (Alt.of_below hb (fun k hk e => by omega)) id)
  have W3 := Lib.hid hW3
  have G3 := Lib.hid hg3
  clear hW3 hg3 hb k0 k1
  go_wp2_with fail
  refine (LI.out _ _ _ I1.out N1.out).mono ?_
  rintro e w16 ⟨v4, rfl, ho, hb⟩
  obtain ⟨a4, c4, rfl⟩ := own_len ho
  have I4 := Lib.hid (own_intsAt ho).1
  replace X := Lib.hid (X.out.lo hb)
  replace I1 := Lib.hid (I1.out.lo hb)
  replace PA := Lib.hid (PA.out.lo hb)
  replace KA := Lib.hid (Blk.alt (p := fun _ => False) KA.out (Alt.of_below hb (fun k hk e => by omega)) id)
  replace PB := Lib.hid (PB.out.lo hb)
  replace KB := Lib.hid (Blk.alt (p := fun _ => False) KB.out (Alt.of_below hb (fun k hk e => by omega)) id)
  have W4 := Lib.hid (W3.out.lo hb)
  have G4 := Lib.hid (show ∀ g o, a3 = some ⟨g, o, none⟩ → g < w16.heap.size from fun g o e => Nat.lt_of_lt_of_le (G3.out g o e) hb.size)
  clear ho hb W3 G3
  have R4 := Lib.hid (MNA.out a3 a4 c3 c4 _ W4.out G4.out I4.out)
  clear W4 G4 I4
  go_wp2_with fail
  refine R4.out.mono ?_
  rintro e w17 ⟨rfl, hb⟩
  replace X := Lib.hid (X.out.lo hb)
  replace I1 := Lib.hid (I1.out.lo hb)
  replace PA := Lib.hid (PA.out.lo hb)
  replace KA := Lib.hid (Blk.alt (p := fun _ => False) KA.out (Alt.of_below hb (fun k hk e => by omega)) id)
  replace PB := Lib.hid (PB.out.lo hb)
  replace KB := Lib.hid (Blk.alt (p := fun _ => False) KB.out (Alt.of_below hb (fun k hk e => by omega)) id)
  clear hb R4
  have k0 := X.out.b.cell 0 (show _ = some (Value.int .i64 lb.fs) from rfl)
  have k1 := X.out.b.cell 1 (show _ = some (Value.slice lb.wa lb.ws.length lb.wc) from rfl)
  go_wp2_with fail
  refine (LNB.out _ X.out.bl).mono ?_
  rintro e w18 ⟨a3, c3, rfl, hW3, hg3, hb⟩
  replace X := Lib.hid (X.out.lo hb)
  replace I1 := Lib.hid (I1.out.lo hb)
  replace PA := Lib.hid (PA.out.lo hb)
  replace KA := Lib.hid (Blk.alt (p := fun _ => False) KA.out (Alt.of_below hb (fun k hk e => by omega)) id)
  replace PB := Lib.hid (PB.out.lo hb)
  replace KB := Lib.hid (Blk.alt (p := fun _ => False) KB.out (Alt.of_below hb (fun k hk e => by omega)) id)
  have W3 := Lib.hid hW3
  have G3 := Lib.hid hg3
  clear hW3 hg3 hb k0 k1
  go_wp2_with fail
  refine (LI.out _ _ _ I1.out N1.out).mono ?_
  rintro e w19 ⟨v4, rfl, ho, hb⟩
  obtain ⟨a4, c4, rfl⟩ := own_len ho
  have I4 := Lib.hid (own_intsAt ho).1
  replace X := Lib.hid (X.out.lo hb)
  replace I1 := Lib.hid (I1.out.lo hb)
  replace PA := Lib.hid (PA.out.lo hb)
  replace KA := Lib.hid (Blk.alt (p := fun _ => False) KA.out (Alt.of_below hb (fun k hk e => by omega)) id)
  replace PB := Lib.hid (PB.out.lo hb)
  replace KB := Lib.hid (Blk.alt (p := fun _ => False) KB.out (Alt.of_below hb (fun k hk e => by omega)) id)
  have W4 := Lib.hid (W3.out.lo hb)
  have G4 := Lib.hid (show ∀ g o, a3 = some ⟨g, o, none⟩ → g < w19.heap.size from fun g o e => Nat.lt_of_lt_of_le (G3.out g o e) hb.size)
  clear ho hb W3 G3
  have R4 := Lib.hid (MNB.out a3 a4 c3 c4 _ W4.out G4.out I4.out)
  clear W4 G4 I4
  go_wp2_with fail
  refine R4.out.mono ?_
  rintro e w20 ⟨rfl, hb⟩
  replace X := Lib.hid (X.out.lo hb)
  replace I1 := Lib.hid (I1.out.lo hb)
  replace PA := Lib.hid (PA.out.lo hb)
  replace KA := Lib.hid (Blk.alt (p := fun _ => False) KA.out (Alt.of_below hb (fun k hk e => by omega)) id)
  replace PB := Lib.hid (PB.out.lo hb)
  replace KB := Lib.hid (Blk.alt (p := fun _ => False) KB.out (Alt.of_below hb (fun k hk e => by omega)) id)
  clear hb R4
  clear LI LNA LNB RGA RGB SUA SUB MNA MNB I1
  have k0 := KA.out.cell 0 (show _ = some (Value.int .i64 ca.1) from rfl)
  have k1 := KA.out.cell 1 (show _ = some (Value.int .i64 ca.2) from rfl)
  have k2 := KB.out.cell 0 (show _ = some (Value.int .i64 cb.1) from rfl)
  have k3 := KB.out.cell 1 (show _ = some (Value.int .i64 cb.2) from rfl)
  obtain ⟨n, hn⟩ : ∃ n, Hid (n = RA.length) := ⟨_, Lib.hid rfl⟩
  have hnb : RB.length = n := by rw [hn.out, H1.out]
  rw [hnb]
  rw [← hn.out]
  have HNB := Lib.hid hnb
  clear hnb
  have d1 : ((n : Int) != (n : Int)) = false := by simp
  obtain ⟨p, hp⟩ : ∃ p : Nat, Hid (p = SA.length) := ⟨_, Lib.hid rfl⟩
  obtain ⟨q, hq⟩ : ∃ q : Nat, Hid (q = SB.length) := ⟨_, Lib.hid rfl⟩
  rw [← hp.out, ← hq.out]
  have d2 : decide ((p : Int) < (q : Int)) = false := decide_eq_false (by rw [hp.out, hq.out]; have := H3.out; omega)
  have d3 : decide ((MB : Int) < (MA : Int)) = false := decide_eq_false (by have := H4.out; omega)
  have d4 : decide (ca.1 < cb.1) = false := decide_eq_false (by have := H5.out; omega)
  have d5 : decide (cb.2 < ca.2) = false := decide_eq_false (by have := H6.out; omega)
  have d2' : ¬ p < q := by rw [hp.out, hq.out]; have := H3.out; omega
  have d3' : ¬ MB < MA := by have := H4.out; omega
  have d2'' : decide (p < q) = false := decide_eq_false d2'
  have d3'' : decide (MB < MA) = false := decide_eq_false d3'
  go_wp2_with fail
  clear k0 k1 k2 k3 d1 d2 d3 d4 d5 d2' d3' d2'' d3''
  go_loopg [21] n (fun g s21 wx => ∃ i : Nat, i ≤ n ∧ g = n - i ∧ s21 = .int .i64 (i : Int) ∧ Hid (BX2 la lb w wx) ∧ Hid (P2At wx a5 RA) ∧ Hid (P2At wx a6 RB))
  case atStart => exact ⟨0, by omega, by omega, rfl, X, PA, PB⟩
  case round =>
    obtain ⟨i, hi, rfl, rfl, hX, hA, hB⟩ := hrel
    clear X PA PB
    by_cases hlt : i < n
    · have hz1 : (i : Int) < (n : Int) := by omega
      have hz0 : (0 : Int) ≤ (i : Int) := by omega
      have HI := Lib.hid hlt
      have E2 := Lib.hid (show IntKind.i64.wrap ((i : Int) + 1) = (i : Int) + 1 from IntWalk.i64_in _ (by have := H2.out; have := HNB.out; omega))
      obtain ⟨⟨x1, x2⟩, hx⟩ : ∃ x, RA[i]? = some x := ⟨RA[i]'(by rw [← hn.out]; exact hlt), List.getElem?_eq_getElem _⟩
      obtain ⟨⟨y1, y2⟩, hy⟩ : ∃ y, RB[i]? = some y := ⟨RB[i]'(by rw [HNB.out]; exact hlt), List.getElem?_eq_getElem _⟩
      obtain ⟨r1, r2⟩ := H7.out i _ _ hx hy
      obtain ⟨g5, o5, rfl, p1, p2⟩ := hA.out i _ hx
      obtain ⟨g6, o6, rfl, p3, p4⟩ := hB.out i _ hy
      simp only at p1 p2 p3 p4 r1 r2
      have d1 : decide (x1 < y1) = false := decide_eq_false (by omega)
      have d2 : decide (y2 < x2) = false := decide_eq_false (by omega)
      have m1 := fun u : Late wr => u.cell p1 (cell_lt p1)
      have m2 := fun u : Late wr => u.cell p2 (cell_lt p2)
      have m3 := fun u : Late wr => u.cell p3 (cell_lt p3)
      have m4 := fun u : Late wr => u.cell p4 (cell_lt p4)
      clear hx hy r1 r2 hlt hi
      go_wp2_with fail
      refine wp_region_late wr (Below.refl _ _) (by kernel_rfl) (by kernel_rfl) ?_
      repeat (go_big_quiet_step (fail))
      refine wpQuiet_nil ?_
      intro _ hw'
      obtain ⟨uq, hw''⟩ := hw'
      subst hw''
      have XN := Lib.hid (hX.out.lo uq.b)
      have AN := Lib.hid (hA.out.lo uq.b)
      have BN := Lib.hid (hB.out.lo uq.b)
      have e2 := E2.out
      clear m1 m2 m3 m4 p1 p2 p3 p4
      go_wp2_with fail
      go_roundg (n - (i + 1))
      case measure => have := HI.out; omega
      case rel => exact ⟨i + 1, by have := HI.out; omega, rfl, by simp, XN, AN, BN⟩
    · have hz1 : ¬ (i : Int) < (n : Int) := by omega
      clear hlt hi
      go_wp2_with fail
      go_returns
      exact ⟨rfl, hX.out.bl⟩

end Go.Proofs.Ytbbndcfnpfedpaa
