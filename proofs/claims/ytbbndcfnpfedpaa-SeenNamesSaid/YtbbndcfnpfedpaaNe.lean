/- SeenNames: the walk. -/
import Derived.Test.YtbbndcfnpfedpaaNo
import Derived.Deep.AppendLies
set_option linter.unusedVariables false
set_option linter.unusedSimpArgs false
namespace Go.Proofs.Ytbbndcfnpfedpaa
open Go.RowKit Go.Shelf Go.Maps

attribute [local go_sem] Oper.semAt_some



theorem below_alt {w W W' : World} {p : Nat → Prop} (h : Below w.heap.size w W) (ha : Alt p W W') (hp : ∀ k, p k → w.heap.size ≤ k) : Below w.heap.size w W' :=
  ((Alt.of_below (p := fun k => w.heap.size ≤ k) h (fun k _ e => e)).trans (ha.mono fun k _ e => hp k e)).below (Nat.le_refl _) fun _ e => e
def zeros155 : Array Value := Array.replicate 155 (.int .i64 0)
theorem made155 : madeCells (Value.agg #[.int .i64 0, .int .i64 0, .int .i64 0, .int .i64 0, .int .i64 0]).cells (31 * 5) = zeros155 := by kernel_rfl

set_option maxRecDepth 100000 in
set_option maxHeartbeats 16000000 in
theorem seenNames_any (w : World) : Calls Try.prog 8 #[] w fun e w' => e = .returned (.bool true) ∧ Below w.heap.size w w' := by
  have NI := Lib.hid (fun W => night_any W)
  unfold NightR at NI
  have N2 := Lib.hid (fun W => night2_any W)
  unfold Night2 at N2
  have hv : ∀ a c, (nightL a c).val = .agg #[.int .i64 2, .slice a 5 c] := fun a c => rfl
  simp only [hv] at NI
  clear hv
  have I0 := Lib.hid (fun W => ints_newS W [0] 3)
  have I1 := Lib.hid (fun W => ints_newS W [1] 3)
  have I2 := Lib.hid (fun W => ints_newS W [2] 3)
  have I4 := Lib.hid (fun W => ints_newS W [4] 3)
  have I11 := Lib.hid (fun W => ints_newS W [1, 1] 3)
  have WO := Lib.hid (fun f b t l m W => word_any f b t l m W)
  have BB := Lib.hid (Below.refl w.heap.size w)
  obtain ⟨i70, hi70, hx0, hx1, hx2⟩ := info_parts info70
  have hmk := Lib.hid (show ∀ W : World, (Instr.makeSlice 30 (.int .i64 31) (.int .i64 31)).run Try.prog W = .ok (.slice (some ⟨W.heap.size, 0, none⟩) 31 31) (W.alloc (.cells zeros155 70)) from fun W => by
    have h := run_makeSlice (P := Try.prog) W 30 70 i70 (.agg #[.int .i64 0, .int .i64 0, .int .i64 0, .int .i64 0, .int .i64 0]) Try.underlying30 hi70 hx0 .i64 .i64 31 31 (by omega) (by omega) (by rw [hx1]; decide) (by rw [hx2]; decide) (by decide)
    rw [h, hx1, show Int.toNat 31 * 5 = 31 * 5 from rfl, made155]; rfl)
  clear hi70 hx0 hx1 hx2
  go_enter Try.func8, Try.ntmps8
  go_wp2_with fail
  refine (NI.out _).mono ?_
  rintro e w1 ⟨a1, c1, rfl, hN, hg, hb⟩
  replace BB := Lib.hid (below_go BB.out hb)
  clear hb
  have BA := Lib.hid (below_al w1 (.cells #[.int .i64 0] 3))
  have X := Lib.hid (nc_exp0 a1 c1 w1.heap.size (w1.alloc (.cells #[.int .i64 0] 3)) (hN.lo BA.out) (fun g o e => Nat.lt_of_lt_of_le (hg g o e) BA.out.size) (I0.out w1))
  replace BB := Lib.hid (below_go BB.out BA.out)
  clear hN hg BA
  go_wp2_with fail
  refine X.out.mono ?_
  rintro e w2 ⟨rfl, hb⟩
  replace BB := Lib.hid (below_go BB.out hb)
  clear hb X
  go_wp2_with fail
  refine (NI.out _).mono ?_
  rintro e w3 ⟨a3, c3, rfl, hN, hg, hb⟩
  replace BB := Lib.hid (below_go BB.out hb)
  clear hb
  have BA := Lib.hid (below_al w3 (.cells #[.int .i64 2] 3))
  have X := Lib.hid (nc_many2 a3 c3 w3.heap.size (w3.alloc (.cells #[.int .i64 2] 3)) (hN.lo BA.out) (fun g o e => Nat.lt_of_lt_of_le (hg g o e) BA.out.size) (I2.out w3))
  replace BB := Lib.hid (below_go BB.out BA.out)
  clear hN hg BA
  go_wp2_with fail
  refine X.out.mono ?_
  rintro e w4 ⟨rfl, hb⟩
  replace BB := Lib.hid (below_go BB.out hb)
  clear hb X
  go_wp2_with fail
  refine (NI.out _).mono ?_
  rintro e w5 ⟨a5, c5, rfl, hN, hg, hb⟩
  replace BB := Lib.hid (below_go BB.out hb)
  clear hb
  have X := Lib.hid (nc_blame a5 c5 w5 hN hg)
  clear hN hg
  go_wp2_with fail
  refine X.out.mono ?_
  rintro e w6 ⟨rfl, hb⟩
  replace BB := Lib.hid (below_go BB.out hb)
  clear hb X
  go_wp2_with fail
  refine (NI.out _).mono ?_
  rintro e w7 ⟨a7, c7, rfl, hN, hg, hb⟩
  replace BB := Lib.hid (below_go BB.out hb)
  clear hb
  have BA := Lib.hid (below_al w7 (.cells #[.int .i64 1] 3))
  have X := Lib.hid (nc_sure1 a7 c7 w7.heap.size (w7.alloc (.cells #[.int .i64 1] 3)) (hN.lo BA.out) (fun g o e => Nat.lt_of_lt_of_le (hg g o e) BA.out.size) (I1.out w7))
  replace BB := Lib.hid (below_go BB.out BA.out)
  clear hN hg BA
  go_wp2_with fail
  refine X.out.mono ?_
  rintro e w8 ⟨aS, cS, rfl, hP, hgS, hb⟩
  replace BB := Lib.hid (below_go BB.out hb)
  clear hb X
  have PS := Lib.hid hP
  clear hP hgS
  go_wp2_with fail
  refine (N2.out _).mono ?_
  rintro e w9 ⟨g9, rfl, hN, hg, hb⟩
  have KO := Lib.hid (Blk.al hN (.cells #[.int .i64 2, .slice (some ⟨g9, 0, none⟩) 5 5] 32))
  have KM := Lib.hid (Blk.new w9 #[.int .i64 2, .slice (some ⟨g9, 0, none⟩) 5 5] 32)
  have HNE := Lib.hid (show g9 ≠ w9.heap.size by have := hN.lt; omega)
  have G8 := Lib.hid hg
  have M8 := Lib.hid hb.size
  have B8 := Lib.hid (below_go hb (below_al w9 (.cells #[.int .i64 2, .slice (some ⟨g9, 0, none⟩) 5 5] 32)))
  clear hb hN hg
  go_wp2_with fail
  generalize World.alloc w9 _ = wr at KO KM B8 ⊢
  generalize w9.heap.size = bm at KM HNE M8 ⊢
  have SK := Lib.hid (fun Wx (hb : Below wr.heap.size wr Wx) => (show Wx.cell? ⟨bm, 1, none⟩ = some (.slice (some ⟨g9, 0, none⟩) 5 5) from (Blk.lo3 KM.out hb).cell 1 rfl))
  go_cut [9] from 40 (fun s9 wx => ∃ gq cq : Nat, s9 = .pointer (some ⟨bm, 0, none⟩) ∧ Hid (MoreE w8 bm gq cq wx))
  case first =>
    have KM1 := KM.out.dr.cell 1 (show _ = some (Value.slice (some ⟨g9, 0, none⟩) 5 5) from rfl)
    go_region_law
        (first | ((go_simp); (go_at_call 42); (refine (WO.out _ _ _ _ _ _).mono ?_); (rintro e wv ⟨rfl, hbv⟩); (refine hv (T := Below wr.heap.size wr wv) ?_ ?_); (refine below_go ?_ hbv; (repeat (first | (with_reducible exact B1.out) | (with_reducible exact Below.refl _ _) | (with_reducible refine Below.drew ?_) | (with_reducible refine below_al2 ?_ _)))); (intro hB1; have B1 := Lib.hid hB1; have KM2 := (Blk.lo3 KM.out hB1).cell 1 (show _ = some (Value.slice (some ⟨g9, 0, none⟩) 5 5) from rfl); have KM3 := fun o => ((Blk.lo3 KM.out hB1).al o).cell 1 (show _ = some (Value.slice (some ⟨g9, 0, none⟩) 5 5) from rfl); clear hB1 hbv)) | ((refine armMore (w8 := w8) (g5 := g9) (bm := bm) ?_ ?_ HNE.out G8.out M8.out rfl rfl rfl rfl ?_ ?_ ?_); (refine Blk.lo3 KO.out ?_; (repeat (first | (with_reducible exact B1.out) | (with_reducible exact Below.refl _ _) | (with_reducible refine Below.drew ?_) | (with_reducible refine below_al2 ?_ _)))); (refine Blk.lo3 KM.out ?_; (repeat (first | (with_reducible exact B1.out) | (with_reducible exact Below.refl _ _) | (with_reducible refine Below.drew ?_) | (with_reducible refine below_al2 ?_ _)))); (first | exact Blk.new _ _ _ | exact (Blk.new _ _ _).dr); (refine below_go B8.out ?_; (repeat (first | (with_reducible exact B1.out) | (with_reducible exact Below.refl _ _) | (with_reducible refine Below.drew ?_) | (with_reducible refine below_al2 ?_ _)))); (intro gq cq w2 hF); (have t1 := hF.m.cell 1 rfl); (have f1 := hF.m.fr 1)))
    all_goals
      go_wp2_with fail
      go_meet
      exact ⟨_, _, rfl, Lib.hid hF.done⟩
  case rest =>
    obtain ⟨gq, cq, rfl, hE⟩ := hcut
    obtain ⟨hK, hW, hgq, hb8⟩ := hE.out
    have q0 := hK.cell 0 rfl
    have q1 := hK.cell 1 rfl
    have X := Lib.hid (nc_blameM (some ⟨gq, 0, none⟩) cq _ hW (fun g o e => by cases e; exact hgq))
    replace PS := Lib.hid (PS.out.lo hb8)
    replace BB := Lib.hid (below_go BB.out hb8)
    clear hE hK hW hgq hb8 SK KO KM HNE G8 M8 B8 WO
    go_wp2_with fail
    refine X.out.mono ?_
    rintro e w10 ⟨rfl, hb⟩
    replace BB := Lib.hid (below_go BB.out hb)
    replace PS := Lib.hid (PS.out.lo hb)
    clear hb X q0 q1
    obtain ⟨gr, or, e, p0, p1⟩ := PS.out 0 (0, 0) rfl
    cases e
    simp only [Nat.zero_mul, Nat.add_zero] at p0 p1
    go_wp2_with fail
    refine (NI.out _).mono ?_
    rintro e w11 ⟨a11, c11, rfl, hN, hg, hb⟩
    replace BB := Lib.hid (below_go BB.out hb)
    clear hb
    clear p0 p1 PS
    have X := Lib.hid (pg1 a11 c11 w11 hN hg)
    clear hN hg
    go_wp2_with fail
    refine X.out.mono ?_
    rintro e w12 ⟨rfl, hb⟩
    replace BB := Lib.hid (below_go BB.out hb)
    clear hb X
    go_wp2_with fail
    refine (NI.out _).mono ?_
    rintro e w13 ⟨a13, c13, rfl, hN, hg, hb⟩
    replace BB := Lib.hid (below_go BB.out hb)
    clear hb
    have X := Lib.hid (pg2 a13 c13 w13 hN hg)
    clear hN hg
    go_wp2_with fail
    refine X.out.mono ?_
    rintro e w14 ⟨rfl, hb⟩
    replace BB := Lib.hid (below_go BB.out hb)
    clear hb X
    go_wp2_with fail
    refine (NI.out _).mono ?_
    rintro e w15 ⟨a15, c15, rfl, hN, hg, hb⟩
    replace BB := Lib.hid (below_go BB.out hb)
    clear hb
    have X := Lib.hid (pg3 a15 c15 w15 hN hg)
    clear hN hg
    go_wp2_with fail
    refine X.out.mono ?_
    rintro e w16 ⟨rfl, hb⟩
    replace BB := Lib.hid (below_go BB.out hb)
    clear hb X
    go_wp2_with fail
    refine (NI.out _).mono ?_
    rintro e w17 ⟨a17, c17, rfl, hN, hg, hb⟩
    replace BB := Lib.hid (below_go BB.out hb)
    clear hb
    have X := Lib.hid (pg4 a17 c17 w17 hN hg)
    clear hN hg
    go_wp2_with fail
    refine X.out.mono ?_
    rintro e w18 ⟨rfl, hb⟩
    replace BB := Lib.hid (below_go BB.out hb)
    clear hb X
    go_wp2_with fail
    refine (NI.out _).mono ?_
    rintro e w19 ⟨a19, c19, rfl, hN, hg, hb⟩
    replace BB := Lib.hid (below_go BB.out hb)
    clear hb
    have BA := Lib.hid (below_al w19 (.cells #[.int .i64 1, .int .i64 1] 3))
    have X := Lib.hid (nc_exp11 a19 c19 w19.heap.size (w19.alloc (.cells #[.int .i64 1, .int .i64 1] 3)) (hN.lo BA.out) (fun g o e => Nat.lt_of_lt_of_le (hg g o e) BA.out.size) (I11.out w19))
    replace BB := Lib.hid (below_go BB.out BA.out)
    clear hN hg BA
    go_wp2_with fail
    refine X.out.mono ?_
    rintro e w20 ⟨rfl, hb⟩
    replace BB := Lib.hid (below_go BB.out hb)
    clear hb X
    go_wp2_with fail
    refine (NI.out _).mono ?_
    rintro e w21 ⟨a21, c21, rfl, hN, hg, hb⟩
    replace BB := Lib.hid (below_go BB.out hb)
    clear hb
    have BA := Lib.hid (below_al w21 (.cells #[.int .i64 4] 3))
    have X := Lib.hid (nc_rng4 a21 c21 w21.heap.size (w21.alloc (.cells #[.int .i64 4] 3)) (hN.lo BA.out) (fun g o e => Nat.lt_of_lt_of_le (hg g o e) BA.out.size) (I4.out w21))
    replace BB := Lib.hid (below_go BB.out BA.out)
    clear hN hg BA
    go_wp2_with fail
    refine X.out.mono ?_
    rintro e w22 ⟨aR, cR, rfl, hP, hgS, hb⟩
    replace BB := Lib.hid (below_go BB.out hb)
    clear hb X
    clear hP hgS
    go_wp2_with fail
    refine (NI.out _).mono ?_
    rintro e w23 ⟨a23, c23, rfl, hN, hg, hb⟩
    replace BB := Lib.hid (below_go BB.out hb)
    clear hb
    have X := Lib.hid (nc_manyn a23 c23 w23 hN hg)
    clear hN hg
    go_wp2_with fail
    refine X.out.mono ?_
    rintro e w24 ⟨rfl, hb⟩
    replace BB := Lib.hid (below_go BB.out hb)
    clear hb X
    go_wp2_with fail
    refine (NI.out _).mono ?_
    rintro e w25 ⟨a25, c25, rfl, hN, hg, hb⟩
    replace BB := Lib.hid (below_go BB.out hb)
    clear hb
    have BA := Lib.hid (below_al w25 (.cells #[.int .i64 0] 3))
    have X := Lib.hid (nc_sure0 a25 c25 w25.heap.size (w25.alloc (.cells #[.int .i64 0] 3)) (hN.lo BA.out) (fun g o e => Nat.lt_of_lt_of_le (hg g o e) BA.out.size) (I0.out w25))
    replace BB := Lib.hid (below_go BB.out BA.out)
    clear hN hg BA
    go_wp2_with fail
    refine X.out.mono ?_
    rintro e w26 ⟨aT, cT, rfl, hP, hgS, hb⟩
    replace BB := Lib.hid (below_go BB.out hb)
    clear hb X
    clear hP hgS
    go_wp2_with fail
    refine (N2.out _).mono ?_
    rintro e w27 ⟨g27, rfl, hN, hg, hb⟩
    have KN27 := Lib.hid hN
    have GN27 := Lib.hid hg
    replace BB := Lib.hid (below_go BB.out hb)
    clear hb hN hg
    have S27 := Lib.hid (show w.heap.size ≤ w27.heap.size from BB.out.size)
    go_wp2_with fail
    refine (N2.out _).mono ?_
    rintro e w28 ⟨g28, rfl, hN, hg, hb⟩
    have KN28 := Lib.hid hN
    have GN28 := Lib.hid hg
    replace BB := Lib.hid (below_go BB.out hb)
    replace KN27 := Lib.hid (Blk.alt (p := fun _ => False) KN27.out (Alt.of_below hb (fun k hk e => by omega)) id)
    clear hb hN hg
    have S28 := Lib.hid (show w.heap.size ≤ w28.heap.size from BB.out.size); have L28 := Lib.hid (show g28 < w28.heap.size from KN28.out.lt)
    go_wp2_with fail
    refine (N2.out _).mono ?_
    rintro e w29 ⟨g29, rfl, hN, hg, hb⟩
    have KN29 := Lib.hid hN
    have GN29 := Lib.hid hg
    replace BB := Lib.hid (below_go BB.out hb)
    replace KN27 := Lib.hid (Blk.alt (p := fun _ => False) KN27.out (Alt.of_below hb (fun k hk e => by omega)) id)
    replace KN28 := Lib.hid (Blk.alt (p := fun _ => False) KN28.out (Alt.of_below hb (fun k hk e => by omega)) id)
    clear hb hN hg
    have NE89 := Lib.hid (show g28 ≠ g29 from by have h1 := GN29.out; have h2 := L28.out; omega)
    have G28 := Lib.hid (show w.heap.size ≤ g28 from by have h1 := GN28.out; have h2 := S27.out; omega)
    have G29 := Lib.hid (show w.heap.size ≤ g29 from by have h1 := GN29.out; have h2 := S28.out; omega)
    have GM := Lib.hid (show w.heap.size ≤ w29.heap.size from BB.out.size)
    have N28 := Lib.hid (show g28 < w29.heap.size from KN28.out.lt); have N29 := Lib.hid (show g29 < w29.heap.size from KN29.out.lt)
    clear L28 S27 S28 GN27 GN28 GN29 KN27
    go_upto_region 15 with fail
    have KM := Lib.hid (Blk.al (Blk.al (Blk.new w29 #[.int .i64 2, .slice (some ⟨g27, 0, none⟩) 5 5] 32) (.cells #[.int .i64 2, .slice (some ⟨g28, 0, none⟩) 5 5] 32)) (.cells #[.int .i64 2, .slice (some ⟨g29, 0, none⟩) 5 5] 32))
    have KO := Lib.hid (Blk.al (Blk.nw1 w29 (.cells #[.int .i64 2, .slice (some ⟨g27, 0, none⟩) 5 5] 32) #[.int .i64 2, .slice (some ⟨g28, 0, none⟩) 5 5] 32) (.cells #[.int .i64 2, .slice (some ⟨g29, 0, none⟩) 5 5] 32))
    have KF := Lib.hid (Blk.nw2 w29 (.cells #[.int .i64 2, .slice (some ⟨g27, 0, none⟩) 5 5] 32) (.cells #[.int .i64 2, .slice (some ⟨g28, 0, none⟩) 5 5] 32) #[.int .i64 2, .slice (some ⟨g29, 0, none⟩) 5 5] 32)
    have BA := Lib.hid (below_al2 (below_al2 (below_al w29 (.cells #[.int .i64 2, .slice (some ⟨g27, 0, none⟩) 5 5] 32)) (.cells #[.int .i64 2, .slice (some ⟨g28, 0, none⟩) 5 5] 32)) (.cells #[.int .i64 2, .slice (some ⟨g29, 0, none⟩) 5 5] 32))
    replace KN28 := Lib.hid (KN28.out.lo3 BA.out); replace KN29 := Lib.hid (KN29.out.lo3 BA.out)
    replace BB := Lib.hid (below_go BB.out BA.out)
    clear BA
    generalize ((w29.alloc _).alloc _).alloc _ = wa at KM KO KF KN28 KN29 BB ⊢
    generalize w29.heap.size = bM at KM KO KF GM N28 N29 ⊢
    have KZ := Lib.hid (Blk.new wa zeros155 70)
    have NZ := Lib.hid (show bM + 1 + 1 < wa.heap.size from KF.out.lt)
    replace KM := Lib.hid (KM.out.al (.cells zeros155 70))
    replace KO := Lib.hid (KO.out.al (.cells zeros155 70))
    replace KF := Lib.hid (KF.out.al (.cells zeros155 70))
    replace KN28 := Lib.hid (KN28.out.al (.cells zeros155 70))
    replace KN29 := Lib.hid (KN29.out.al (.cells zeros155 70))
    replace BB := Lib.hid (below_al2 BB.out (.cells zeros155 70))
    have m1 := KM.out.cell 1 rfl; have m2 := KM.out.fr 1; have mk := hmk.out
    go_upto_region 16 with fail
    clear m1 m2 mk
    have AL := Lib.hid (show Alt (fun k => k = bM) (wa.alloc (.cells zeros155 70)) ((wa.alloc (.cells zeros155 70)).setCell ⟨bM, 1, none⟩ (.slice (some ⟨wa.heap.size, 0, none⟩) 31 31)) from (Alt.refl (fun k => k = bM) _).setCell (q := ⟨bM, 1, none⟩) rfl _)
    replace KM := Lib.hid (KM.out.setAt 1 (.slice (some ⟨wa.heap.size, 0, none⟩) 31 31))
    replace KZ := Lib.hid (KZ.out.alt AL.out (by have := NZ.out; omega))
    replace KO := Lib.hid (KO.out.alt AL.out (by omega)); replace KF := Lib.hid (KF.out.alt AL.out (by omega))
    replace KN28 := Lib.hid (KN28.out.alt AL.out (by have := N28.out; omega)); replace KN29 := Lib.hid (KN29.out.alt AL.out (by have := N29.out; omega))
    replace BB := Lib.hid (below_alt BB.out AL.out (fun k e => by have := GM.out; omega))
    clear AL
    generalize (wa.alloc (.cells zeros155 70)).setCell _ _ = wb at KM KZ KO KF KN28 KN29 BB ⊢
    generalize wa.heap.size = bZ at KM KZ NZ ⊢
    have m1 := KO.out.cell 1 rfl; have m2 := KN28.out.cell 4 rfl; have m3 := KN28.out.fr 4
    go_upto_region 17 with fail
    clear m1 m2 m3
    have AL := Lib.hid (show Alt (fun k => k = g28) wb (wb.setCell ⟨g28, 4, none⟩ (.int .i64 11)) from (Alt.refl (fun k => k = g28) _).setCell (q := ⟨g28, 4, none⟩) rfl _)
    have KW := Lib.hid (odd_at KN28.out).2
    replace KM := Lib.hid (KM.out.alt AL.out (by have := N28.out; omega))
    replace KZ := Lib.hid (KZ.out.alt AL.out (by have h1 := N28.out; have h2 := NZ.out; omega))
    replace KO := Lib.hid (KO.out.alt AL.out (by have := N28.out; omega))
    replace KF := Lib.hid (KF.out.alt AL.out (by have := N28.out; omega))
    replace KN29 := Lib.hid (KN29.out.alt AL.out (by have := NE89.out; omega))
    replace BB := Lib.hid (below_alt BB.out AL.out (fun k e => by have := G28.out; omega))
    clear AL KN28
    generalize wb.setCell _ _ = wc at KM KZ KO KF KN29 KW BB ⊢
    have m1 := KF.out.cell 1 rfl; have m2 := KN29.out.cell 0 rfl; have m3 := KN29.out.fr 0
    go_upto_region 18 with fail
    clear m1 m2 m3
    have AL := Lib.hid (show Alt (fun k => k = g29) wc (wc.setCell ⟨g29, 0, none⟩ (.int .i64 2)) from (Alt.refl (fun k => k = g29) _).setCell (q := ⟨g29, 0, none⟩) rfl _)
    have KV := Lib.hid (far_at KN29.out).2
    replace KW := Lib.hid (KW.out.alt AL.out (fun g o e => by cases e; exact NE89.out))
    replace KM := Lib.hid (KM.out.alt AL.out (by have := N29.out; omega))
    replace KZ := Lib.hid (KZ.out.alt AL.out (by have h1 := N29.out; have h2 := NZ.out; omega))
    replace KO := Lib.hid (KO.out.alt AL.out (by have := N29.out; omega))
    replace KF := Lib.hid (KF.out.alt AL.out (by have := N29.out; omega))
    replace BB := Lib.hid (below_alt BB.out AL.out (fun k e => by have := G29.out; omega))
    have KU := Lib.hid (many_at KZ.out)
    clear AL KN29 KZ
    generalize wc.setCell _ _ = wd at KM KO KF KU KW KV BB ⊢
    go_wp2_with fail
    refine (nc_free _).mono ?_
    rintro e we ⟨rfl, hb⟩
    replace KM := Lib.hid (KM.out.lo3 hb)
    replace KO := Lib.hid (KO.out.lo3 hb)
    replace KF := Lib.hid (KF.out.lo3 hb)
    replace KU := Lib.hid (KU.out.lo hb)
    replace KW := Lib.hid (KW.out.lo hb)
    replace KV := Lib.hid (KV.out.lo hb)
    replace BB := Lib.hid (below_go BB.out hb)
    clear hb
    have m1 := KM.out.cell 0 rfl; have m2 := KM.out.cell 1 rfl; have m3 := KO.out.cell 0 rfl; have m4 := KO.out.cell 1 rfl; have m5 := KF.out.cell 0 rfl; have m6 := KF.out.cell 1 rfl
    go_wp2_with fail
    refine (nc_ckM _ _ _ KU.out).mono ?_
    rintro e wf ⟨rfl, hb⟩
    clear m1 m2 m3 m4 m5 m6
    replace KM := Lib.hid (KM.out.lo3 hb)
    replace KO := Lib.hid (KO.out.lo3 hb)
    replace KF := Lib.hid (KF.out.lo3 hb)
    replace KU := Lib.hid (KU.out.lo hb)
    replace KW := Lib.hid (KW.out.lo hb)
    replace KV := Lib.hid (KV.out.lo hb)
    replace BB := Lib.hid (below_go BB.out hb)
    clear hb
    have m1 := KM.out.cell 0 rfl; have m2 := KM.out.cell 1 rfl; have m3 := KO.out.cell 0 rfl; have m4 := KO.out.cell 1 rfl; have m5 := KF.out.cell 0 rfl; have m6 := KF.out.cell 1 rfl
    go_wp2_with fail
    refine (nc_ckO _ _ _ KW.out).mono ?_
    rintro e wg ⟨rfl, hb⟩
    clear m1 m2 m3 m4 m5 m6
    replace KM := Lib.hid (KM.out.lo3 hb)
    replace KO := Lib.hid (KO.out.lo3 hb)
    replace KF := Lib.hid (KF.out.lo3 hb)
    replace KU := Lib.hid (KU.out.lo hb)
    replace KW := Lib.hid (KW.out.lo hb)
    replace KV := Lib.hid (KV.out.lo hb)
    replace BB := Lib.hid (below_go BB.out hb)
    clear hb
    have m1 := KM.out.cell 0 rfl; have m2 := KM.out.cell 1 rfl; have m3 := KO.out.cell 0 rfl; have m4 := KO.out.cell 1 rfl; have m5 := KF.out.cell 0 rfl; have m6 := KF.out.cell 1 rfl
    go_wp2_with fail
    refine (nc_ckF _ _ _ KV.out).mono ?_
    rintro e wh ⟨rfl, hb⟩
    clear m1 m2 m3 m4 m5 m6
    replace KM := Lib.hid (KM.out.lo3 hb)
    replace KO := Lib.hid (KO.out.lo3 hb)
    replace KF := Lib.hid (KF.out.lo3 hb)
    replace KU := Lib.hid (KU.out.lo hb)
    replace KW := Lib.hid (KW.out.lo hb)
    replace KV := Lib.hid (KV.out.lo hb)
    replace BB := Lib.hid (below_go BB.out hb)
    clear hb
    go_wp2_with fail
    refine (nc_ckE _).mono ?_
    rintro e wi ⟨rfl, hb⟩
    replace BB := Lib.hid (below_go BB.out hb)
    clear hb
    go_wp2_with fail
    refine (wakes_any _).mono ?_
    rintro e wj ⟨rfl, hb⟩
    replace BB := Lib.hid (below_go BB.out hb)
    clear hb
    go_wp2_with fail
    exact bodyPost_ret (results_tmp rfl _ _ _) rfl ⟨by rfl, BB.out⟩
end Go.Proofs.Ytbbndcfnpfedpaa