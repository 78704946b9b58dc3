/- The walk of SeenBehind. -/
import Derived.Test.YtbbndcfnpfedpaaTd
set_option linter.unusedVariables false
set_option linter.unusedSimpArgs false
namespace Go.Proofs.Ytbbndcfnpfedpaa
open Go.RowKit Go.Shelf Go.Maps

attribute [local go_sem] Oper.semAt_some

/-- What holds of a world behind the argument's box. -/
structure BX (l : Lan) (w W : World) : Prop where
  b : Blk W w.heap.size #[.int .i64 l.fs, .slice l.wa l.ws.length l.wc] 24
  bl : Below w.heap.size w W
theorem BX.lo {l : Lan} {w W W' : World} (h : BX l w W) (hb : Below W.heap.size W W') : BX l w W' :=
  ⟨Blk.alt (p := fun _ => False) h.b (Alt.of_below hb (fun k hk e => by omega)) id, below_go h.bl hb⟩
theorem BX.dr {l : Lan} {w W : World} (h : BX l w W) : BX l w W.drew := ⟨Blk.alt (p := fun _ => False) h.b (Alt.refl _ _).drew id, h.bl.drew⟩
theorem BX.mk' (l : Lan) (w : World) : BX l w (w.alloc (.cells #[.int .i64 l.fs, .slice l.wa l.ws.length l.wc] 24)) := ⟨Blk.new _ _ _, below_al _ _⟩

theorem same_rngs (l : Lan) (a : Option Addr) (c : Nat) (ts : List Int) : rngsL { l with wa := a, wc := c } ts = rngsL l ts ∧ cntL (gofL { l with wa := a, wc := c } ts) = cntL (gofL l ts) ∧ gofE { l with wa := a, wc := c } ts = gofE l ts := ⟨rfl, rfl, rfl⟩
theorem same_many (l : Lan) (a : Option Addr) (c : Nat) (ts : List Int) : manyN { l with wa := a, wc := c } ts = manyN l ts := rfl
theorem same_expl (l : Lan) (a : Option Addr) (c : Nat) (ts : List Int) : explB { l with wa := a, wc := c } ts = explB l ts ∧ chkE { l with wa := a, wc := c } ts = chkE l ts := ⟨rfl, rfl⟩

theorem two_new (W : World) (xs ys : Array Value) (t : TypeId) : Below W.heap.size W ((W.alloc (.cells xs t)).alloc (.cells ys t)).drew ∧ Blk ((W.alloc (.cells xs t)).alloc (.cells ys t)).drew W.heap.size xs t ∧ Blk ((W.alloc (.cells xs t)).alloc (.cells ys t)).drew (W.heap.size + 1) ys t := by
  refine ⟨(below_al2 (below_al _ _) _).drew, Blk.alt (p := fun _ => False) (Blk.new W _ _) (((Alt.refl _ _).alloc _).drew) id, ?_⟩
  have := Blk.alt (p := fun _ => False) (Blk.new (W.alloc (.cells xs t)) ys t) (Alt.refl _ _).drew id
  rwa [World.size_alloc] at this

set_option maxRecDepth 100000 in
set_option maxHeartbeats 16000000 in
theorem seenBehind_any (l : Lan) (u : Int) (w : World) (hL : WdsAt w l.wa l.ws) (_ : (l.ws.length : Int) ≤ 9223372036854775807) (h0 : 0 ≤ u) (h1 : u < 256) :
    Calls Try.prog 15 #[l.val, .int .u8 u] w fun e w' => e = .returned (.bool true) ∧ Below w.heap.size w w' := by
  have RD := Lib.hid (fun W (hb : Below w.heap.size w W) => ready_any l W (hL.lo hb))
  have CH := Lib.hid (fun W => chosen_any u W h0 h1)
  have WK := Lib.hid (fun W => wakes_any W)
  have HL := Lib.hid hL
  have X0 := Lib.hid (BX.mk' l w)
  obtain ⟨ts, hts⟩ : ∃ ts, Hid (ts = chosenL u) := ⟨_, Lib.hid rfl⟩
  rw [← hts.out] at CH
  have HTL := Lib.hid (show ts.length ≤ 1000 by have := chosenL_len u; rw [hts.out]; omega)
  have HRI := Lib.hid (show riseIn 0 3 ts = true by rw [hts.out]; exact chosenL_rise u)
  unfold RetJ at CH
  by_cases hF : faultW l = 0
  · have hF2 := hF
    have hR : decide (faultW l = 0) = true := by simp [hF]
    rw [hR] at RD
    have LN := Lib.hid (fun W (hb : Below w.heap.size w W) => lawLane_any l W (hL.lo hb) (by have := fault_len hF2; omega))
    have LI := Lib.hid (fun a c W (hX : IntsAt W a ts) (h0 : a = none → ts = [] ∧ c = 0) => lawlist_any ts a c W hX h0 HTL.out)
    have RG := Lib.hid (fun (a a2 : Option Addr) (c c2 : Nat) W (hW : WdsAt W a l.ws) (hg : ∀ g o, a = some ⟨g, o, none⟩ → g < W.heap.size) (hX : IntsAt W a2 ts) => rangesP_any { l with wa := a, wc := c } ts a2 c2 W hW hX (by have := fault_len hF2; show l.ws.length ≤ 1000; omega) HTL.out hg)
    unfold RngR at RG
    simp only [(same_rngs l _ _ ts).1, (same_rngs l _ _ ts).2.1, (same_rngs l _ _ ts).2.2] at RG
    unfold NewLan at LN
    have hfs := (fault0 hF2).2.2
    have HFS := Lib.hid (show 1 ≤ l.fs ∧ l.fs ≤ 5 from ⟨hfs.1, hfs.2.1⟩)
    have HLEN := Lib.hid (fault_len hF2)
    have HE := Lib.hid (show gofE l ts = 0 ∨ gofE l ts = 9 from by
      have hc : chkE l ts = 0 := by unfold chkE; rw [if_pos hF2, if_pos HRI.out]
      unfold gofE; rw [if_pos hc]; split
      · exact .inl rfl
      · exact .inr rfl)
    have HLN := Lib.hid (fun h => rngsL_len (l := l) (ts := ts) h)
    have HAT := Lib.hid (fun h f hf => rngs_at (l := l) (ts := ts) h (f := f) hf)
    have HBM := Lib.hid (fun h f hf => behind_math (games_ne (l := l) (ts := ts) h (f := f) hf))
    obtain ⟨E, hE⟩ : ∃ E, Hid (E = gofE l ts) := ⟨_, Lib.hid rfl⟩
    rw [← hE.out] at RG HE HLN HAT HBM
    unfold Lan.val at *
    clear hL h0 h1 hF hF2 hR hfs
    go_enter Try.func15, Try.ntmps15
    go_wp2_with fail
    generalize w.alloc _ = W0 at X0 ⊢
    have k0 := X0.out.b.cell 0 (show _ = some (Value.int .i64 l.fs) from rfl)
    have k1 := X0.out.b.cell 1 (show _ = some (Value.slice l.wa l.ws.length l.wc) from rfl)
    go_wp2_with fail
    refine (RD.out _ X0.out.bl).mono ?_
    rintro e w1 ⟨rfl, hb⟩
    have X1 := Lib.hid (X0.out.lo hb)
    clear hb k0 k1 X0 RD
    go_wp2_with fail
    refine (CH.out _).mono ?_
    rintro e w2 ⟨a2, c2, rfl, hI, hg, hnl, hb⟩
    have X2 := Lib.hid (X1.out.lo hb)
    have I2 := Lib.hid hI
    have N2 := Lib.hid hnl
    clear hI hg hnl hb X1 CH
    have k0 := X2.out.b.cell 0 (show _ = some (Value.int .i64 l.fs) from rfl)
    have k1 := X2.out.b.cell 1 (show _ = some (Value.slice l.wa l.ws.length l.wc) from rfl)
    go_wp2_with fail
    refine (LN.out _ X2.out.bl).mono ?_
    rintro e w3 ⟨a3, c3, rfl, hW3, hg3, hb⟩
    have X3 := Lib.hid (X2.out.lo hb)
    have I3 := Lib.hid (I2.out.lo hb)
    have W3 := Lib.hid hW3
    have G3 := Lib.hid hg3
    clear hW3 hg3 hb X2 I2 LN k0 k1
    go_wp2_with fail
    refine (LI.out _ _ _ I3.out N2.out).mono ?_
    rintro e w4 ⟨v4, rfl, ho, hb⟩
    obtain ⟨a4, c4, rfl⟩ := own_len ho
    have I4 := Lib.hid (own_intsAt ho).1
    have X4 := Lib.hid (X3.out.lo hb)
    have W4 := Lib.hid (W3.out.lo hb)
    have G4 := Lib.hid (show ∀ g o, a3 = some ⟨g, o, none⟩ → g < w4.heap.size from fun g o e => Nat.lt_of_lt_of_le (G3.out g o e) hb.size)
    have R4 := Lib.hid (RG.out a3 a4 c3 c4 w4 W4.out G4.out I4.out)
    clear ho hb X3 W3 G3 I3 LI RG N2
    go_wp2_with fail
    refine R4.out.mono ?_
    rintro e w5 ⟨a5, c5, rfl, hP, hB, hb⟩
    have X5 := Lib.hid (X4.out.lo hb)
    have P5 := Lib.hid hP
    clear hP hB hb X4 W4 G4 I4 R4
    by_cases hE0 : E = 0
    · subst hE0
      obtain ⟨F, hFN⟩ : ∃ F : Nat, l.fs = (F : Int) := ⟨l.fs.toNat, by have := HFS.out; omega⟩
      have hF5 : F ≤ 5 := by have := HFS.out; omega
      have hlen : (rngsL l ts).length = 2 * F := by rw [HLN.out rfl]; omega
      have HAT2 := Lib.hid (fun (f : Nat) (h : f < F) => HAT.out rfl f (by omega))
      have HBM2 := Lib.hid (fun (f : Nat) (h : f < F) => HBM.out rfl f (by omega))
      have X6 := Lib.hid (X5.out.lo (below_al w5 (.cells #[.int .i64 (cntL (gofL l ts)).1, .int .i64 (cntL (gofL l ts)).2] 41)))
      have P6 := Lib.hid (P5.out.lo (below_al w5 (.cells #[.int .i64 (cntL (gofL l ts)).1, .int .i64 (cntL (gofL l ts)).2] 41)))
      have e1 : IntKind.i64.wrap (2 * (F : Int)) = 2 * (F : Int) := IntWalk.i64_in _ (by omega)
      have hcast : ((2 * F : Nat) : Int) = 2 * (F : Int) := by omega
      have k0 := X6.out.b.cell 0 (show _ = some (Value.int .i64 l.fs) from rfl)
      rw [hFN] at k0
      rw [hlen]
      clear X5 P5 HE HLN HAT HBM
      go_wp2_with fail
      generalize World.alloc w5 _ = w6 at X6 P6 k0 ⊢
      clear e1 k0
      go_wp2_with fail
      go_loopg [9] F (fun g s9 wx => ∃ f : Nat, f ≤ F ∧ g = F - f ∧ s9 = .int .i64 (f : Int) ∧ Hid (BX l w wx) ∧ Hid (P2At wx a5 (rngsL l ts)))
      case atStart => exact ⟨0, by omega, by omega, rfl, X6, P6⟩
      case round =>
        obtain ⟨f, hf, rfl, rfl, hX, hP⟩ := hrel
        clear X6 P6
        have k0 := hX.out.b.cell 0 (show _ = some (Value.int .i64 l.fs) from rfl)
        have k1 := hX.out.b.cell 1 (show _ = some (Value.slice l.wa l.ws.length l.wc) from rfl)
        rw [hFN] at k0
        by_cases hlt : f < F
        · have hz1 : (f : Int) < (F : Int) := by omega
          have HFF := Lib.hid hlt
          clear hlt hf
          go_wp2_with fail
          go_loopg [10, 11] l.ws.length (fun g s10 s11 wx => ∃ i : Nat, i ≤ l.ws.length ∧ g = l.ws.length - i ∧ s11 = .int .i64 (i : Int) ∧ s10 = .bool (toldF (l.ws.take i) (f : Int)) ∧ Hid (BX l w wx) ∧ Hid (P2At wx a5 (rngsL l ts)))
          case atStart => exact ⟨0, by omega, by omega, rfl, rfl, hX, hP⟩
          case round =>
            obtain ⟨i, hi, rfl, rfl, rfl, hX, hP⟩ := hrel
            clear k0 k1
            have k0 := hX.out.b.cell 0 (show _ = some (Value.int .i64 l.fs) from rfl)
            have k1 := hX.out.b.cell 1 (show _ = some (Value.slice l.wa l.ws.length l.wc) from rfl)
            rw [hFN] at k0
            by_cases hli : i < l.ws.length
            · have hz2 : (i : Int) < (l.ws.length : Int) := by omega
              have hz3 : (0 : Int) ≤ (i : Int) := by omega
              obtain ⟨x, hx⟩ : ∃ x, l.ws[i]? = some x := ⟨l.ws[i]'hli, List.getElem?_eq_getElem _⟩
              obtain ⟨g, o, hla, q1, q2, _⟩ := HL.out _ _ hx
              rw [hla] at k1
              have c1 := cell_lo hX.out.bl q1
              have c2 := cell_lo hX.out.bl q2
              have e2 : IntKind.i64.wrap ((i : Int) + 1) = (i : Int) + 1 := IntWalk.i64_in _ (by have := HLEN.out; omega)
              have HT := Lib.hid (show toldF (l.ws.take (i + 1)) (f : Int) = (toldF (l.ws.take i) (f : Int) || (x.fr == (f : Int) && x.ba == 1)) by unfold toldF; rw [take_next hx, List.any_append]; simp)
              generalize toldF (l.ws.take i) (f : Int) = T at *
              obtain ⟨xf, xb, xt, xl, xm⟩ := x
              simp only at c1 c2 HT
              have HI := Lib.hid hli
              clear hx q1 q2 hli hi hla
              cases T
              · by_cases hfr : xf = (f : Int)
                · subst hfr
                  by_cases hba : xb = 1
                  · subst hba
                    go_wp2_with fail
                    go_roundg (l.ws.length - (i + 1))
                    case measure => have := HI.out; omega
                    case rel => exact ⟨i + 1, by have := HI.out; omega, rfl, by simp, by rw [HT.out]; simp, hX, hP⟩
                  · have hba2 : (xb == 1) = false := by simpa using hba
                    have HT2 := Lib.hid (show toldF (l.ws.take (i + 1)) (f : Int) = false by rw [HT.out]; simp [hba])
                    clear hba
                    go_wp2_with fail
                    go_roundg (l.ws.length - (i + 1))
                    case measure => have := HI.out; omega
                    case rel => exact ⟨i + 1, by have := HI.out; omega, rfl, by simp, by rw [HT2.out], hX, hP⟩
                · have hfr2 : (xf == (f : Int)) = false := by simpa using hfr
                  have HT2 := Lib.hid (show toldF (l.ws.take (i + 1)) (f : Int) = false by rw [HT.out]; simp [hfr])
                  clear hfr
                  go_wp2_with fail
                  go_roundg (l.ws.length - (i + 1))
                  case measure => have := HI.out; omega
                  case rel => exact ⟨i + 1, by have := HI.out; omega, rfl, by simp, by rw [HT2.out], hX, hP⟩
              · have HT2 := Lib.hid (show toldF (l.ws.take (i + 1)) (f : Int) = true by rw [HT.out]; simp)
                go_wp2_with fail
                go_roundg (l.ws.length - (i + 1))
                case measure => have := HI.out; omega
                case rel => exact ⟨i + 1, by have := HI.out; omega, rfl, by simp, by rw [HT2.out], hX, hP⟩
            · have hz2 : ¬ (i : Int) < (l.ws.length : Int) := by omega
              have HTE := Lib.hid (show toldF (l.ws.take i) (f : Int) = toldF l.ws (f : Int) by rw [List.take_of_length_le (by omega)])
              rw [HTE.out]
              obtain ⟨hA, hB⟩ := HAT2.out f HFF.out
              obtain ⟨m1, m2, m3⟩ := HBM2.out f HFF.out
              generalize spanL ((gamesL l.ws (offS ts) f).map fun p => p.1) = A at *
              generalize spanL ((gamesL l.ws (offS ts) f).map fun p => p.2) = B at *
              obtain ⟨g, o, ha5, p1, p2⟩ := hP.out _ _ hA
              obtain ⟨g', o', ha6, p3, p4⟩ := hP.out _ _ hB
              rw [ha5] at ha6
              cases ha6
              obtain ⟨i2, hi2⟩ : ∃ i2 : Nat, i2 = 2 * f := ⟨_, rfl⟩
              obtain ⟨i3, hi3⟩ : ∃ i3 : Nat, i3 = 2 * f + 1 := ⟨_, rfl⟩
              rw [← hi2] at p1 p2
              rw [← hi3] at p3 p4
              have e4 : IntKind.i64.wrap (2 * (f : Int)) = (i2 : Int) := by rw [show 2 * (f : Int) = (i2 : Int) by omega]; exact IntWalk.i64_in _ (by have := HFF.out; omega)
              have e5 : IntKind.i64.wrap ((i2 : Int) + 1) = (i3 : Int) := by rw [show (i2 : Int) + 1 = (i3 : Int) by omega]; exact IntWalk.i64_in _ (by have := HFF.out; omega)
              have e6 : IntKind.i64.wrap ((f : Int) + 1) = (f : Int) + 1 := IntWalk.i64_in _ (by have := HFF.out; omega)
              have z1 : (0 : Int) ≤ (i2 : Int) := by omega
              have z2 : (i2 : Int) < 2 * (F : Int) := by have := HFF.out; omega
              have z3 : (0 : Int) ≤ (i3 : Int) := by omega
              have z4 : (i3 : Int) < 2 * (F : Int) := by have := HFF.out; omega
              have n1 : ¬ A.1 < B.1 := by omega
              have n2 : ¬ A.2 < B.2 := by omega
              have HM3 := Lib.hid m3
              obtain ⟨A1, A2⟩ := A
              obtain ⟨B1, B2⟩ := B
              simp only at p1 p2 p3 p4 n1 n2 HM3
              subst ha5
              have SP := Lib.hid (show ∀ W, Alt (fun _ => False) wr W → (W.cell? ⟨g, o + i2 * 2, none⟩ = some (.int .i64 A1) ∧ W.cell? ⟨g, o + i2 * 2 + 1, none⟩ = some (.int .i64 A2) ∧ W.cell? ⟨g, o + i3 * 2, none⟩ = some (.int .i64 B1) ∧ W.cell? ⟨g, o + i3 * 2 + 1, none⟩ = some (.int .i64 B2)) from fun W hA => ⟨alt_cell hA p1 id, alt_cell hA p2 id, alt_cell hA p3 id, alt_cell hA p4 id⟩)
              have nn1 := World.new_ne wr _ p1
              have nn2 := World.new_ne wr _ p3
              have hgl : g < wr.heap.size := cell_lt p1
              have HGL := Lib.hid hgl
              have HXX := Lib.hid hX.out
              have HPP := Lib.hid hP.out
              clear hA hB m1 m2 m3 hi2 hi3 hi hli
              go_wp2_with fail
              go_cut [12, 13] from 108 (fun s12 s13 wx => ∃ b12 b13 : Nat, s12 = .pointer (some ⟨b12, 0, none⟩) ∧ s13 = .pointer (some ⟨b13, 0, none⟩) ∧ Hid (Below wr.heap.size wr wx) ∧ Hid (Blk wx b12 #[.int .i64 A1, .int .i64 A2] 41) ∧ Hid (Blk wx b13 #[.int .i64 B1, .int .i64 B2] 41))
              case first =>
                first
                | (go_region_held3 (fun W => W.cell? ⟨g, o + i2 * 2, none⟩ = some (.int .i64 A1) ∧ W.cell? ⟨g, o + i2 * 2 + 1, none⟩ = some (.int .i64 A2) ∧ W.cell? ⟨g, o + i3 * 2, none⟩ = some (.int .i64 B1) ∧ W.cell? ⟨g, o + i3 * 2 + 1, none⟩ = some (.int .i64 B2))
                    (go_keep) (fail))
                | fail "region"
                all_goals
                  go_wp2_with fail
                  go_meet
                  first
                  | exact ⟨_, _, rfl, rfl, Lib.hid (two_new wr _ _ _).1, Lib.hid (two_new wr _ _ _).2.1, Lib.hid (two_new wr _ _ _).2.2⟩
                  | exact ⟨_, _, rfl, rfl, Lib.hid (two_new wr _ _ _).1, Lib.hid (two_new wr _ _ _).2.2, Lib.hid (two_new wr _ _ _).2.1⟩
              case rest =>
                obtain ⟨b12, b13, rfl, rfl, hb, hA, hB⟩ := hcut
                have XN := Lib.hid (HXX.out.lo hb.out)
                have PN := Lib.hid (HPP.out.lo hb.out)
                have r0 := hA.out.cell 0 (show _ = some (Value.int .i64 A1) from rfl)
                have r1 := hA.out.cell 1 (show _ = some (Value.int .i64 A2) from rfl)
                have r2 := hB.out.cell 0 (show _ = some (Value.int .i64 B1) from rfl)
                have r3 := hB.out.cell 1 (show _ = some (Value.int .i64 B2) from rfl)
                clear p1 p2 p3 p4 nn1 nn2 hgl SP hX hP hA hB hb k0 k1
                generalize toldF l.ws (f : Int) = T at *
                cases T
                · have hB1 := HM3.out (by first | rfl | trivial)
                  subst hB1
                  go_wp2_with fail
                  go_roundg (F - (f + 1))
                  case measure => have := HFF.out; omega
                  case rel => exact ⟨f + 1, by have := HFF.out; omega, rfl, by simp, XN, PN⟩
                · go_wp2_with fail
                  go_roundg (F - (f + 1))
                  case measure => have := HFF.out; omega
                  case rel => exact ⟨f + 1, by have := HFF.out; omega, rfl, by simp, XN, PN⟩
        · have hz1 : ¬ (f : Int) < (F : Int) := by omega
          go_wp2_with fail
          refine (WK.out _).mono ?_
          rintro e w7 ⟨rfl, hb⟩
          have X7 := Lib.hid (hX.out.lo hb)
          clear hb
          go_wp2_with fail
          go_returns
          exact ⟨rfl, X7.out.bl⟩
    · have hE9 : E = 9 := by have := HE.out; omega
      subst hE9
      have X6 := Lib.hid (X5.out.lo (below_al w5 (.cells #[.int .i64 (cntL (gofL l ts)).1, .int .i64 (cntL (gofL l ts)).2] 41)))
      go_wp2_with fail
      refine (WK.out _).mono ?_
      rintro e w7 ⟨rfl, hb⟩
      have X7 := Lib.hid (X6.out.lo hb)
      clear hb
      go_wp2_with fail
      go_returns
      exact ⟨rfl, X7.out.bl⟩
  · have hR : decide (faultW l = 0) = false := by simp [hF]
    rw [hR] at RD
    unfold Lan.val at *
    clear hL h0 h1 hF hR
    go_enter Try.func15, Try.ntmps15
    go_wp2_with fail
    generalize w.alloc _ = W0 at X0 ⊢
    have k0 := X0.out.b.cell 0 (show _ = some (Value.int .i64 l.fs) from rfl)
    have k1 := X0.out.b.cell 1 (show _ = some (Value.slice l.wa l.ws.length l.wc) from rfl)
    go_wp2_with fail
    refine (RD.out _ X0.out.bl).mono ?_
    rintro e w1 ⟨rfl, hb⟩
    have X1 := Lib.hid (X0.out.lo hb)
    clear hb k0 k1 X0 RD
    go_wp2_with fail
    refine (WK.out _).mono ?_
    rintro e w2 ⟨rfl, hb⟩
    have X2 := Lib.hid (X1.out.lo hb)
    clear hb
    go_wp2_with fail
    go_returns
    exact ⟨rfl, X2.out.bl⟩

end Go.Proofs.Ytbbndcfnpfedpaa
