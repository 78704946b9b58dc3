/- The walk of SeenSures. -/
import Derived.Test.YtbbndcfnpfedpaaWa
set_option linter.unusedVariables false
set_option linter.unusedSimpArgs false
namespace Go.Proofs.Ytbbndcfnpfedpaa
open Go.RowKit Go.Shelf Go.Maps

attribute [local go_sem] Oper.semAt_some

theorem rngL_at {L : List (List (Int × Int))} {i : Nat} {x : (Int × Int) × (Int × Int)} (h : (rngL L)[i]? = some x) : x.1 = (((i / 2 : Nat) : Int), ((i % 2 : Nat) : Int)) := by
  have hl : i < 2 * L.length := by rw [← rngL_len]; exact (List.getElem?_eq_some_iff.1 h).1
  obtain ⟨h1, h2⟩ := flat_two (rngF L) (fun k => rfl) L.length (i / 2) (by omega)
  have hdm : i = 2 * (i / 2) + i % 2 := by omega
  unfold rngL at h
  rcases Nat.mod_two_eq_zero_or_one i with e | e
  · rw [e]
    generalize i / 2 = j at *
    obtain rfl : i = 2 * j := by omega
    rw [h1] at h
    have : x = (((j : Int), 0), spanL ((L.getD j []).map fun p => p.1)) := by simpa [rngF] using h.symm
    rw [this]; rfl
  · rw [e]
    generalize i / 2 = j at *
    obtain rfl : i = 2 * j + 1 := by omega
    rw [h2] at h
    have : x = (((j : Int), 1), spanL ((L.getD j []).map fun p => p.2)) := by simpa [rngF] using h.symm
    rw [this]; rfl
theorem sureP_app (A B : List ((Int × Int) × (Int × Int))) : sureP (A ++ B) = sureP A ++ sureP B := by unfold sureP; rw [List.filter_append, List.map_append]
theorem sureP_at {L : List ((Int × Int) × (Int × Int))} {i : Nat} {x : (Int × Int) × (Int × Int)} (h : L[i]? = some x) (hx : x.2.1 = x.2.2) : (sureP L)[(sureP (L.take i)).length]? = some x.1 ∧ (sureP (L.take (i + 1))).length = (sureP (L.take i)).length + 1 := by
  have h2 := take_next h
  refine ⟨?_, by rw [h2, sureP_yes _ _ hx]; simp⟩
  have e : L = L.take (i + 1) ++ L.drop (i + 1) := (List.take_append_drop _ _).symm
  have e3 : sureP L = (sureP (L.take i) ++ [x.1]) ++ sureP (L.drop (i + 1)) := by
    conv => lhs; rw [e]
    rw [sureP_app, h2, sureP_yes _ _ hx]
  rw [e3, List.append_assoc, List.getElem?_append_right (Nat.le_refl _)]
  simp
theorem sure_step (l : Lan) (ts : List Int) : ∃ cnt : Nat → Nat, cnt 0 = 0 ∧ cnt (rngsL l ts).length = (sureL l ts).length ∧ (∀ i, cnt i ≤ i) ∧ (∀ i y, (rngsL l ts)[i]? = some y → y.1 = y.2 → (sureL l ts)[cnt i]? = some (((i / 2 : Nat) : Int), ((i % 2 : Nat) : Int)) ∧ cnt (i + 1) = cnt i + 1) ∧ (∀ i y, (rngsL l ts)[i]? = some y → y.1 ≠ y.2 → cnt (i + 1) = cnt i) := by
  have at' : ∀ i y, (rngsL l ts)[i]? = some y → ∃ x : (Int × Int) × (Int × Int), (rngL (gofL l ts))[i]? = some x ∧ x.2 = y := fun i y h => by
    unfold rngsL at h
    rw [List.getElem?_map] at h
    cases hx : (rngL (gofL l ts))[i]? with
    | none => rw [hx] at h; cases h
    | some x => rw [hx] at h; exact ⟨x, hx, by simpa using h⟩
  refine ⟨fun i => (sureP ((rngL (gofL l ts)).take i)).length, rfl, ?_, fun i => ?_, fun i y h hy => ?_, fun i y h hy => ?_⟩
  · show (sureP ((rngL (gofL l ts)).take (rngsL l ts).length)).length = _
    unfold rngsL sureL
    rw [List.length_map, List.take_length]
  · have := sureP_len ((rngL (gofL l ts)).take i)
    rw [List.length_take] at this
    show (sureP ((rngL (gofL l ts)).take i)).length ≤ i
    omega
  · obtain ⟨x, hx, rfl⟩ := at' i y h
    obtain ⟨h1, h2⟩ := sureP_at hx hy
    rw [rngL_at hx] at h1
    exact ⟨h1, h2⟩
  · obtain ⟨x, hx, rfl⟩ := at' i y h
    show (sureP ((rngL (gofL l ts)).take (i + 1))).length = (sureP ((rngL (gofL l ts)).take i)).length
    rw [take_next hx, sureP_no _ _ hy]

theorem same_sure (l : Lan) (a : Option Addr) (c : Nat) (ts : List Int) : sureL { l with wa := a, wc := c } ts = sureL l ts := rfl
theorem sureL_no {l : Lan} {ts : List Int} (h : gofE l ts ≠ 0) : sureL l ts = [] := by unfold sureL; rw [gofL_no h]; rfl

set_option maxRecDepth 100000 in
set_option maxHeartbeats 8000000 in
theorem seenSures_any (l : Lan) (ts : List Int) (ta : Option Addr) (tc : Nat) (w : World) (hL : WdsAt w l.wa l.ws) (_ : (l.ws.length : Int) ≤ 9223372036854775807) (hX : IntsAt w ta ts) (hnl : ta = none → ts = [] ∧ tc = 0) :
    Calls Try.prog 5 #[l.val, .slice ta ts.length tc] w fun e w' => e = .returned (.bool true) ∧ Below w.heap.size w w' := by
  have TH := Lib.hid (fun W => thin_any l ta ts.length tc W)
  have WK := Lib.hid (fun W => wakes_any W)
  have X := Lib.hid (BX.mk' l w)
  have I1 := Lib.hid (hX.lo (below_al w (.cells #[.int .i64 l.fs, .slice l.wa l.ws.length l.wc] 24)))
  have N1 := Lib.hid hnl
  by_cases hT : (decide (l.ws.length ≤ 35) && decide (ts.length ≤ 8)) = true
  · have hT2 : l.ws.length ≤ 35 ∧ ts.length ≤ 8 := by simpa using hT
    rw [hT] at TH
    have hw1000 : l.ws.length ≤ 1000 := by omega
    have ht1000 : ts.length ≤ 1000 := by omega
    have LN := Lib.hid (fun W (hb : Below w.heap.size w W) => lawLane_any l W (hL.lo hb) hw1000)
    have LI1 := Lib.hid (fun a c W (hX : IntsAt W a ts) (h0 : a = none → ts = [] ∧ c = 0) => lawlist_any ts a c W hX h0 ht1000)
    have SU1 := Lib.hid (fun (a a2 : Option Addr) (c c2 : Nat) W (hW : WdsAt W a l.ws) (hg : ∀ g o, a = some ⟨g, o, none⟩ → g < W.heap.size) (hX : IntsAt W a2 ts) => sure_any { l with wa := a, wc := c } ts a2 c2 W hW hX hw1000 ht1000 hg)
    unfold SureR at SU1
    simp only [same_sure l _ _ _, (same_rngs l _ _ _).2.2] at SU1
    have MN1 := Lib.hid (fun (a a2 : Option Addr) (c c2 : Nat) W (hW : WdsAt W a l.ws) (hg : ∀ g o, a = some ⟨g, o, none⟩ → g < W.heap.size) (hX : IntsAt W a2 ts) => many_any { l with wa := a, wc := c } ts a2 c2 W hW hX hw1000 ht1000 hg)
    simp only [same_many l _ _ _, (same_rngs l _ _ _).2.2] at MN1
    have XP := Lib.hid (fun W (hb : Below w.heap.size w W) => explained_any l ts ta tc W (hL.lo hb) hw1000 (hX.lo hb) ht1000)
    have RF := Lib.hid (fun (h : gofE l ts = 0) W (hb : Below w.heap.size w W) => refRanges2 l ts ta tc W (hL.lo hb) (hX.lo hb) ht1000 h)
    have MR := Lib.hid (fun (h : gofE l ts = 0) W (hb : Below w.heap.size w W) => (show Calls Try.prog 31 #[l.val, .slice ta ts.length tc] W (fun e w' => e = .returned (.int .i64 ((manyN l ts : Nat) : Int)) ∧ Below W.heap.size W w') from by
      have h1 := many_ref l ts ta tc W (hL.lo hb) (hX.lo hb) ht1000 (chkE_zero (gofE_zero h).1).1
      unfold manyN
      rw [if_pos h, gofL_ok h]
      exact h1))
    have HNO := Lib.hid (show gofE l ts ≠ 0 → sureL l ts = [] ∧ manyN l ts = 0 from fun h => ⟨sureL_no h, by unfold manyN; rw [if_neg h]⟩)
    have HLN := Lib.hid (show (rngsL l ts).length ≤ 10 by unfold rngsL; rw [List.length_map, rngL_len]; have := gofL_len l ts; omega)
    obtain ⟨cnt, hc0, hcn, hci, hcy, hcz⟩ := sure_step l ts
    have C0 := Lib.hid hc0
    have CN := Lib.hid hcn
    have CI := Lib.hid hci
    have CY := Lib.hid hcy
    have CZ := Lib.hid hcz
    unfold NewLan at LN
    unfold Lan.val at *
    clear hL hX hnl hT hT2 hw1000 ht1000 hc0 hcn hci hcy hcz
    generalize rngsL l ts = R at *
    generalize sureL l ts = SL at *
    generalize manyN l ts = MM at *
    generalize cntL (gofL l ts) = cn at *
    generalize gofE l ts = E at *
    go_enter Try.func5, Try.ntmps5
    go_wp2_with fail
    generalize w.alloc _ = W0 at X I1 ⊢
    have k0 := X.out.b.cell 0 (show _ = some (Value.int .i64 l.fs) from rfl)
    have k1 := X.out.b.cell 1 (show _ = some (Value.slice l.wa l.ws.length l.wc) from rfl)
    go_wp2_with fail
    refine (TH.out _).mono ?_
    rintro e w2 ⟨rfl, hb⟩
    replace X := Lib.hid (X.out.lo hb)
    replace I1 := Lib.hid (I1.out.lo hb)
    clear hb k0 k1 TH
    have k0 := X.out.b.cell 0 (show _ = some (Value.int .i64 l.fs) from rfl)
    have k1 := X.out.b.cell 1 (show _ = some (Value.slice l.wa l.ws.length l.wc) from rfl)
    go_wp2_with fail
    refine (LN.out _ X.out.bl).mono ?_
    rintro e w3 ⟨a3, c3, rfl, hW3, hg3, hb⟩
    replace X := Lib.hid (X.out.lo hb)
    replace I1 := Lib.hid (I1.out.lo hb)
    have W3 := Lib.hid hW3
    have G3 := Lib.hid hg3
    clear hW3 hg3 hb k0 k1
    go_wp2_with fail
    refine (LI1.out _ _ _ I1.out N1.out).mono ?_
    rintro e w4 ⟨v4, rfl, ho, hb⟩
    obtain ⟨a4, c4, rfl⟩ := own_len ho
    have I4 := Lib.hid (own_intsAt ho).1
    replace X := Lib.hid (X.out.lo hb)
    replace I1 := Lib.hid (I1.out.lo hb)
    have W4 := Lib.hid (W3.out.lo hb)
    have G4 := Lib.hid (show ∀ g o, a3 = some ⟨g, o, none⟩ → g < w4.heap.size from fun g o e => Nat.lt_of_lt_of_le (G3.out g o e) hb.size)
    clear ho hb W3 G3
    go_wp2_with fail
    refine (SU1.out a3 a4 c3 c4 _ W4.out G4.out I4.out).mono ?_
    rintro e w5 ⟨a5, c5, rfl, hP, hB, hb⟩
    replace X := Lib.hid (X.out.lo hb)
    replace I1 := Lib.hid (I1.out.lo hb)
    have P1 := Lib.hid hP
    clear hb hP hB
    clear W4 G4 I4
    have k0 := X.out.b.cell 0 (show _ = some (Value.int .i64 l.fs) from rfl)
    have k1 := X.out.b.cell 1 (show _ = some (Value.slice l.wa l.ws.length l.wc) from rfl)
    go_wp2_with fail
    refine (LN.out _ X.out.bl).mono ?_
    rintro e w6 ⟨a3, c3, rfl, hW3, hg3, hb⟩
    replace X := Lib.hid (X.out.lo hb)
    replace I1 := Lib.hid (I1.out.lo hb)
    replace P1 := Lib.hid (P1.out.lo hb)
    have W3 := Lib.hid hW3
    have G3 := Lib.hid hg3
    clear hW3 hg3 hb k0 k1
    go_wp2_with fail
    refine (LI1.out _ _ _ I1.out N1.out).mono ?_
    rintro e w7 ⟨v4, rfl, ho, hb⟩
    obtain ⟨a4, c4, rfl⟩ := own_len ho
    have I4 := Lib.hid (own_intsAt ho).1
    replace X := Lib.hid (X.out.lo hb)
    replace I1 := Lib.hid (I1.out.lo hb)
    replace P1 := Lib.hid (P1.out.lo hb)
    have W4 := Lib.hid (W3.out.lo hb)
    have G4 := Lib.hid (show ∀ g o, a3 = some ⟨g, o, none⟩ → g < w7.heap.size from fun g o e => Nat.lt_of_lt_of_le (G3.out g o e) hb.size)
    clear ho hb W3 G3
    go_wp2_with fail
    refine (MN1.out a3 a4 c3 c4 _ W4.out G4.out I4.out).mono ?_
    rintro e w8 ⟨rfl, hb⟩
    replace X := Lib.hid (X.out.lo hb)
    replace I1 := Lib.hid (I1.out.lo hb)
    replace P1 := Lib.hid (P1.out.lo hb)
    clear hb
    clear W4 G4 I4
    have k0 := X.out.b.cell 0 (show _ = some (Value.int .i64 l.fs) from rfl)
    have k1 := X.out.b.cell 1 (show _ = some (Value.slice l.wa l.ws.length l.wc) from rfl)
    go_wp2_with fail
    refine (XP.out _ X.out.bl).mono ?_
    rintro e w9 ⟨rfl, hb⟩
    replace X := Lib.hid (X.out.lo hb)
    replace I1 := Lib.hid (I1.out.lo hb)
    replace P1 := Lib.hid (P1.out.lo hb)
    clear hb k0 k1
    by_cases hE : E = 0
    · subst hE
      have RF2 := Lib.hid (RF.out (by first | rfl | trivial))
      have MR2 := Lib.hid (MR.out (by first | rfl | trivial))
      clear RF MR HNO
      have k0 := X.out.b.cell 0 (show _ = some (Value.int .i64 l.fs) from rfl)
      have k1 := X.out.b.cell 1 (show _ = some (Value.slice l.wa l.ws.length l.wc) from rfl)
      go_wp2_with fail
      refine (RF2.out _ X.out.bl).mono ?_
      rintro e w10 ⟨a6, c6, rfl, hP, hb⟩
      replace X := Lib.hid (X.out.lo hb)
      replace I1 := Lib.hid (I1.out.lo hb)
      replace P1 := Lib.hid (P1.out.lo hb)
      have P2 := Lib.hid hP
      clear hb hP k0 k1
      have BA := below_al w10 (.cells #[.int .i64 cn.1, .int .i64 cn.2] 45)
      replace X := Lib.hid (X.out.lo BA)
      replace I1 := Lib.hid (I1.out.lo BA)
      replace P1 := Lib.hid (P1.out.lo BA)
      replace P2 := Lib.hid (P2.out.lo BA)
      clear BA
      go_wp2_with fail
      go_loopg [12, 13] R.length (fun g s12 s13 wx => ∃ i : Nat, i ≤ R.length ∧ g = R.length - i ∧ s13 = .int .i64 (i : Int) ∧ s12 = .int .i64 ((cnt i : Nat) : Int) ∧ Hid (BX l w wx) ∧ Hid (P2At wx a5 SL) ∧ Hid (P2At wx a6 R))
      case atStart => exact ⟨0, by omega, by omega, rfl, by rw [C0.out]; rfl, X, P1, P2⟩
      case round =>
        obtain ⟨i, hi, rfl, rfl, rfl, hX, hP1, hP2⟩ := hrel
        clear X P1 P2 I1
        have hl10 := HLN.out
        by_cases hlt : i < R.length
        · have hz0 : (0 : Int) ≤ (i : Int) := by omega
          have hz1 : (i : Int) < (R.length : Int) := by omega
          obtain ⟨y, hy⟩ : ∃ y, R[i]? = some y := ⟨R[i]'hlt, List.getElem?_eq_getElem _⟩
          obtain ⟨gb, ob, rfl, p3, p4⟩ := hP2.out i y hy
          have e2 : IntKind.i64.wrap ((i : Int) + 1) = (i : Int) + 1 := IntWalk.i64_in _ (by omega)
          have m3 := fun u : Late wr => u.cell p3 (cell_lt p3)
          have m4 := fun u : Late wr => u.cell p4 (cell_lt p4)
          have E2 := Lib.hid e2
          have HI := Lib.hid hlt
          have HCI := Lib.hid (CI.out i)
          by_cases hyy : y.1 = y.2
          · obtain ⟨hat, hnx⟩ := CY.out i y hy hyy
            obtain ⟨ga, oa, rfl, p1, p2⟩ := hP1.out _ _ hat
            have hcl : cnt i < SL.length := (List.getElem?_eq_some_iff.1 hat).1
            have HNX := Lib.hid hnx
            have d1 : (y.1 != y.2) = false := by simpa using hyy
            clear hat hnx hy p3 p4 hyy
            simp only at p1 p2
            generalize cnt i = ci at *
            have hc1 : decide ((SL.length : Int) ≤ (ci : Int)) = false := decide_eq_false (by omega)
            have hc2 : ¬ ((SL.length : Int) ≤ (ci : Int)) := by omega
            have hc0 : (0 : Int) ≤ (ci : Int) := by omega
            have hc3 : (ci : Int) < (SL.length : Int) := by omega
            have e3 : IntKind.i64.wrap ((ci : Int) + 1) = (ci : Int) + 1 := IntWalk.i64_in _ (by have := HCI.out; omega)
            have t1 : (((i / 2 : Nat) : Int) != Int.tdiv (i : Int) 2) = false := by rw [Int.tdiv_eq_ediv_of_nonneg (by omega)]; simp
            have t2 : (((i % 2 : Nat) : Int) != Int.tmod (i : Int) 2) = false := by rw [Int.tmod_eq_emod_of_nonneg (by omega)]; simp
            go_wp2_with fail
            refine wp_region_late wr (Below.refl _ _) (by kernel_rfl) (by kernel_rfl) ?_
            repeat (go_big_quiet_step (fail))
            refine wpQuiet_nil ?_
            intro _ hw'
            obtain ⟨uq, hw''⟩ := hw'
            subst hw''
            have XN := Lib.hid (hX.out.lo uq.b)
            have PN1 := Lib.hid (hP1.out.lo uq.b)
            have PN2 := Lib.hid (hP2.out.lo uq.b)
            have p1 := cell_lo uq.b p1
            have p2 := cell_lo uq.b p2
            clear m3 m4
            go_wp2_with fail
            go_roundg (R.length - (i + 1))
            case measure => have := HI.out; omega
            case rel => exact ⟨i + 1, by have := HI.out; omega, rfl, by simp, by rw [HNX.out]; first | rfl | simp, XN, PN1, PN2⟩
          · have HNX := Lib.hid (CZ.out i y hy hyy)
            have d1 : (y.1 != y.2) = true := by simpa using hyy
            clear hy p3 p4 hyy
            generalize hci : cnt i = ci at *
            go_wp2_with fail
            refine wp_region_late wr (Below.refl _ _) (by kernel_rfl) (by kernel_rfl) ?_
            repeat (go_big_quiet_step (fail))
            refine wpQuiet_nil ?_
            intro _ hw'
            obtain ⟨uq, hw''⟩ := hw'
            subst hw''
            have XN := Lib.hid (hX.out.lo uq.b)
            have PN1 := Lib.hid (hP1.out.lo uq.b)
            have PN2 := Lib.hid (hP2.out.lo uq.b)
            clear m3 m4
            go_wp2_with fail
            go_roundg (R.length - (i + 1))
            case measure => have := HI.out; omega
            case rel => exact ⟨i + 1, by have := HI.out; omega, rfl, by simp, by rw [HNX.out], XN, PN1, PN2⟩
        · have hz1 : ¬ (i : Int) < (R.length : Int) := by omega
          have hcc : cnt i = SL.length := by rw [show i = R.length by omega]; exact CN.out
          rw [hcc]
          clear hcc
          have k0 := hX.out.b.cell 0 (show _ = some (Value.int .i64 l.fs) from rfl)
          have k1 := hX.out.b.cell 1 (show _ = some (Value.slice l.wa l.ws.length l.wc) from rfl)
          have hss : ((SL.length : Int) == (SL.length : Int)) = true := by simp
          have hmm : ((MM : Int) == (MM : Int)) = true := by simp
          go_wp2_with fail
          refine (MR2.out _ hX.out.bl).mono ?_
          rintro e w97 ⟨rfl, hb⟩
          have X8 := Lib.hid (hX.out.lo hb)
          clear hb
          go_wp2_with fail
          refine (WK.out _).mono ?_
          rintro e w99 ⟨rfl, hb⟩
          have X9 := Lib.hid (X8.out.lo hb)
          clear hb
          go_wp2_with fail
          go_returns
          exact ⟨rfl, X9.out.bl⟩
    · have hE2 : (E == 0) = false := by simpa using hE
      obtain ⟨hR, hcn⟩ := HNO.out hE
      subst hR
      subst hcn
      have hEE : (E == E) = true := by simp
      clear hE HNO RF MR
      go_wp2_with fail
      refine (WK.out _).mono ?_
      rintro e w98 ⟨rfl, hb⟩
      have X9 := Lib.hid (X.out.lo hb)
      clear hb
      go_wp2_with fail
      go_returns
      exact ⟨rfl, X9.out.bl⟩
  · have hT2 : (decide (l.ws.length ≤ 35) && decide (ts.length ≤ 8)) = false := by simpa using hT
    rw [hT2] at TH
    unfold Lan.val at *
    clear hL hX hnl hT hT2
    go_enter Try.func5, Try.ntmps5
    go_wp2_with fail
    generalize w.alloc _ = W0 at X I1 ⊢
    have k0 := X.out.b.cell 0 (show _ = some (Value.int .i64 l.fs) from rfl)
    have k1 := X.out.b.cell 1 (show _ = some (Value.slice l.wa l.ws.length l.wc) from rfl)
    go_wp2_with fail
    refine (TH.out _).mono ?_
    rintro e w1 ⟨rfl, hb⟩
    replace X := Lib.hid (X.out.lo hb)
    clear hb k0 k1 TH I1
    go_wp2_with fail
    refine (WK.out _).mono ?_
    rintro e w2 ⟨rfl, hb⟩
    replace X := Lib.hid (X.out.lo hb)
    clear hb
    go_wp2_with fail
    go_returns
    exact ⟨rfl, X.out.bl⟩
end Go.Proofs.Ytbbndcfnpfedpaa
