/- The contract of the program's Blame. -/
import Derived.Test.YtbbndcfnpfedpaaXa
set_option linter.unusedVariables false
set_option linter.unusedSimpArgs false
namespace Go.Proofs.Ytbbndcfnpfedpaa
open Go.RowKit Go.Shelf Go.Maps

attribute [local go_sem] Oper.semAt_some

/-- What Blame answers: the teller, and the error. -/
def blmN (l : Lan) : Int := if faultW l = 0 then (if blameN l = -1 then 0 else blameN l) else 0
def blmE (l : Lan) : Int := if faultW l = 0 then (if blameN l = -1 then 7 else 0) else faultW l

/-- What stands behind Blame's first calls. -/
structure XB (l : Lan) (bM bMap bLn : Nat) (a : Option Addr) (b : Int) (n : Nat) (w W : World) : Prop where
  ex : EX l (possB l) bM bMap bLn n W
  li : IntsAt W a [b]
  bl : Below w.heap.size w W
theorem XB.lo {l : Lan} {bM bMap bLn : Nat} {a : Option Addr} {b : Int} {n : Nat} {w W W' : World} (h : XB l bM bMap bLn a b n w W) (hb : Below W.heap.size W W') : XB l bM bMap bLn a b n w W' :=
  ⟨h.ex.lo hb, h.li.lo hb, below_go h.bl hb⟩
theorem XB.next {l : Lan} {bM bMap bLn : Nat} {a : Option Addr} {b : Int} {n n' : Nat} {w W W' : World} (h : XB l bM bMap bLn a b n w W) (hx : EX l (possB l) bM bMap bLn n' W') (ha : Alt (fun k => k = bMap) W W') (hm : w.heap.size ≤ bMap) (hg : ∀ g o, a = some ⟨g, o, none⟩ → g ≠ bMap) : XB l bM bMap bLn a b n' w W' :=
  ⟨hx, h.li.alt ha (fun g o e => hg g o e), ((Alt.of_below (p := fun k => w.heap.size ≤ k) h.bl (fun k _ e => e)).trans (ha.mono fun k _ e => by omega)).below (Nat.le_refl _) fun _ e => e⟩

set_option maxRecDepth 100000 in
set_option maxHeartbeats 8000000 in
theorem blameP_any (l : Lan) (w : World) (hL : WdsAt w l.wa l.ws) (hn : l.ws.length ≤ 1000) (hga : ∀ g o, l.wa = some ⟨g, o, none⟩ → g < w.heap.size) :
    Calls Try.prog 33 #[l.val] w fun e w' => e = .returned (.tuple #[.int .i64 (blmN l), .int .i64 (blmE l)]) ∧ Below w.heap.size w w' := by
  have CL := Lib.hid (fun W (hb : Below w.heap.size w W) => checkLane_any l W (hL.lo hb) hn)
  have EP := Lib.hid (fun W (hb : Below w.heap.size w W) => explainer_any l W (hL.lo hb))
  have LE := Lib.hid (fun (hF : faultW l = 0) (bM bMap bLn : Nat) W (hb : Below w.heap.size w W) (hE : EX l (possB l) bM bMap bLn 0 W) (hne : bMap ≠ bM ∧ bMap ≠ bLn ∧ ∀ g o, l.wa = some ⟨g, o, none⟩ → bMap ≠ g) =>
    least_any l bM bMap bLn 0 W hE (fault0 hF).1 hn (by have := (fault0 hF).2.2.1; omega) (fault0 hF).2.2.2.1 (fun g o e => Nat.lt_of_lt_of_le (hga g o e) hb.size) (by omega) hne)
  have LS := Lib.hid (fun s W => list_any s W)
  have ASK := Lib.hid (fun (hF : faultW l = 0) (i : Nat) (hi : i < 4) (bM bMap bLn n : Nat) W (hz : w.heap.size ≤ W.heap.size) (hE : EX l (possB l) bM bMap bLn n W) (hnn : n ≤ 100000) (hne : bMap ≠ bM ∧ bMap ≠ bLn ∧ ∀ g o, l.wa = some ⟨g, o, none⟩ → bMap ≠ g) =>
    (show Calls Try.prog 83 #[fVal (withS noS [(i : Int)]), .pointer (some ⟨bM, 0, none⟩), .pointer (some ⟨bLn, 0, none⟩)] W (fun e w' => e = .returned (.bool (explB l [(i : Int)])) ∧ EX l (possB l) bM bMap bLn (n + 1) w' ∧ Alt (fun k => k = bMap) W w') from by
      have h4 : i = 0 ∨ i = 1 ∨ i = 2 ∨ i = 3 := by omega
      have hc : chkE l [(i : Int)] = 0 := chkE_ok hF (by rcases h4 with rfl | rfl | rfl | rfl <;> decide)
      have he : explB l [(i : Int)] = possB l (withS noS [(i : Int)]) := by unfold explB; rw [hc]; rfl
      rw [he]
      exact explain1_any l _ bM bMap bLn n W hE (fault0 hF).1 hn (by have := (fault0 hF).2.2.1; omega) (fault0 hF).2.2.2.1 (fun g o e => Nat.lt_of_lt_of_le (hga g o e) hz) hnn hne))
  have WI := Lib.hid (fun (i : Nat) (hi : i < 4) (g : Nat) W (hX : IntsAt W (some ⟨g, 0, none⟩) [(i : Int)]) => (show Calls Try.prog 64 #[fVal noS, .slice (some ⟨g, 0, none⟩) 1 1] W (fun e w' => e = .returned (fVal (withS noS [(i : Int)])) ∧ Below W.heap.size W w') from
    with_any noS [(i : Int)] _ 1 W hX (by intro x hx; obtain rfl : x = (i : Int) := by simpa using hx
                                          omega) (by simp)))
  have IN := Lib.hid (fun (i : Nat) W => ints_newS W [(i : Int)] 3)
  have HLL : Hid (faultW l = 0 → listS (leastS (possB l)) = leastN l) := Lib.hid (fun h => by rw [← leastL_find h]; unfold leastL; rw [if_pos h])
  have HBM := Lib.hid (blame_math l)
  have HBN : Hid (blmN l = if faultW l = 0 then (if blameN l = -1 then 0 else blameN l) else 0) := Lib.hid rfl
  have HBE : Hid (blmE l = if faultW l = 0 then (if blameN l = -1 then 7 else 0) else faultW l) := Lib.hid rfl
  have HGA := Lib.hid hga
  have B0 := Lib.hid (below_al w (.cells #[.int .i64 l.fs, .slice l.wa l.ws.length l.wc] 32))
  have K0 := Lib.hid (Blk.new w #[.int .i64 l.fs, .slice l.wa l.ws.length l.wc] 32)
  unfold LRes at LE
  unfold RetI at LS
  generalize blmN l = QN at *
  generalize blmE l = QE at *
  generalize leastS (possB l) = S at *
  generalize leastN l = LN at *
  generalize blameN l = BN at *
  generalize faultW l = F at *
  unfold Lan.val at *
  clear hL hn hga
  go_enter Try.func33, Try.ntmps33
  go_wp2_with fail
  generalize w.alloc _ = W0 at K0 B0 ⊢
  have k0 := K0.out.cell 0 (show _ = some (Value.int .i64 l.fs) from rfl)
  have k1 := K0.out.cell 1 (show _ = some (Value.slice l.wa l.ws.length l.wc) from rfl)
  go_wp2_with fail
  refine (CL.out _ B0.out).mono ?_
  rintro e w1 ⟨rfl, hb1⟩
  have B1 := Lib.hid (below_go B0.out hb1)
  have K1 := Lib.hid (Blk.alt (p := fun _ => False) K0.out (Alt.of_below hb1 (fun k hk e => by omega)) id)
  have Z1 := Lib.hid (Nat.le_trans B0.out.size hb1.size)
  clear hb1 B0 K0 CL k0 k1
  have k0 := K1.out.cell 0 (show _ = some (Value.int .i64 l.fs) from rfl)
  have k1 := K1.out.cell 1 (show _ = some (Value.slice l.wa l.ws.length l.wc) from rfl)
  by_cases hF : F = 0
  · subst hF
    have LE2 := Lib.hid (LE.out (by first | rfl | trivial))
    have ASK2 := Lib.hid (ASK.out (by first | rfl | trivial))
    have HLS := Lib.hid (HLL.out (by first | rfl | trivial))
    have HQN := Lib.hid (show QN = if BN = -1 then 0 else BN by rw [HBN.out, if_pos rfl])
    have HQE := Lib.hid (show QE = if BN = -1 then 7 else 0 by rw [HBE.out, if_pos rfl])
    clear LE ASK HLL HBN HBE
    go_wp2_with fail
    refine (EP.out _ B1.out).mono ?_
    rintro e w2 ⟨rfl, hx2, hb2, hz2⟩
    have B2 := Lib.hid (below_go B1.out hb2)
    have HNE := Lib.hid (show w1.heap.size + 1 ≠ w1.heap.size + 2 ∧ w1.heap.size + 1 ≠ w1.heap.size ∧ ∀ g o, l.wa = some ⟨g, o, none⟩ → w1.heap.size + 1 ≠ g from ⟨by omega, by omega, fun g o e => by have := HGA.out g o e; have := Z1.out; omega⟩)
    have L2 := Lib.hid (LE2.out _ _ _ w2 B2.out hx2 HNE.out)
    have ZM := Lib.hid (show w.heap.size ≤ w1.heap.size + 1 by have := Z1.out; omega)
    have Z2 := Lib.hid hz2
    generalize w1.heap.size + 1 = bMap at *
    generalize w1.heap.size + 2 = bM at *
    generalize w1.heap.size = bLn at *
    clear hx2 hb2 hz2 EP k0 k1 B1 LE2
    go_wp2_with fail
    refine L2.out.mono ?_
    rintro e w3 ⟨rfl, n3, hn3, hx3, ha3⟩
    have B3 := Lib.hid (((Alt.of_below (p := fun k => w.heap.size ≤ k) B2.out (fun k hk e => e)).trans (ha3.mono fun k _ e => by have := ZM.out; omega)).below (Nat.le_refl _) fun _ e => e)
    have L3 := Lib.hid (LS.out S w3)
    have X3 := Lib.hid hx3
    have HN3 := Lib.hid hn3
    have HMB := Lib.hid hx3.map_lt
    rw [HLS.out] at L3
    unfold fVal fCells at L3 ⊢
    clear hn3 hx3 ha3 L2 LS HLS
    go_wp2_with fail
    refine L3.out.mono ?_
    rintro e w4 ⟨a, c, rfl, hI, hB, hb4⟩
    have HAN := Lib.hid (show ∀ g o, a = some ⟨g, o, none⟩ → g ≠ bMap from fun g o e => by have := hB g o e; have := HMB.out; omega)
    by_cases h1 : LN.length = 1
    · obtain ⟨b, rfl⟩ : ∃ b, LN = [b] := List.length_eq_one_iff.1 h1
      obtain ⟨hb03, hbY, hbN⟩ := HBM.out.2 b rfl
      have HBY := Lib.hid hbY
      have HBN := Lib.hid hbN
      have HB03 := Lib.hid hb03
      have X4 := Lib.hid (show XB l bM bMap bLn a b n3 w w4 from ⟨X3.out.lo hb4, hI, below_go B3.out hb4⟩)
      clear hI hB hb4 L3 X3 B3 h1 hbY hbN hb03 HBM
      go_wp2_with fail
      go_loopg [7, 21] 4 (fun g s7 s21 wx => ∃ (i n' : Nat), i ≤ 4 ∧ g = 4 - i ∧ s21 = .int .i64 (i : Int) ∧ Hid (n' ≤ 3125 + i) ∧ Hid (XB l bM bMap bLn a b n' w wx) ∧ Hid (∀ j : Nat, j < i → (j : Int) ≠ b → explB l [(j : Int)] = false))
      case atStart => exact ⟨0, n3, by omega, by omega, rfl, Lib.hid (by have := HN3.out; omega), X4, Lib.hid (fun j h => by omega)⟩
      case round =>
        obtain ⟨i, n', hi, rfl, rfl, hn', hX, hno⟩ := hrel
        clear X4
        obtain ⟨ga, oa, rfl, c1⟩ := hX.out.li 0 b rfl
        simp only [Nat.add_zero] at c1
        by_cases hlt : i < 4
        · have hz1 : (i : Int) < 4 := by omega
          have e2 : IntKind.i64.wrap ((i : Int) + 1) = (i : Int) + 1 := IntWalk.i64_in _ (by omega)
          have HI := Lib.hid hlt
          have E2 := Lib.hid e2
          by_cases hib : (i : Int) = b
          · have d1 : ((i : Int) != b) = false := by simpa using hib
            have HNO := Lib.hid (show ∀ j : Nat, j < i + 1 → (j : Int) ≠ b → explB l [(j : Int)] = false from fun j h hne => by
              by_cases hj : j = i
              · subst hj; exact absurd hib hne
              · exact hno.out j (by omega) hne)
            have HN' := Lib.hid (show n' ≤ 3125 + (i + 1) by have := hn'.out; omega)
            clear hib hlt hi hno hn'
            go_wp2_with fail
            go_roundg (4 - (i + 1))
            case measure => have := HI.out; omega
            case rel => exact ⟨i + 1, n', by have := HI.out; omega, rfl, by simp, HN', hX, HNO⟩
          · have d1 : ((i : Int) != b) = true := by simpa using hib
            have BA := Lib.hid (below_al wr (.cells #[.int .i64 (i : Int)] 3))
            have XA := Lib.hid (hX.out.lo BA.out)
            have W1 := Lib.hid (WI.out i hlt wr.heap.size _ (IN.out i wr))
            have HIB := Lib.hid hib
            unfold fVal fCells noS at W1
            clear hib hlt hi e2 hX
            go_wp2_with fail
            refine W1.out.mono ?_
            rintro e w6 ⟨rfl, hb6⟩
            have X6 := Lib.hid (XA.out.lo hb6)
            have A1 := Lib.hid (ASK2.out i HI.out bM bMap bLn n' w6 X6.out.bl.size X6.out.ex (by have := hn'.out; have := HI.out; omega) HNE.out)
            unfold fVal fCells noS at A1
            clear hb6 XA BA W1 c1
            go_wp2_with fail
            refine A1.out.mono ?_
            rintro e w7 ⟨rfl, hx7, ha7⟩
            have X7 := Lib.hid (X6.out.next hx7 ha7 ZM.out HAN.out)
            clear hx7 ha7 X6 A1
            cases hEi : explB l [(i : Int)]
            · have HNO := Lib.hid (show ∀ j : Nat, j < i + 1 → (j : Int) ≠ b → explB l [(j : Int)] = false from fun j h hne => by
                by_cases hj : j = i
                · subst hj; exact hEi
                · exact hno.out j (by omega) hne)
              have HN' := Lib.hid (show n' + 1 ≤ 3125 + (i + 1) by have := hn'.out; omega)
              have e2 := E2.out
              clear hEi hno hn'
              go_wp2_with fail
              go_roundg (4 - (i + 1))
              case measure => have := HI.out; omega
              case rel => exact ⟨i + 1, n' + 1, by have := HI.out; omega, rfl, by simp, HN', X7, HNO⟩
            · have HM := Lib.hid (HBY.out (i : Int) ⟨by omega, by have := HI.out; omega⟩ HIB.out hEi)
              clear hEi hno hn'
              go_wp2_with fail
              go_returns
              exact ⟨by rw [HQN.out, HQE.out, if_pos HM.out, if_pos HM.out]; first | done | rfl, X7.out.bl⟩
        · have hz1 : ¬ (i : Int) < 4 := by omega
          have HM := Lib.hid (HBN.out fun j hj hne => by
            have := hno.out j.toNat (by omega) (by omega)
            rwa [show ((j.toNat : Nat) : Int) = j by omega] at this)
          clear hno hlt hn' hi
          go_wp2_with fail
          have hm1 : ¬ BN = -1 := by have := HM.out; have := HB03.out; omega
          have hq : Ending.returned (.tuple #[.int .i64 b, .int .i64 0]) = Ending.returned (.tuple #[.int .i64 QN, .int .i64 QE]) := by rw [HQN.out, HQE.out, if_neg hm1, if_neg hm1, HM.out]
          clear hm1
          go_returns
          exact ⟨hq, hX.out.bl⟩
    · have hl2 : ((LN.length : Int) != 1) = true := by simp; omega
      have HM := Lib.hid (HBM.out.1 h1)
      have B4 := Lib.hid (below_go B3.out hb4)
      clear hI hB hb4 L3 h1 X3 B3
      go_wp2_with fail
      go_returns
      exact ⟨by rw [HQN.out, HQE.out, if_pos HM.out, if_pos HM.out]; first | done | rfl, B4.out⟩
  · have hF2 : (F == 0) = false := by simpa using hF
    have HQN := Lib.hid (show QN = 0 by rw [HBN.out, if_neg hF])
    have HQE := Lib.hid (show QE = F by rw [HBE.out, if_neg hF])
    clear hF
    go_wp2_with fail
    go_returns
    exact ⟨by rw [HQN.out, HQE.out]; first | done | rfl, B1.out⟩

end Go.Proofs.Ytbbndcfnpfedpaa
