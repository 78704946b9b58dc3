/- The walk of SeenBlames. -/
import Derived.Test.YtbbndcfnpfedpaaXd
set_option linter.unusedVariables false
set_option linter.unusedSimpArgs false
namespace Go.Proofs.Ytbbndcfnpfedpaa
open Go.RowKit Go.Shelf Go.Maps

attribute [local go_sem] Oper.semAt_some

theorem same_least (l : Lan) (a : Option Addr) (c : Nat) : leastL { l with wa := a, wc := c } = leastL l ∧ faultW { l with wa := a, wc := c } = faultW l := ⟨rfl, rfl⟩
theorem same_blm (l : Lan) (a : Option Addr) (c : Nat) : blmN { l with wa := a, wc := c } = blmN l ∧ blmE { l with wa := a, wc := c } = blmE l := ⟨rfl, rfl⟩
theorem leastN_len (l : Lan) : (leastN l).length ≤ 4 := by
  unfold leastN
  cases hf : setsL.find? fun ts => explB l ts with
  | none => simp
  | some ts => exact sets_len.2 ts (List.mem_of_find?_eq_some hf)
theorem blameN_in (l : Lan) : blameN l = -1 ∨ (0 ≤ blameN l ∧ blameN l ≤ 3) := by
  unfold blameN
  split
  · exact .inl rfl
  · split
    · rename_i h
      cases he : (aloneL l 4).getLast? with
      | none => exact .inl rfl
      | some x =>
        right
        have hm := List.mem_of_getLast? he
        unfold aloneL at hm
        have := (List.mem_filter.1 hm).1
        simp at this
        show 0 ≤ x ∧ x ≤ 3
        omega
    · exact .inl rfl

set_option maxRecDepth 100000 in
set_option maxHeartbeats 8000000 in
theorem seenBlames_any (l : Lan) (w : World) (hL : WdsAt w l.wa l.ws) (_ : (l.ws.length : Int) ≤ 9223372036854775807) :
    Calls Try.prog 6 #[l.val] w fun e w' => e = .returned (.bool true) ∧ Below w.heap.size w w' := by
  have TH := Lib.hid (fun W => thin_any l none 0 0 W)
  have WK := Lib.hid (fun W => wakes_any W)
  have X := Lib.hid (BX.mk' l w)
  by_cases hT : (decide (l.ws.length ≤ 35) && decide (0 ≤ 8)) = true
  · have hT2 : l.ws.length ≤ 35 := by simpa using hT
    rw [hT] at TH
    have hw1000 : l.ws.length ≤ 1000 := by omega
    have LN := Lib.hid (fun W (hb : Below w.heap.size w W) => lawLane_any l W (hL.lo hb) hw1000)
    have LP := Lib.hid (fun (a : Option Addr) (c : Nat) W (hW : WdsAt W a l.ws) (hg : ∀ g o, a = some ⟨g, o, none⟩ → g < W.heap.size) => leastP_any { l with wa := a, wc := c } W hW hw1000 hg)
    unfold LeastR at LP
    simp only [(same_least l _ _).1, (same_least l _ _).2] at LP
    have BP := Lib.hid (fun (a : Option Addr) (c : Nat) W (hW : WdsAt W a l.ws) (hg : ∀ g o, a = some ⟨g, o, none⟩ → g < W.heap.size) => blameP_any { l with wa := a, wc := c } W hW hw1000 hg)
    simp only [(same_blm l _ _).1, (same_blm l _ _).2] at BP
    have FA := Lib.hid (fun W (hb : Below w.heap.size w W) => fault_any l W (hL.lo hb) hw1000)
    have RL := Lib.hid (fun (h : faultW l = 0) W (hb : Below w.heap.size w W) => refLeast_any l W (hL.lo hb) h)
    have RB := Lib.hid (fun (h : faultW l = 0) W (hb : Below w.heap.size w W) => refBlame_any l W (hL.lo hb) h)
    have HLL := Lib.hid (show faultW l = 0 → leastL l = leastN l from leastL_find)
    have HLO := Lib.hid (show faultW l ≠ 0 → leastL l = [] ∧ blmN l = 0 ∧ blmE l = faultW l from fun h => ⟨by unfold leastL; rw [if_neg h], by unfold blmN; rw [if_neg h], by unfold blmE; rw [if_neg h]⟩)
    have HBL := Lib.hid (show faultW l = 0 → blmN l = (if blameN l = -1 then 0 else blameN l) ∧ blmE l = (if blameN l = -1 then 7 else 0) from fun h => ⟨by unfold blmN; rw [if_pos h], by unfold blmE; rw [if_pos h]⟩)
    have HN4 := Lib.hid (leastN_len l)
    have HBI := Lib.hid (blameN_in l)
    have IE := Lib.hid (fun (a b : Option Addr) (c d : Nat) W (h1 : IntsAt W a (leastN l)) (h2 : IntsAt W b (leastN l)) => (show Calls Try.prog 34 #[.slice a (leastN l).length c, .slice b (leastN l).length d] W (fun e w' => e = .returned (.bool true) ∧ Hid (W.grownBy w' none)) from by
      have := ints_any (leastN l) (leastN l) a b c d W h1 h2 (by have := leastN_len l; omega) (by have := leastN_len l; omega)
      simpa using this))
    unfold NewLan at LN
    unfold Lan.val at *
    clear hL hT hT2 hw1000
    generalize leastL l = LL at *
    generalize leastN l = LM at *
    generalize blmN l = QN at *
    generalize blmE l = QE at *
    generalize blameN l = BN at *
    generalize faultW l = F at *
    go_enter Try.func6, Try.ntmps6
    go_wp2_with fail
    generalize w.alloc _ = W0 at X ⊢
    have k0 := X.out.b.cell 0 (show _ = some (Value.int .i64 l.fs) from rfl)
    have k1 := X.out.b.cell 1 (show _ = some (Value.slice l.wa l.ws.length l.wc) from rfl)
    go_wp2_with fail
    refine (TH.out _).mono ?_
    rintro e w2 ⟨rfl, hb⟩
    replace X := Lib.hid (X.out.lo hb)
    clear hb k0 k1 TH
    have k0 := X.out.b.cell 0 (show _ = some (Value.int .i64 l.fs) from rfl)
    have k1 := X.out.b.cell 1 (show _ = some (Value.slice l.wa l.ws.length l.wc) from rfl)
    go_wp2_with fail
    refine (LN.out _ X.out.bl).mono ?_
    rintro e w3 ⟨a3, c3, rfl, hW3, hg3, hb⟩
    replace X := Lib.hid (X.out.lo hb)
    have W3 := Lib.hid hW3
    have G3 := Lib.hid hg3
    clear hW3 hg3 hb k0 k1
    have LP3 := Lib.hid (LP.out a3 c3 _ W3.out G3.out)
    clear W3 G3
    go_wp2_with fail
    refine LP3.out.mono ?_
    rintro e w4 ⟨a5, c5, rfl, hI, hg5, hb⟩
    replace X := Lib.hid (X.out.lo hb)
    have I5 := Lib.hid hI
    clear hI hg5 hb LP3 LP
    have k0 := X.out.b.cell 0 (show _ = some (Value.int .i64 l.fs) from rfl)
    have k1 := X.out.b.cell 1 (show _ = some (Value.slice l.wa l.ws.length l.wc) from rfl)
    go_wp2_with fail
    refine (LN.out _ X.out.bl).mono ?_
    rintro e w5 ⟨a3, c3, rfl, hW3, hg3, hb⟩
    replace X := Lib.hid (X.out.lo hb)
    replace I5 := Lib.hid (I5.out.lo hb)
    have W3 := Lib.hid hW3
    have G3 := Lib.hid hg3
    clear hW3 hg3 hb k0 k1
    have BP3 := Lib.hid (BP.out a3 c3 _ W3.out G3.out)
    clear W3 G3
    go_wp2_with fail
    refine BP3.out.mono ?_
    rintro e w6 ⟨rfl, hb⟩
    replace X := Lib.hid (X.out.lo hb)
    replace I5 := Lib.hid (I5.out.lo hb)
    clear hb BP3 BP
    have k0 := X.out.b.cell 0 (show _ = some (Value.int .i64 l.fs) from rfl)
    have k1 := X.out.b.cell 1 (show _ = some (Value.slice l.wa l.ws.length l.wc) from rfl)
    go_wp2_with fail
    refine (FA.out _ X.out.bl).mono ?_
    rintro e w7 ⟨rfl, hb⟩
    replace X := Lib.hid (X.out.lo hb)
    replace I5 := Lib.hid (I5.out.lo hb)
    clear hb k0 k1 FA
    by_cases hF : F = 0
    · subst hF
      have RL2 := Lib.hid (RL.out (by first | rfl | trivial))
      have RB2 := Lib.hid (RB.out (by first | rfl | trivial))
      have HL2 := Lib.hid (HLL.out (by first | rfl | trivial))
      have HB2 := Lib.hid (HBL.out (by first | rfl | trivial))
      rw [HL2.out] at I5
      rw [HL2.out]
      clear RL RB HLL HLO HBL
      have k0 := X.out.b.cell 0 (show _ = some (Value.int .i64 l.fs) from rfl)
      have k1 := X.out.b.cell 1 (show _ = some (Value.slice l.wa l.ws.length l.wc) from rfl)
      go_wp2_with fail
      refine (RL2.out _ X.out.bl).mono ?_
      rintro e w20 ⟨a6, c6, rfl, hI6, hb⟩
      replace X := Lib.hid (X.out.lo hb)
      replace I5 := Lib.hid (I5.out.lo hb)
      have C6 := Lib.hid (IE.out a5 a6 c5 c6 _ I5.out hI6)
      clear hI6 hb k0 k1 IE RL2
      go_wp2_with fail
      refine C6.out.mono ?_
      rintro e w21 ⟨rfl, hgr⟩
      replace X := Lib.hid (X.out.lo (ints_lo hgr.out))
      clear hgr C6 I5
      have k0 := X.out.b.cell 0 (show _ = some (Value.int .i64 l.fs) from rfl)
      have k1 := X.out.b.cell 1 (show _ = some (Value.slice l.wa l.ws.length l.wc) from rfl)
      go_wp2_with fail
      refine (RB2.out _ X.out.bl).mono ?_
      rintro e w22 ⟨rfl, hb⟩
      replace X := Lib.hid (X.out.lo hb)
      clear hb RB2 k0 k1
      by_cases hB : BN = -1
      · obtain ⟨q1, q2⟩ := HB2.out
        rw [if_pos hB] at q1 q2
        subst q1 q2 hB
        clear HB2 HBI
        go_wp2_with fail
        refine (WK.out _).mono ?_
        rintro e w98 ⟨rfl, hb⟩
        have X9 := Lib.hid (X.out.lo hb)
        clear hb
        go_wp2_with fail
        go_returns
        exact ⟨rfl, X9.out.bl⟩
      · obtain ⟨q1, q2⟩ := HB2.out
        rw [if_neg hB] at q1 q2
        have hz : (0 : Int) ≤ BN := by have := HBI.out; omega
        have hee : (BN == BN) = true := by simp
        subst q1 q2
        clear HB2 HBI hB
        go_wp2_with fail
        refine (WK.out _).mono ?_
        rintro e w98 ⟨rfl, hb⟩
        have X9 := Lib.hid (X.out.lo hb)
        clear hb
        go_wp2_with fail
        go_returns
        exact ⟨rfl, X9.out.bl⟩
    · have hE2 : (F == 0) = false := by simpa using hF
      obtain ⟨hR, hq1, hq2⟩ := HLO.out hF
      subst hR hq1 hq2
      have hEE : ∀ z : Int, (z == z) = true := by simp
      clear hF HLO HLL HBL RL RB
      go_wp2_with fail
      refine (WK.out _).mono ?_
      rintro e w98 ⟨rfl, hb⟩
      have X9 := Lib.hid (X.out.lo hb)
      clear hb
      go_wp2_with fail
      go_returns
      exact ⟨rfl, X9.out.bl⟩
  · have hT2 : (decide (l.ws.length ≤ 35) && decide (0 ≤ 8)) = false := by simpa using hT
    rw [hT2] at TH
    unfold Lan.val at *
    clear hL hT hT2
    go_enter Try.func6, Try.ntmps6
    go_wp2_with fail
    generalize w.alloc _ = W0 at X ⊢
    have k0 := X.out.b.cell 0 (show _ = some (Value.int .i64 l.fs) from rfl)
    have k1 := X.out.b.cell 1 (show _ = some (Value.slice l.wa l.ws.length l.wc) from rfl)
    go_wp2_with fail
    refine (TH.out _).mono ?_
    rintro e w1 ⟨rfl, hb⟩
    replace X := Lib.hid (X.out.lo hb)
    clear hb k0 k1 TH
    go_wp2_with fail
    refine (WK.out _).mono ?_
    rintro e w2 ⟨rfl, hb⟩
    replace X := Lib.hid (X.out.lo hb)
    clear hb
    go_wp2_with fail
    go_returns
    exact ⟨rfl, X.out.bl⟩

end Go.Proofs.Ytbbndcfnpfedpaa
