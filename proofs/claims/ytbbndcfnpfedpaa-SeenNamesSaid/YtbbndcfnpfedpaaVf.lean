/- The contracts of fault and asked, and the walk of SeenExplains. -/
import Derived.Test.YtbbndcfnpfedpaaVe
set_option linter.unusedVariables false
set_option linter.unusedSimpArgs false
namespace Go.Proofs.Ytbbndcfnpfedpaa
open Go.RowKit Go.Shelf Go.Maps

attribute [local go_sem] Oper.semAt_some

set_option maxHeartbeats 2000000 in
theorem fault_any (l : Lan) (w : World) (hL : WdsAt w l.wa l.ws) (hn : l.ws.length ≤ 1000) : Calls Try.prog 23 #[l.val] w fun e w' => e = .returned (.int .i64 (faultW l)) ∧ Below w.heap.size w w' := by
  have RF := Lib.hid (fun W (hb : Below w.heap.size w W) => refFault_any l W (hL.lo hb) hn)
  have B0 := Lib.hid (below_al w (.cells #[.int .i64 l.fs, .slice l.wa l.ws.length l.wc] 24))
  unfold Lan.val at *
  clear hL hn
  go_enter Try.func23, Try.ntmps23
  go_wp2_with fail
  refine (RF.out _ B0.out).mono ?_
  rintro e w1 ⟨rfl, hb⟩
  have B1 := Lib.hid (below_go B0.out hb)
  clear hb
  go_wp2_with fail
  go_returns
  exact ⟨rfl, B1.out⟩

set_option maxHeartbeats 4000000 in
theorem asked_any (l : Lan) (ts : List Int) (ta : Option Addr) (tc : Nat) (w : World) (hL : WdsAt w l.wa l.ws) (hn : l.ws.length ≤ 1000) (hX : IntsAt w ta ts) (hm : ts.length ≤ 1000) :
    Calls Try.prog 24 #[l.val, .slice ta ts.length tc] w fun e w' => e = .returned (.int .i64 (chkE l ts)) ∧ Below w.heap.size w w' := by
  have FA := Lib.hid (fun W (hb : Below w.heap.size w W) => fault_any l W (hL.lo hb) hn)
  have RI := Lib.hid (fun W (hb : Below w.heap.size w W) => refRising_any ts ta tc W (hX.lo hb) hm)
  have B0 := Lib.hid (below_al w (.cells #[.int .i64 l.fs, .slice l.wa l.ws.length l.wc] 24))
  have HE : Hid (chkE l ts = if faultW l = 0 then (if riseIn 0 3 ts = true then 0 else 2) else faultW l) := Lib.hid rfl
  generalize chkE l ts = E at *
  generalize faultW l = F at *
  generalize riseIn 0 3 ts = RB at *
  unfold Lan.val at *
  clear hL hn hX hm
  go_enter Try.func24, Try.ntmps24
  go_wp2_with fail
  refine (FA.out _ B0.out).mono ?_
  rintro e w1 ⟨rfl, hb⟩
  have B1 := Lib.hid (below_go B0.out hb)
  clear hb
  by_cases hF : F = 0
  · subst hF
    go_wp2_with fail
    refine (RI.out _ B1.out).mono ?_
    rintro e w2 ⟨rfl, hb⟩
    have B2 := Lib.hid (below_go B1.out hb)
    clear hb
    cases RB
    · have HE3 := Lib.hid (show E = 2 from HE.out)
      go_wp2_with fail
      go_returns
      exact ⟨by rw [HE3.out]; first | done | rfl, B2.out⟩
    · have HE3 := Lib.hid (show E = 0 from HE.out)
      go_wp2_with fail
      go_returns
      exact ⟨by rw [HE3.out]; first | done | rfl, B2.out⟩
  · have hF2 : (F == 0) = false := by simpa using hF
    have HE3 := Lib.hid (show E = F by rw [HE.out, if_neg hF])
    clear hF
    go_wp2_with fail
    go_returns
    exact ⟨by rw [HE3.out]; first | done | rfl, B1.out⟩

set_option maxRecDepth 100000 in
set_option maxHeartbeats 6000000 in
theorem seenExplains_any (l : Lan) (ts : List Int) (ta : Option Addr) (tc : Nat) (w : World) (hL : WdsAt w l.wa l.ws) (_ : (l.ws.length : Int) ≤ 9223372036854775807) (hX : IntsAt w ta ts) (hnl : ta = none → ts = [] ∧ tc = 0) :
    Calls Try.prog 3 #[l.val, .slice ta ts.length tc] w fun e w' => e = .returned (.bool true) ∧ Below w.heap.size w w' := by
  have TH := Lib.hid (fun W => thin_any l ta ts.length tc W)
  have WK := Lib.hid (fun W => wakes_any W)
  have X := Lib.hid (BX.mk' l w)
  have I1 := Lib.hid (hX.lo (below_al w (.cells #[.int .i64 l.fs, .slice l.wa l.ws.length l.wc] 24)))
  have N1 := Lib.hid hnl
  by_cases hT : (decide (l.ws.length ≤ 35) && decide (ts.length ≤ 8)) = true
  · have hT2 : l.ws.length ≤ 35 ∧ ts.length ≤ 8 := by simpa using hT
    rw [hT] at TH
    have hw1000 : l.ws.length ≤ 1000 := by omega
    have ht1000 : ts.length ≤ 1000 := by omega
    have LN := Lib.hid (fun W (hb : Below w.heap.size w W) => lawLane_any l W (hL.lo hb) hw1000)
    have LI1 := Lib.hid (fun a c W (hX : IntsAt W a ts) (h0 : a = none → ts = [] ∧ c = 0) => lawlist_any ts a c W hX h0 ht1000)
    have CL := Lib.hid (fun (a : Option Addr) (c : Nat) W (hW : WdsAt W a l.ws) => checkLane_any { l with wa := a, wc := c } W hW hw1000)
    have hfs : ∀ a c, faultW { l with wa := a, wc := c } = faultW l := fun a c => rfl
    simp only [hfs] at CL
    have EX1 := Lib.hid (fun (a a2 : Option Addr) (c c2 : Nat) W (hW : WdsAt W a l.ws) (hg : ∀ g o, a = some ⟨g, o, none⟩ → g < W.heap.size) (hX : IntsAt W a2 ts) => explains_any { l with wa := a, wc := c } ts a2 c2 W hW hX hw1000 ht1000 hg)
    simp only [(same_expl l _ _ _).1, (same_expl l _ _ _).2] at EX1
    have FA := Lib.hid (fun W (hb : Below w.heap.size w W) => fault_any l W (hL.lo hb) hw1000)
    have AK := Lib.hid (fun W (hb : Below w.heap.size w W) => asked_any l ts ta tc W (hL.lo hb) hw1000 (hX.lo hb) ht1000)
    have ER := Lib.hid (fun (hc : chkE l ts = 0) W (hb : Below w.heap.size w W) => explains_ref l ts ta tc W (hL.lo hb) (hX.lo hb) ht1000 hc)
    have HEB := Lib.hid (show chkE l ts ≠ 0 → explB l ts = false from fun h => by unfold explB; simp [h])
    unfold NewLan at LN
    unfold Lan.val at *
    clear hL hX hnl hT hT2 hw1000 ht1000 hfs
    generalize faultW l = F at *
    generalize chkE l ts = E at *
    generalize explB l ts = B at *
    go_enter Try.func3, Try.ntmps3
    go_wp2_with fail
    generalize w.alloc _ = W0 at X I1 ⊢
    have k0 := X.out.b.cell 0 (show _ = some (Value.int .i64 l.fs) from rfl)
    have k1 := X.out.b.cell 1 (show _ = some (Value.slice l.wa l.ws.length l.wc) from rfl)
    go_wp2_with fail
    refine (TH.out _).mono ?_
    rintro e w2 ⟨rfl, hb⟩
    replace X := Lib.hid (X.out.lo hb)
    replace I1 := Lib.hid (I1.out.lo hb)
    clear hb k0 k1 TH
    have k0 := X.out.b.cell 0 (show _ = some (Value.int .i64 l.fs) from rfl)
    have k1 := X.out.b.cell 1 (show _ = some (Value.slice l.wa l.ws.length l.wc) from rfl)
    go_wp2_with fail
    refine (LN.out _ X.out.bl).mono ?_
    rintro e w3 ⟨a3, c3, rfl, hW3, hg3, hb⟩
    replace X := Lib.hid (X.out.lo hb)
    replace I1 := Lib.hid (I1.out.lo hb)
    have W3 := Lib.hid hW3
    have G3 := Lib.hid hg3
    clear hW3 hg3 hb k0 k1
    have CL1 := Lib.hid (CL.out a3 c3 w3 W3.out)
    go_wp2_with fail
    refine (CL1.out).mono ?_
    rintro e w4 ⟨rfl, hb⟩
    replace X := Lib.hid (X.out.lo hb)
    replace I1 := Lib.hid (I1.out.lo hb)
    clear hb CL1 W3 G3 CL
    have k0 := X.out.b.cell 0 (show _ = some (Value.int .i64 l.fs) from rfl)
    have k1 := X.out.b.cell 1 (show _ = some (Value.slice l.wa l.ws.length l.wc) from rfl)
    go_wp2_with fail
    refine (LN.out _ X.out.bl).mono ?_
    rintro e w5 ⟨a3, c3, rfl, hW3, hg3, hb⟩
    replace X := Lib.hid (X.out.lo hb)
    replace I1 := Lib.hid (I1.out.lo hb)
    have W3 := Lib.hid hW3
    have G3 := Lib.hid hg3
    clear hW3 hg3 hb k0 k1
    go_wp2_with fail
    refine (LI1.out _ _ _ I1.out N1.out).mono ?_
    rintro e w6 ⟨v4, rfl, ho, hb⟩
    obtain ⟨a4, c4, rfl⟩ := own_len ho
    have I4 := Lib.hid (own_intsAt ho).1
    replace X := Lib.hid (X.out.lo hb)
    replace I1 := Lib.hid (I1.out.lo hb)
    have W4 := Lib.hid (W3.out.lo hb)
    have G4 := Lib.hid (show ∀ g o, a3 = some ⟨g, o, none⟩ → g < w6.heap.size from fun g o e => Nat.lt_of_lt_of_le (G3.out g o e) hb.size)
    clear ho hb W3 G3
    go_wp2_with fail
    refine (EX1.out a3 a4 c3 c4 _ W4.out G4.out I4.out).mono ?_
    rintro e w7 ⟨rfl, hb⟩
    replace X := Lib.hid (X.out.lo hb)
    replace I1 := Lib.hid (I1.out.lo hb)
    clear hb
    clear W4 G4 I4
    have k0 := X.out.b.cell 0 (show _ = some (Value.int .i64 l.fs) from rfl)
    have k1 := X.out.b.cell 1 (show _ = some (Value.slice l.wa l.ws.length l.wc) from rfl)
    go_wp2_with fail
    refine (FA.out _ X.out.bl).mono ?_
    rintro e w8 ⟨rfl, hb⟩
    replace X := Lib.hid (X.out.lo hb)
    replace I1 := Lib.hid (I1.out.lo hb)
    clear hb k0 k1
    have k0 := X.out.b.cell 0 (show _ = some (Value.int .i64 l.fs) from rfl)
    have k1 := X.out.b.cell 1 (show _ = some (Value.slice l.wa l.ws.length l.wc) from rfl)
    have hFF : (F != F) = false := by simp
    go_wp2_with fail
    refine (AK.out _ X.out.bl).mono ?_
    rintro e w9 ⟨rfl, hb⟩
    replace X := Lib.hid (X.out.lo hb)
    replace I1 := Lib.hid (I1.out.lo hb)
    clear hb k0 k1 hFF
    by_cases hE : E = 0
    · subst hE
      have ER2 := Lib.hid (ER.out (by first | rfl | trivial))
      clear ER HEB
      have k0 := X.out.b.cell 0 (show _ = some (Value.int .i64 l.fs) from rfl)
      have k1 := X.out.b.cell 1 (show _ = some (Value.slice l.wa l.ws.length l.wc) from rfl)
      go_wp2_with fail
      refine (ER2.out _ X.out.bl).mono ?_
      rintro e w10 ⟨rfl, hb⟩
      replace X := Lib.hid (X.out.lo hb)
      replace I1 := Lib.hid (I1.out.lo hb)
      clear hb k0 k1
      have hBB : (B == B) = true := by simp
      go_wp2_with fail
      refine (WK.out _).mono ?_
      rintro e w11 ⟨rfl, hb⟩
      replace X := Lib.hid (X.out.lo hb)
      replace I1 := Lib.hid (I1.out.lo hb)
      clear hb
      go_wp2_with fail
      go_returns
      exact ⟨rfl, X.out.bl⟩
    · have hE2 : (E == 0) = false := by simpa using hE
      have hB := HEB.out hE
      subst hB
      have hEE : (E == E) = true := by simp
      clear hE HEB ER
      go_wp2_with fail
      refine (WK.out _).mono ?_
      rintro e w12 ⟨rfl, hb⟩
      replace X := Lib.hid (X.out.lo hb)
      replace I1 := Lib.hid (I1.out.lo hb)
      clear hb
      go_wp2_with fail
      go_returns
      exact ⟨rfl, X.out.bl⟩
  · have hT2 : (decide (l.ws.length ≤ 35) && decide (ts.length ≤ 8)) = false := by simpa using hT
    rw [hT2] at TH
    unfold Lan.val at *
    clear hL hX hnl hT hT2
    go_enter Try.func3, Try.ntmps3
    go_wp2_with fail
    generalize w.alloc _ = W0 at X I1 ⊢
    have k0 := X.out.b.cell 0 (show _ = some (Value.int .i64 l.fs) from rfl)
    have k1 := X.out.b.cell 1 (show _ = some (Value.slice l.wa l.ws.length l.wc) from rfl)
    go_wp2_with fail
    refine (TH.out _).mono ?_
    rintro e w1 ⟨rfl, hb⟩
    replace X := Lib.hid (X.out.lo hb)
    clear hb k0 k1 TH I1
    go_wp2_with fail
    refine (WK.out _).mono ?_
    rintro e w2 ⟨rfl, hb⟩
    replace X := Lib.hid (X.out.lo hb)
    clear hb
    go_wp2_with fail
    go_returns
    exact ⟨rfl, X.out.bl⟩
end Go.Proofs.Ytbbndcfnpfedpaa
