/- The contracts of Thin, ready, chosen. -/
import Derived.Test.YtbbndcfnpfedpaaSy
set_option linter.unusedVariables false
set_option linter.unusedSimpArgs false
namespace Go.Proofs.Ytbbndcfnpfedpaa
open Go.RowKit Go.Shelf

attribute [local go_sem] Oper.semAt_some

set_option maxHeartbeats 2000000 in
theorem thin_any (l : Lan) (a : Option Addr) (n c : Nat) (w : World) : Calls Try.prog 17 #[l.val, .slice a n c] w fun e w' => e = .returned (.bool (decide (l.ws.length ≤ 35) && decide (n ≤ 8))) ∧ Below w.heap.size w w' := by
  have B0 := Lib.hid (below_al w (.cells #[.int .i64 l.fs, .slice l.wa l.ws.length l.wc] 24))
  unfold Lan.val
  by_cases h : l.ws.length ≤ 35
  · have hz : (l.ws.length : Int) ≤ 35 := by omega
    have HT := Lib.hid (show (decide (l.ws.length ≤ 35) && decide (n ≤ 8)) = decide (n ≤ 8) by simp [h])
    rw [HT.out]
    clear h
    by_cases h8 : n ≤ 8
    · have hz8 : (n : Int) ≤ 8 := by omega
      have HE := Lib.hid (show decide (n ≤ 8) = true by simp [h8])
      rw [HE.out]
      clear h8
      go_enter Try.func17, Try.ntmps17
      go_wp2_with fail
      go_returns
      exact ⟨rfl, B0.out⟩
    · have hz8 : ¬ (n : Int) ≤ 8 := by omega
      have HE := Lib.hid (show decide (n ≤ 8) = false by simp [h8])
      rw [HE.out]
      clear h8
      go_enter Try.func17, Try.ntmps17
      go_wp2_with fail
      go_returns
      exact ⟨rfl, B0.out⟩
  · have hz : ¬ (l.ws.length : Int) ≤ 35 := by omega
    have HT := Lib.hid (show (decide (l.ws.length ≤ 35) && decide (n ≤ 8)) = false by simp [h])
    rw [HT.out]
    clear h
    go_enter Try.func17, Try.ntmps17
    go_wp2_with fail
    go_returns
    exact ⟨rfl, B0.out⟩

theorem fault_len {l : Lan} (h : faultW l = 0) : l.ws.length ≤ 30 := (fault0 h).2.1

set_option maxHeartbeats 4000000 in
theorem ready_any (l : Lan) (w : World) (hL : WdsAt w l.wa l.ws) : Calls Try.prog 43 #[l.val] w fun e w' => e = .returned (.bool (decide (faultW l = 0))) ∧ Below w.heap.size w w' := by
  have TH := Lib.hid (fun W => thin_any l none 0 0 W)
  have RF := Lib.hid (fun (hn : l.ws.length ≤ 35) W (hb : Below w.heap.size w W) => refFault_any l W (hL.lo hb) (by omega))
  have B0 := Lib.hid (below_al w (.cells #[.int .i64 l.fs, .slice l.wa l.ws.length l.wc] 24))
  have K0 := Lib.hid (Blk.new w #[.int .i64 l.fs, .slice l.wa l.ws.length l.wc] 24)
  obtain ⟨R, hR⟩ : ∃ R, Hid (R = decide (faultW l = 0)) := ⟨_, Lib.hid rfl⟩
  rw [← hR.out]
  by_cases h : l.ws.length ≤ 35
  · have HT := Lib.hid (show (decide (l.ws.length ≤ 35) && decide (0 ≤ 8)) = true by simp [h])
    have RF2 := Lib.hid (RF.out h)
    rw [HT.out] at TH
    unfold Lan.val at *
    clear hL h RF
    generalize faultW l = F at *
    go_enter Try.func43, Try.ntmps43
    go_wp2_with fail
    generalize w.alloc _ = W0 at K0 B0 ⊢
    refine (TH.out _).mono ?_
    rintro e w1 ⟨rfl, hb⟩
    have B1 := Lib.hid (below_go B0.out hb)
    have K1 := Lib.hid (Blk.alt (p := fun _ => False) K0.out (Alt.of_below hb (fun k hk e => by omega)) id)
    have k0 := K1.out.cell 0 (show _ = some (Value.int .i64 l.fs) from rfl)
    have k1 := K1.out.cell 1 (show _ = some (Value.slice l.wa l.ws.length l.wc) from rfl)
    clear hb B0 K0 TH
    go_wp2_with fail
    refine (RF2.out _ B1.out).mono ?_
    rintro e w2 ⟨rfl, hb⟩
    have B2 := Lib.hid (below_go B1.out hb)
    clear hb k0 k1
    by_cases hF : F = 0
    · subst hF
      have HR : Hid (R = true) := Lib.hid (by rw [hR.out]; rfl)
      go_wp2_with fail
      go_returns
      exact ⟨by rw [HR.out]; first | done | rfl, B2.out⟩
    · have hF2 : (F == 0) = false := by simpa using hF
      have HR : Hid (R = false) := Lib.hid (by rw [hR.out]; simp [hF])
      go_wp2_with fail
      go_returns
      exact ⟨by rw [HR.out]; first | done | rfl, B2.out⟩
  · have HT := Lib.hid (show (decide (l.ws.length ≤ 35) && decide (0 ≤ 8)) = false by simp [h])
    have HR : Hid (R = false) := Lib.hid (by rw [hR.out]; simp; intro e; have := fault_len e; omega)
    rw [HT.out] at TH
    unfold Lan.val at *
    clear hL h RF
    go_enter Try.func43, Try.ntmps43
    go_wp2_with fail
    refine (TH.out _).mono ?_
    rintro e w1 ⟨rfl, hb⟩
    have B1 := Lib.hid (below_go B0.out hb)
    clear hb B0 K0 TH
    go_wp2_with fail
    go_returns
    exact ⟨by rw [HR.out]; first | done | rfl, B1.out⟩

end Go.Proofs.Ytbbndcfnpfedpaa
