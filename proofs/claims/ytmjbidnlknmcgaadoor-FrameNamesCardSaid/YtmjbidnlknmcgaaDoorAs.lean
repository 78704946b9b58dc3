/- The contracts of checkMatch and spansOf. -/
import Derived.Test.YtmjbidnlknmcgaaDoorAd
set_option linter.unusedVariables false
set_option linter.unusedSimpArgs false
namespace Go.Proofs.YtmjbidnlknmcgaaDoor
open Go.RowKit

/-- The error of a match. -/
def matchE (l : Lw) (SS : List (Option Addr × Nat × List Int)) : Int :=
  if okB l = false then 1 else if 6 < SS.length then 3 else if (SS.all fun p => decide (p.2.2.length ≤ 40)) = false then 3 else if SS.length = 0 then 1 else 0

set_option maxRecDepth 100000 in
set_option maxHeartbeats 8000000 in
theorem checkMatch_any (l : Lw) (SS : List (Option Addr × Nat × List Int)) (a : Option Addr) (c : Nat) (w : World) (hS : SheetsAt w a SS) (hn : SS.length ≤ 1000) :
    Calls Tryd.prog 58 #[l.val, .slice a SS.length c] w fun e w' => e = .returned (.int .i64 (matchE l SS)) ∧ Below w.heap.size w w' := by
  have HS := Lib.hid hS
  have VAL := Lib.hid (valid_any l)
  have SHT := Lib.hid (fun w h => all_short SS a c w h hn)
  clear hS
  have A1 : Hid (BL w (w.alloc (.cells #[.int .i64 l.fr, .int .i64 l.pn, .int .i64 l.bl, .int .i64 l.tp] 28))) := BL.al (BL.start w) _
  have L1 := Lib.hid (heap_alloc_new w (.cells #[.int .i64 l.fr, .int .i64 l.pn, .int .i64 l.bl, .int .i64 l.tp] 28))
  obtain ⟨m, hm⟩ : ∃ m, Hid (matchE l SS = m) := ⟨_, Lib.hid rfl⟩
  rw [hm.out]
  unfold Lw.val at *
  cases hok : okB l
  · rw [hok] at VAL
    have hm1 : m = 1 := by rw [← hm.out, matchE, if_pos hok]
    subst hm1
    clear hok hm
    go_enter Tryd.func58, Tryd.ntmps58
    go_wp2_with fail
    generalize World.alloc w _ = w1 at A1 L1 ⊢
    obtain ⟨k0, k1, k2, k3⟩ : w1.cell? ⟨w.heap.size, 0, none⟩ = some (.int .i64 l.fr) ∧ w1.cell? ⟨w.heap.size, 1, none⟩ = some (.int .i64 l.pn) ∧ w1.cell? ⟨w.heap.size, 2, none⟩ = some (.int .i64 l.bl) ∧ w1.cell? ⟨w.heap.size, 3, none⟩ = some (.int .i64 l.tp) := by
      have h := L1.out
      exact ⟨by simp [World.cell?, h], by simp [World.cell?, h], by simp [World.cell?, h], by simp [World.cell?, h]⟩
    go_wp2_with fail
    refine (VAL.out w1).mono ?_
    rintro e w2 ⟨rfl, hb⟩
    have A2 := BL.lo A1 hb
    clear hb A1 k0 k1 k2 k3
    go_wp2_with fail
    go_ret
    exact ⟨rfl, A2.out.b⟩
  · rw [hok] at VAL
    have hm0 : m = if 6 < SS.length then 3 else if (SS.all fun p => decide (p.2.2.length ≤ 40)) = false then 3 else if SS.length = 0 then 1 else 0 := by rw [← hm.out, matchE, if_neg (by simp [hok])]
    clear hok hm
    by_cases h6 : 6 < SS.length
    · rw [if_pos h6] at hm0
      subst hm0
      have h6i : (6 : Int) < (SS.length : Int) := by omega
      clear h6
      go_enter Tryd.func58, Tryd.ntmps58
      go_wp2_with fail
      generalize World.alloc w _ = w1 at A1 L1 ⊢
      obtain ⟨k0, k1, k2, k3⟩ : w1.cell? ⟨w.heap.size, 0, none⟩ = some (.int .i64 l.fr) ∧ w1.cell? ⟨w.heap.size, 1, none⟩ = some (.int .i64 l.pn) ∧ w1.cell? ⟨w.heap.size, 2, none⟩ = some (.int .i64 l.bl) ∧ w1.cell? ⟨w.heap.size, 3, none⟩ = some (.int .i64 l.tp) := by
        have h := L1.out
        exact ⟨by simp [World.cell?, h], by simp [World.cell?, h], by simp [World.cell?, h], by simp [World.cell?, h]⟩
      go_wp2_with fail
      refine (VAL.out w1).mono ?_
      rintro e w2 ⟨rfl, hb⟩
      have A2 := BL.lo A1 hb
      clear hb A1 k0 k1 k2 k3
      go_wp2_with fail
      go_ret
      exact ⟨rfl, A2.out.b⟩
    · rw [if_neg h6] at hm0
      have h6i : ¬ (6 : Int) < (SS.length : Int) := by omega
      clear h6
      cases hall : (SS.all fun p => decide (p.2.2.length ≤ 40))
      · rw [if_pos hall] at hm0
        subst hm0
        rw [hall] at SHT
        clear hall
        go_enter Tryd.func58, Tryd.ntmps58
        go_wp2_with fail
        generalize World.alloc w _ = w1 at A1 L1 ⊢
        obtain ⟨k0, k1, k2, k3⟩ : w1.cell? ⟨w.heap.size, 0, none⟩ = some (.int .i64 l.fr) ∧ w1.cell? ⟨w.heap.size, 1, none⟩ = some (.int .i64 l.pn) ∧ w1.cell? ⟨w.heap.size, 2, none⟩ = some (.int .i64 l.bl) ∧ w1.cell? ⟨w.heap.size, 3, none⟩ = some (.int .i64 l.tp) := by
          have h := L1.out
          exact ⟨by simp [World.cell?, h], by simp [World.cell?, h], by simp [World.cell?, h], by simp [World.cell?, h]⟩
        go_wp2_with fail
        refine (VAL.out w1).mono ?_
        rintro e w2 ⟨rfl, hb⟩
        have A2 := BL.lo A1 hb
        clear hb A1 k0 k1 k2 k3
        go_wp2_with fail
        refine (SHT.out w2 (HS.out.lo A2.out.b)).mono ?_
        rintro e w3 ⟨rfl, hb⟩
        have A3 := BL.lo A2 hb
        clear hb A2
        go_wp2_with fail
        go_ret
        exact ⟨rfl, A3.out.b⟩
      · rw [if_neg (by simp [hall])] at hm0
        rw [hall] at SHT
        clear hall
        by_cases hz : SS.length = 0
        all_goals
          first | rw [if_pos hz] at hm0 | rw [if_neg hz] at hm0
          subst hm0
          first | (have hz2 : ((SS.length : Int) == 0) = true := by simp [hz]) | (have hz2 : ((SS.length : Int) == 0) = false := by simp; exact fun h => hz (by simpa using h))
          clear hz
          go_enter Tryd.func58, Tryd.ntmps58
          go_wp2_with fail
          generalize World.alloc w _ = w1 at A1 L1 ⊢
          obtain ⟨k0, k1, k2, k3⟩ : w1.cell? ⟨w.heap.size, 0, none⟩ = some (.int .i64 l.fr) ∧ w1.cell? ⟨w.heap.size, 1, none⟩ = some (.int .i64 l.pn) ∧ w1.cell? ⟨w.heap.size, 2, none⟩ = some (.int .i64 l.bl) ∧ w1.cell? ⟨w.heap.size, 3, none⟩ = some (.int .i64 l.tp) := by
            have h := L1.out
            exact ⟨by simp [World.cell?, h], by simp [World.cell?, h], by simp [World.cell?, h], by simp [World.cell?, h]⟩
          go_wp2_with fail
          refine (VAL.out w1).mono ?_
          rintro e w2 ⟨rfl, hb⟩
          have A2 := BL.lo A1 hb
          clear hb A1 k0 k1 k2 k3
          go_wp2_with fail
          refine (SHT.out w2 (HS.out.lo A2.out.b)).mono ?_
          rintro e w3 ⟨rfl, hb⟩
          have A3 := BL.lo A2 hb
          clear hb A2
          go_wp2_with fail
          go_ret
          exact ⟨rfl, A3.out.b⟩

end Go.Proofs.YtmjbidnlknmcgaaDoor
