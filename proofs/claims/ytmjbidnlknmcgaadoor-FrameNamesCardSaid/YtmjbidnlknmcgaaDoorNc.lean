/- The contracts of what the law FrameNames calls. -/
import Derived.Test.YtmjbidnlknmcgaaDoorAh
set_option linter.unusedVariables false
set_option linter.unusedSimpArgs false
namespace Go.Proofs.YtmjbidnlknmcgaaDoor
open Go.RowKit

set_option maxRecDepth 100000 in
set_option maxHeartbeats 8000000 in
theorem ahead_err1 (l : Lw) (SS : List (Option Addr × Nat × List Int)) (a : Option Addr) (c : Nat) (w : World) (m : Int) (hS : SheetsAt w a SS) (hn : SS.length ≤ 1000) (hm : matchE l SS = m) (hm0 : m ≠ 0) :
    Calls Tryd.prog 31 #[l.val, .slice a SS.length c] w fun e w' => e = .returned (.tuple #[.slice none 0 0, .slice none 0 0, .int .i64 m]) ∧ Below w.heap.size w w' := by
  have HS := Lib.hid hS
  have CHK := Lib.hid (fun w hs => checkMatch_any l SS a c w hs hn)
  rw [hm] at CHK
  have hb : (m == 0) = false := by simpa using hm0
  clear hS hm hm0 hn
  have A1 : Hid (BL w (w.alloc (.cells #[.int .i64 l.fr, .int .i64 l.pn, .int .i64 l.bl, .int .i64 l.tp] 28))) := BL.al (BL.start w) _
  have L1 := Lib.hid (heap_alloc_new w (.cells #[.int .i64 l.fr, .int .i64 l.pn, .int .i64 l.bl, .int .i64 l.tp] 28))
  unfold Lw.val at *
  go_enter Tryd.func31, Tryd.ntmps31
  go_wp2_with fail
  generalize World.alloc w _ = w1 at A1 L1 ⊢
  obtain ⟨k0, k1, k2, k3⟩ : w1.cell? ⟨w.heap.size, 0, none⟩ = some (.int .i64 l.fr) ∧ w1.cell? ⟨w.heap.size, 1, none⟩ = some (.int .i64 l.pn) ∧ w1.cell? ⟨w.heap.size, 2, none⟩ = some (.int .i64 l.bl) ∧ w1.cell? ⟨w.heap.size, 3, none⟩ = some (.int .i64 l.tp) := by
    have h := L1.out
    exact ⟨by simp [World.cell?, h], by simp [World.cell?, h], by simp [World.cell?, h], by simp [World.cell?, h]⟩
  go_wp2_with fail
  refine (CHK.out w1 (HS.out.lo A1.out.b)).mono ?_
  rintro e w2 ⟨rfl, hb2⟩
  have A2 := BL.lo A1 hb2
  clear hb2 A1 L1 k0 k1 k2 k3
  go_wp2_with fail
  go_ret3
  exact ⟨rfl, A2.out.b⟩

set_option maxRecDepth 100000 in
set_option maxHeartbeats 8000000 in
theorem ahead_err2 (l : Lw) (ok : l.Ok) (SS : List (Option Addr × Nat × List Int)) (a : Option Addr) (c : Nat) (w : World) (E : Int) (hS : SheetsAt w a SS) (hn : SS.length ≤ 6) (hm : matchE l SS = 0) (hE : spE l SS = E) (hE0 : E ≠ 0) (hT : TabOK w) :
    Calls Tryd.prog 31 #[l.val, .slice a SS.length c] w fun e w' => e = .returned (.tuple #[.slice none 0 0, .slice none 0 0, .int .i64 E]) ∧ Below w.heap.size w w' := by
  have HS := Lib.hid hS
  have HT := Lib.hid hT
  have CHK := Lib.hid (fun w hs => checkMatch_any l SS a c w hs (by omega))
  have SPO := Lib.hid (fun w hs hT => spansOf_any l ok SS a c w hs hn hT)
  rw [hm] at CHK
  rw [hE] at SPO
  have hb : (E == 0) = false := by simpa using hE0
  have HE0 := Lib.hid hE0
  clear hS hT hm hE hE0 hn ok
  have A1 : Hid (BL w (w.alloc (.cells #[.int .i64 l.fr, .int .i64 l.pn, .int .i64 l.bl, .int .i64 l.tp] 28))) := BL.al (BL.start w) _
  have L1 := Lib.hid (heap_alloc_new w (.cells #[.int .i64 l.fr, .int .i64 l.pn, .int .i64 l.bl, .int .i64 l.tp] 28))
  unfold Lw.val at *
  go_enter Tryd.func31, Tryd.ntmps31
  go_wp2_with fail
  generalize World.alloc w _ = w1 at A1 L1 ⊢
  obtain ⟨k0, k1, k2, k3⟩ : w1.cell? ⟨w.heap.size, 0, none⟩ = some (.int .i64 l.fr) ∧ w1.cell? ⟨w.heap.size, 1, none⟩ = some (.int .i64 l.pn) ∧ w1.cell? ⟨w.heap.size, 2, none⟩ = some (.int .i64 l.bl) ∧ w1.cell? ⟨w.heap.size, 3, none⟩ = some (.int .i64 l.tp) := by
    have h := L1.out
    exact ⟨by simp [World.cell?, h], by simp [World.cell?, h], by simp [World.cell?, h], by simp [World.cell?, h]⟩
  go_wp2_with fail
  refine (CHK.out w1 (HS.out.lo A1.out.b)).mono ?_
  rintro e w2 ⟨rfl, hb2⟩
  have A2 := BL.lo A1 hb2
  have L2 := Lib.hid ((hb2.block _ (lt_of_block L1.out)).trans L1.out)
  clear hb2 A1 L1 k0 k1 k2 k3
  obtain ⟨k0, k1, k2, k3⟩ : w2.cell? ⟨w.heap.size, 0, none⟩ = some (.int .i64 l.fr) ∧ w2.cell? ⟨w.heap.size, 1, none⟩ = some (.int .i64 l.pn) ∧ w2.cell? ⟨w.heap.size, 2, none⟩ = some (.int .i64 l.bl) ∧ w2.cell? ⟨w.heap.size, 3, none⟩ = some (.int .i64 l.tp) := by
    have h := L2.out
    exact ⟨by simp [World.cell?, h], by simp [World.cell?, h], by simp [World.cell?, h], by simp [World.cell?, h]⟩
  go_wp2_with fail
  refine (SPO.out w2 (HS.out.lo A2.out.b) (tab_bl HT A2)).mono ?_
  rintro e w3 ⟨v, rfl, _, hv, hb2⟩
  obtain rfl := hv HE0.out
  have A3 := BL.lo A2 hb2
  clear hb2 A2 L2 k0 k1 k2 k3
  go_wp2_with fail
  go_ret3
  exact ⟨rfl, A3.out.b⟩

set_option maxRecDepth 100000 in
set_option maxHeartbeats 2000000 in
theorem many_none (ball : Int) (times : Nat) (w : World) (ht : times ≤ 100) :
    Calls Tryd.prog 36 #[.int .i64 ball, .int .i64 (times : Int), .slice none 0 0] w fun e w' => ∃ v, e = .returned v ∧
      w'.ownsRow w.heap.size 3 1 v times ((List.replicate times ball).map (Value.int .i64)) ∧ Below w.heap.size w w' := by
  obtain ⟨i3, hi3, hy0, hy1, hy2⟩ := info_parts info3
  go_enter Tryd.func36, Tryd.ntmps36
  go_wp2_with fail
  go_loopw [7, 8] (fun v i wr => ∃ k : Nat, k ≤ times ∧ i = .int .i64 k ∧ Hid (wr.ownsRow w.heap.size 3 1 v k ((List.replicate k ball).map (Value.int .i64))) ∧ Hid (Below w.heap.size w wr)) (fun _ i _ => times - (intOf i).toNat)
  case atStart => exact ⟨0, by omega, rfl, Lib.hid (World.ownsRow_nil _ _ _ _), Lib.hid (Below.refl _ _)⟩
  case round =>
    obtain ⟨k, hk, rfl, how, hB⟩ := hrel
    by_cases hlt : k < times
    · have hlt1 : (k : Int) < (times : Int) := by omega
      have e2 : IntKind.i64.wrap ((k : Int) + 1) = (k : Int) + 1 := IntWalk.i64_in _ (by omega)
      have hsz := hB.out.size
      have how0 := how.out
      go_wp2_with (at_builtin; refine wpList_append_own_at _ rfl _ _ 24 rfl w.heap.size 3 i3 (.int .i64 0) 1 8 Tryd.underlying24 hi3 hy0 hy1 hy2 rfl (by decide) _ _ _ rfl (how0.alloc _) ⟨wr.heap.size, 0, none⟩ 1 1 [.int .i64 ball] rfl rfl (cell_one_new _ _ _) (by simp [Value.oneCell']) (by unfold maxLen; omega) (by omega) (by simp; omega) ?_; intro v' w1 hown' hgrow hnil hloc; have ho1 := Lib.hid hown'; have hB1 := Lib.hid (below_own (hB.out.alloc hsz _) (how0.alloc _) hgrow); clear hown' hgrow hnil hloc)
      refine ⟨⟨k + 1, by omega, by simp, Lib.hid ?_, hB1⟩, by simp [intOf]; omega⟩
      have h := ho1.out
      rw [List.replicate_succ', List.map_append]
      exact h
    · have hlt1 : ¬ (k : Int) < (times : Int) := by omega
      have hke : k = times := by omega
      subst hke
      have hsz := hB.out.size
      have how0 := how.out
      go_wp2_with (at_builtin; refine wpList_append_none _ rfl _ _ 24 rfl w.heap.size 3 i3 1 Tryd.underlying24 hi3 _ _ _ rfl how0 rfl ?_)
      go_returns
      exact ⟨_, rfl, by have h := how.out; rw [List.map_replicate] at h; exact h, hB.out⟩

def bsA : List Int := [10, 10, 5, 5]
def bsB : List Int := List.replicate 10 10 ++ [9, 1]
def bsC : List Int := List.replicate 11 10
def bsD : List Int := List.replicate 13 10
def nineL : Lw := ⟨10, 10, 2, 9⟩
def bsE : List Int := [9, 9, 1, 0]
theorem vA : errS tenL 4 = 0 ∧ (fol tenL (rec0 tenL) bsA).2 = 4 := by decide +kernel
theorem vN : rdE tenL eveL = 0 ∧ rdN tenL eveL = 4 ∧ rdM tenL eveL = [20, 39, 48] ∧ rdS tenL eveL = 6 ∧ rdD tenL eveL = false ∧ rdF tenL eveL = [[10], [7, 3], [9, -1], [4]] := by decide +kernel
theorem v74 : rdE tenL [7, 4] = 10 := by decide +kernel
theorem vSp : (recS tenL manyL).tot = 288 ∧ bestV tenL (recS tenL manyL).s = 1 := by decide +kernel
theorem v290 : shE tenL manyL 290 = 9 := by decide +kernel
theorem vB : rdE tenL bsB = 0 ∧ (recS tenL bsB).tot = 289 ∧ bestV tenL (recS tenL bsB).s = 0 := by decide +kernel
theorem vC : rdE tenL bsC = 0 ∧ (recS tenL bsC).tot = 290 ∧ bestV tenL (recS tenL bsC).s = 10 := by decide +kernel
theorem vD : errS tenL 13 = 0 ∧ (fol tenL (rec0 tenL) bsD).2 = 12 := by decide +kernel
theorem vE : rdE nineL bsE = 0 ∧ rdM nineL bsE = [21, 32, 33] := by decide +kernel
theorem v11 : rdE tenL [11] = 10 ∧ rdE tenL [] = 0 := by decide +kernel
theorem v41 : errS tenL 41 = 3 := by decide +kernel

end Go.Proofs.YtmjbidnlknmcgaaDoor
