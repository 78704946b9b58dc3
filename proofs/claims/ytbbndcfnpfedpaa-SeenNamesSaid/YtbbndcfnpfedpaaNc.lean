/- SeenNames: its calls. -/
import Derived.Test.YtbbndcfnpfedpaaNb
set_option linter.unusedVariables false
set_option linter.unusedSimpArgs false
namespace Go.Proofs.Ytbbndcfnpfedpaa
open Go.RowKit Go.Shelf Go.Maps

attribute [local go_sem] Oper.semAt_some

theorem nc_exp0 (a : Option Addr) (c g : Nat) (W : World) (hL : WdsAt W a nightW) (hg : ∀ g o, a = some ⟨g, o, none⟩ → g < W.heap.size) (hX : IntsAt W (some ⟨g, 0, none⟩) [0]) : Calls Try.prog 21 #[.agg #[.int .i64 2, .slice a 5 c], .slice (some ⟨g, 0, none⟩) 1 1] W fun e w' => e = .returned (.tuple #[.bool false, .int .i64 0]) ∧ Below W.heap.size W w' := by
  have := explains_any (nightL a c) [0] (some ⟨g, 0, none⟩) 1 W hL hX (show (5 : Nat) ≤ 1000 by decide) (by simp) hg
  rw [n_exp0, n_chk0] at this
  exact this

theorem nc_exp11 (a : Option Addr) (c g : Nat) (W : World) (hL : WdsAt W a nightW) (hg : ∀ g o, a = some ⟨g, o, none⟩ → g < W.heap.size) (hX : IntsAt W (some ⟨g, 0, none⟩) [1, 1]) : Calls Try.prog 21 #[.agg #[.int .i64 2, .slice a 5 c], .slice (some ⟨g, 0, none⟩) 2 2] W fun e w' => e = .returned (.tuple #[.bool false, .int .i64 2]) ∧ Below W.heap.size W w' := by
  have := explains_any (nightL a c) [1, 1] (some ⟨g, 0, none⟩) 2 W hL hX (show (5 : Nat) ≤ 1000 by decide) (by simp) hg
  rw [n_exp11, n_chk11] at this
  exact this

theorem nc_many2 (a : Option Addr) (c g : Nat) (W : World) (hL : WdsAt W a nightW) (hg : ∀ g o, a = some ⟨g, o, none⟩ → g < W.heap.size) (hX : IntsAt W (some ⟨g, 0, none⟩) [2]) : Calls Try.prog 30 #[.agg #[.int .i64 2, .slice a 5 c], .slice (some ⟨g, 0, none⟩) 1 1] W fun e w' => e = .returned (.tuple #[.int .i64 21, .int .i64 0]) ∧ Below W.heap.size W w' := by
  have := many_any (nightL a c) [2] (some ⟨g, 0, none⟩) 1 W hL hX (show (5 : Nat) ≤ 1000 by decide) (by simp) hg
  rw [n_many2, n_gof2] at this
  exact this

theorem nc_manyn (a : Option Addr) (c : Nat) (W : World) (hL : WdsAt W a nightW) (hg : ∀ g o, a = some ⟨g, o, none⟩ → g < W.heap.size) : Calls Try.prog 30 #[.agg #[.int .i64 2, .slice a 5 c], .slice none 0 0] W fun e w' => e = .returned (.tuple #[.int .i64 0, .int .i64 9]) ∧ Below W.heap.size W w' := by
  have := many_any (nightL a c) [] none 0 W hL (fun i v h => by simp at h) (show (5 : Nat) ≤ 1000 by decide) (by simp) hg
  rw [n_manyn, n_gofn] at this
  exact this

theorem nc_sure1 (a : Option Addr) (c g : Nat) (W : World) (hL : WdsAt W a nightW) (hg : ∀ g o, a = some ⟨g, o, none⟩ → g < W.heap.size) (hX : IntsAt W (some ⟨g, 0, none⟩) [1]) : Calls Try.prog 29 #[.agg #[.int .i64 2, .slice a 5 c], .slice (some ⟨g, 0, none⟩) 1 1] W fun e w' => ∃ a c, e = .returned (.tuple #[.slice a 1 c, .int .i64 0]) ∧ P2At w' a [(0, 0)] ∧ (∀ g o, a = some ⟨g, o, none⟩ → W.heap.size ≤ g ∧ g < w'.heap.size) ∧ Below W.heap.size W w' := by
  have := sure_any (nightL a c) [1] (some ⟨g, 0, none⟩) 1 W hL hX (show (5 : Nat) ≤ 1000 by decide) (by simp) hg
  unfold SureR at this; rw [n_sure1, v_gof1] at this
  exact this

theorem nc_sure0 (a : Option Addr) (c g : Nat) (W : World) (hL : WdsAt W a nightW) (hg : ∀ g o, a = some ⟨g, o, none⟩ → g < W.heap.size) (hX : IntsAt W (some ⟨g, 0, none⟩) [0]) : Calls Try.prog 29 #[.agg #[.int .i64 2, .slice a 5 c], .slice (some ⟨g, 0, none⟩) 1 1] W fun e w' => ∃ a c, e = .returned (.tuple #[.slice a 0 c, .int .i64 9]) ∧ P2At w' a [] ∧ (∀ g o, a = some ⟨g, o, none⟩ → W.heap.size ≤ g ∧ g < w'.heap.size) ∧ Below W.heap.size W w' := by
  have := sure_any (nightL a c) [0] (some ⟨g, 0, none⟩) 1 W hL hX (show (5 : Nat) ≤ 1000 by decide) (by simp) hg
  unfold SureR at this; rw [n_sure0, n_gof0] at this
  exact this

theorem nc_rng4 (a : Option Addr) (c g : Nat) (W : World) (hL : WdsAt W a nightW) (hg : ∀ g o, a = some ⟨g, o, none⟩ → g < W.heap.size) (hX : IntsAt W (some ⟨g, 0, none⟩) [4]) : Calls Try.prog 26 #[.agg #[.int .i64 2, .slice a 5 c], .slice (some ⟨g, 0, none⟩) 1 1] W fun e w' => ∃ a c, e = .returned (.tuple #[.slice a 0 c, .agg #[.int .i64 0, .int .i64 0], .int .i64 2]) ∧ P2At w' a [] ∧ (∀ g o, a = some ⟨g, o, none⟩ → W.heap.size ≤ g ∧ g < w'.heap.size) ∧ Below W.heap.size W w' := by
  have := rangesP_any (nightL a c) [4] (some ⟨g, 0, none⟩) 1 W hL hX (show (5 : Nat) ≤ 1000 by decide) (by simp) hg
  unfold RngR at this; rw [n_rng4, n_cnt4, n_gof4] at this
  exact this

theorem nc_blame (a : Option Addr) (c : Nat) (W : World) (hL : WdsAt W a nightW) (hg : ∀ g o, a = some ⟨g, o, none⟩ → g < W.heap.size) : Calls Try.prog 33 #[.agg #[.int .i64 2, .slice a 5 c]] W fun e w' => e = .returned (.tuple #[.int .i64 0, .int .i64 7]) ∧ Below W.heap.size W w' := by
  have := blameP_any (nightL a c) W hL (show (5 : Nat) ≤ 1000 by decide) hg
  rw [n_blmN, n_blmE] at this
  exact this
theorem nc_blameM (a : Option Addr) (c : Nat) (W : World) (hL : WdsAt W a moreW) (hg : ∀ g o, a = some ⟨g, o, none⟩ → g < W.heap.size) : Calls Try.prog 33 #[.agg #[.int .i64 2, .slice a 6 c]] W fun e w' => e = .returned (.tuple #[.int .i64 1, .int .i64 0]) ∧ Below W.heap.size W w' := by
  have := blameP_any (moreL a c) W hL (show (6 : Nat) ≤ 1000 by decide) hg
  rw [n_mblN, n_mblE] at this
  exact this

theorem nc_pr1 (a : Option Addr) (c g r : Nat) (W : World) (hL : WdsAt W a nightW) (hg : ∀ g o, a = some ⟨g, o, none⟩ → g < W.heap.size) (hX : IntsAt W (some ⟨g, 0, none⟩) [1]) (hG : GAt W (some ⟨r, 0, none⟩) [[7, 1], [10]]) : Calls Try.prog 39 #[.agg #[.int .i64 2, .slice a 5 c], .slice (some ⟨g, 0, none⟩) 1 1, .slice (some ⟨r, 0, none⟩) 2 2] W fun e w' => e = .returned (.bool true) ∧ Below W.heap.size W w' := by
  have := proveGame_any (nightL a c) [1] [[7, 1], [10]] (some ⟨g, 0, none⟩) (some ⟨r, 0, none⟩) 1 2 W hL hX hG (show (5 : Nat) ≤ 1000 by decide) (by simp) (by simp)
  rw [n_pr1] at this
  exact this

theorem nc_pr2 (a : Option Addr) (c g r : Nat) (W : World) (hL : WdsAt W a nightW) (hg : ∀ g o, a = some ⟨g, o, none⟩ → g < W.heap.size) (hX : IntsAt W (some ⟨g, 0, none⟩) [1]) (hG : GAt W (some ⟨r, 0, none⟩) [[7, 0], [10]]) : Calls Try.prog 39 #[.agg #[.int .i64 2, .slice a 5 c], .slice (some ⟨g, 0, none⟩) 1 1, .slice (some ⟨r, 0, none⟩) 2 2] W fun e w' => e = .returned (.bool false) ∧ Below W.heap.size W w' := by
  have := proveGame_any (nightL a c) [1] [[7, 0], [10]] (some ⟨g, 0, none⟩) (some ⟨r, 0, none⟩) 1 2 W hL hX hG (show (5 : Nat) ≤ 1000 by decide) (by simp) (by simp)
  rw [n_pr2] at this
  exact this

theorem nc_pr3 (a : Option Addr) (c g r : Nat) (W : World) (hL : WdsAt W a nightW) (hg : ∀ g o, a = some ⟨g, o, none⟩ → g < W.heap.size) (hX : IntsAt W (some ⟨g, 0, none⟩) [1]) (hG : GAt W (some ⟨r, 0, none⟩) [[7, 1], [10, 0]]) : Calls Try.prog 39 #[.agg #[.int .i64 2, .slice a 5 c], .slice (some ⟨g, 0, none⟩) 1 1, .slice (some ⟨r, 0, none⟩) 2 2] W fun e w' => e = .returned (.bool false) ∧ Below W.heap.size W w' := by
  have := proveGame_any (nightL a c) [1] [[7, 1], [10, 0]] (some ⟨g, 0, none⟩) (some ⟨r, 0, none⟩) 1 2 W hL hX hG (show (5 : Nat) ≤ 1000 by decide) (by simp) (by simp)
  rw [n_pr3] at this
  exact this

theorem nc_pr4 (a : Option Addr) (c r : Nat) (W : World) (hL : WdsAt W a nightW) (hg : ∀ g o, a = some ⟨g, o, none⟩ → g < W.heap.size) (hG : GAt W (some ⟨r, 0, none⟩) [[7, 1], [10]]) : Calls Try.prog 39 #[.agg #[.int .i64 2, .slice a 5 c], .slice none 0 0, .slice (some ⟨r, 0, none⟩) 2 2] W fun e w' => e = .returned (.bool false) ∧ Below W.heap.size W w' := by
  have := proveGame_any (nightL a c) [] [[7, 1], [10]] none (some ⟨r, 0, none⟩) 0 2 W hL (fun i v h => by simp at h) hG (show (5 : Nat) ≤ 1000 by decide) (by simp) (by simp)
  rw [n_pr4] at this
  exact this

theorem nc_ckM (a : Option Addr) (c : Nat) (W : World) (hL : WdsAt W a manyW) : Calls Try.prog 19 #[.agg #[.int .i64 2, .slice a 31 c]] W fun e w' => e = .returned (.int .i64 3) ∧ Below W.heap.size W w' := by
  have := checkLane_any (manyL a c) W hL (show (31 : Nat) ≤ 1000 by decide)
  rw [n_fmany] at this
  exact this

theorem nc_ckO (a : Option Addr) (c : Nat) (W : World) (hL : WdsAt W a oddW) : Calls Try.prog 19 #[.agg #[.int .i64 2, .slice a 5 c]] W fun e w' => e = .returned (.int .i64 1) ∧ Below W.heap.size W w' := by
  have := checkLane_any (oddL a c) W hL (show (5 : Nat) ≤ 1000 by decide)
  rw [n_fodd] at this
  exact this

theorem nc_ckF (a : Option Addr) (c : Nat) (W : World) (hL : WdsAt W a farW) : Calls Try.prog 19 #[.agg #[.int .i64 2, .slice a 5 c]] W fun e w' => e = .returned (.int .i64 1) ∧ Below W.heap.size W w' := by
  have := checkLane_any (farL a c) W hL (show (5 : Nat) ≤ 1000 by decide)
  rw [n_ffar] at this
  exact this

theorem nc_ckE (W : World) : Calls Try.prog 19 #[.agg #[.int .i64 0, .slice none 0 0]] W fun e w' => e = .returned (.int .i64 1) ∧ Below W.heap.size W w' := by
  have := checkLane_any ⟨0, none, 0, []⟩ W (fun i v h => by simp at h) (by simp)
  rw [n_fempty] at this
  exact this
theorem nc_free (W : World) : Calls Try.prog 30 #[.agg #[.int .i64 5, .slice none 0 0], .slice none 0 0] W fun e w' => e = .returned (.tuple #[.int .i64 1252332576, .int .i64 0]) ∧ Below W.heap.size W w' := by
  have := many_any ⟨5, none, 0, []⟩ [] none 0 W (fun i v h => by simp at h) (fun i v h => by simp at h) (by simp) (by simp) (fun g o e => by cases e)
  rw [n_free, n_freeE] at this
  exact this
end Go.Proofs.Ytbbndcfnpfedpaa
