/- The contract of chosen. -/
import Derived.Test.YtbbndcfnpfedpaaTb
set_option linter.unusedVariables false
set_option linter.unusedSimpArgs false
namespace Go.Proofs.Ytbbndcfnpfedpaa
open Go.RowKit Go.Shelf

attribute [local go_sem] Oper.semAt_some

/-- .. that is nil only if it is empty. -/
def RetJ (xs : List Int) (w : World) (e : Ending) (w' : World) : Prop := ∃ a c, e = .returned (.slice a xs.length c) ∧ IntsAt w' a xs ∧ (∀ g o, a = some ⟨g, o, none⟩ → w.heap.size ≤ g ∧ g < w'.heap.size) ∧ (a = none → xs = [] ∧ c = 0) ∧ Below w.heap.size w w'

def bitB (u : Int) (k : Nat) : Bool := decide (u / (2 : Int) ^ k % 2 = 1)
def chosenTo (u : Int) (i : Nat) : List Int := ((List.range i).filter (bitB u)).map fun (k : Nat) => (k : Int)
def chosenL (u : Int) : List Int := chosenTo u 4
theorem chosenTo_len (u : Int) (i : Nat) : (chosenTo u i).length ≤ i := by
  unfold chosenTo
  rw [List.length_map]
  exact Nat.le_trans (List.length_filter_le _ _) (by simp)
theorem chosenTo_yes {u : Int} {i : Nat} (h : bitB u i = true) : chosenTo u (i + 1) = chosenTo u i ++ [(i : Int)] := by
  unfold chosenTo; rw [List.range_succ, List.filter_append, List.map_append]; simp [List.filter, h]
theorem chosenTo_no {u : Int} {i : Nat} (h : bitB u i = false) : chosenTo u (i + 1) = chosenTo u i := by
  unfold chosenTo; rw [List.range_succ, List.filter_append, List.map_append]; simp [List.filter, h]

set_option maxRecDepth 100000 in
set_option maxHeartbeats 8000000 in
theorem chosen_any (u : Int) (w : World) (h0 : 0 ≤ u) (h1 : u < 256) : Calls Try.prog 46 #[.int .u8 u] w (RetJ (chosenL u) w) := by
  obtain ⟨i0, hi0, hy0, hy1, hy2⟩ := info_parts info3
  have O0 := Lib.hid (show w.ownsRow w.heap.size 3 1 (.slice none 0 0) (chosenTo u 0).length ((chosenTo u 0).map (Value.int .i64)) from ⟨rfl, .inl ⟨rfl, rfl⟩⟩)
  have B0 := Lib.hid (Below.refl w.heap.size w)
  unfold RetJ
  go_enter Try.func46, Try.ntmps46
  go_wp2_with fail
  go_loopg [3, 4] 4 (fun g s3 s4 wx => ∃ (i : Nat) (v : Value), i ≤ 4 ∧ g = 4 - i ∧ s4 = .int .i64 (i : Int) ∧ v = s3 ∧ Hid (wx.ownsRow w.heap.size 3 1 v (chosenTo u i).length ((chosenTo u i).map (Value.int .i64))) ∧ Hid (Below w.heap.size w wx))
  case atStart => exact ⟨0, _, by omega, by omega, rfl, rfl, O0, B0⟩
  case round =>
    obtain ⟨i, v, hi, rfl, rfl, rfl, hO, hB⟩ := hrel
    clear O0 B0
    obtain rfl | rfl | rfl | rfl | rfl : i = 0 ∨ i = 1 ∨ i = 2 ∨ i = 3 ∨ i = 4 := by omega
    · have hbit : bitB u 0 = decide (u / 1 % 2 = 1) := by unfold bitB; rfl
      have HY := Lib.hid (@chosenTo_yes u 0)
      have HX := Lib.hid (@chosenTo_no u 0)
      have HL4 := Lib.hid (chosenTo_len u 0)
      have HZ := Lib.hid hB.out.size
      by_cases hb : u / 1 % 2 = 1
      · have HE := Lib.hid (HY.out (by rw [hbit]; exact decide_eq_true hb))
        have HE2 := Lib.hid (show (chosenTo u (0 + 1)).length = (chosenTo u 0).length + 1 by rw [HE.out]; simp)
        have HE3 := Lib.hid (show (chosenTo u (0 + 1)).map (Value.int .i64) = (chosenTo u 0).map (Value.int .i64) ++ [.int .i64 0] by rw [HE.out]; simp)
        generalize chosenTo u 0 = xs at *
        have AB := Lib.hid (fun w1 (hg : (wr.alloc (.cells #[.int .i64 0] 3)).grownBy w1 v.ownBlock) => ((Alt.of_below (p := fun k => w.heap.size ≤ k) hB.out (fun k hk e => e)).trans (((Alt.refl (fun k => w.heap.size ≤ k) wr).alloc (.cells #[.int .i64 0] 3)).grown hg (fun k e => own_base hO.out e))).below (Nat.le_refl _) fun _ e => e)
        clear hbit HY HX HE
        go_wp2_with (at_builtin; go_must (refine wpList_append_own_at _ rfl _ _ 25 rfl w.heap.size 3 i0 _ 1 8 Try.underlying25 hi0 hy0 hy1 hy2 rfl (by decide) v xs.length (xs.map (Value.int .i64)) rfl (hO.out.alloc _) ⟨wr.heap.size, 0, none⟩ 1 1 [.int .i64 0] rfl (by rfl) (cell_one_new _ _ _) (by simp [Value.oneCell']) (by unfold maxLen; have := HL4.out; omega) (by have := HL4.out; omega) (by have := HZ.out; simp; omega) ?_); intro v' w1 hown' hgrow hnil hloc; have N1 := Lib.hid hown'; have NB := Lib.hid (AB.out w1 hgrow); clear hown' hgrow hnil hloc)
        rw [← HE2.out, ← HE3.out] at N1
        clear hO hB AB
        go_roundg (4 - (0 + 1))
        case measure => omega
        case rel => exact ⟨0 + 1, _, by omega, rfl, by simp, rfl, N1, NB⟩
      · have HE := Lib.hid (HX.out (by rw [hbit]; exact decide_eq_false hb))
        clear hbit HY HX
        go_wp2_with fail
        go_roundg (4 - (0 + 1))
        case measure => omega
        case rel => exact ⟨0 + 1, _, by omega, rfl, by simp, rfl, by rw [HE.out]; exact hO, hB⟩
    · have hbit : bitB u 1 = decide (u / 2 % 2 = 1) := by unfold bitB; rfl
      have HY := Lib.hid (@chosenTo_yes u 1)
      have HX := Lib.hid (@chosenTo_no u 1)
      have HL4 := Lib.hid (chosenTo_len u 1)
      have HZ := Lib.hid hB.out.size
      by_cases hb : u / 2 % 2 = 1
      · have HE := Lib.hid (HY.out (by rw [hbit]; exact decide_eq_true hb))
        have HE2 := Lib.hid (show (chosenTo u (1 + 1)).length = (chosenTo u 1).length + 1 by rw [HE.out]; simp)
        have HE3 := Lib.hid (show (chosenTo u (1 + 1)).map (Value.int .i64) = (chosenTo u 1).map (Value.int .i64) ++ [.int .i64 1] by rw [HE.out]; simp)
        generalize chosenTo u 1 = xs at *
        have AB := Lib.hid (fun w1 (hg : (wr.alloc (.cells #[.int .i64 1] 3)).grownBy w1 v.ownBlock) => ((Alt.of_below (p := fun k => w.heap.size ≤ k) hB.out (fun k hk e => e)).trans (((Alt.refl (fun k => w.heap.size ≤ k) wr).alloc (.cells #[.int .i64 1] 3)).grown hg (fun k e => own_base hO.out e))).below (Nat.le_refl _) fun _ e => e)
        clear hbit HY HX HE
        go_wp2_with (at_builtin; go_must (refine wpList_append_own_at _ rfl _ _ 25 rfl w.heap.size 3 i0 _ 1 8 Try.underlying25 hi0 hy0 hy1 hy2 rfl (by decide) v xs.length (xs.map (Value.int .i64)) rfl (hO.out.alloc _) ⟨wr.heap.size, 0, none⟩ 1 1 [.int .i64 1] rfl (by rfl) (cell_one_new _ _ _) (by simp [Value.oneCell']) (by unfold maxLen; have := HL4.out; omega) (by have := HL4.out; omega) (by have := HZ.out; simp; omega) ?_); intro v' w1 hown' hgrow hnil hloc; have N1 := Lib.hid hown'; have NB := Lib.hid (AB.out w1 hgrow); clear hown' hgrow hnil hloc)
        rw [← HE2.out, ← HE3.out] at N1
        clear hO hB AB
        go_roundg (4 - (1 + 1))
        case measure => omega
        case rel => exact ⟨1 + 1, _, by omega, rfl, by simp, rfl, N1, NB⟩
      · have HE := Lib.hid (HX.out (by rw [hbit]; exact decide_eq_false hb))
        clear hbit HY HX
        go_wp2_with fail
        go_roundg (4 - (1 + 1))
        case measure => omega
        case rel => exact ⟨1 + 1, _, by omega, rfl, by simp, rfl, by rw [HE.out]; exact hO, hB⟩
    · have hbit : bitB u 2 = decide (u / 4 % 2 = 1) := by unfold bitB; rfl
      have HY := Lib.hid (@chosenTo_yes u 2)
      have HX := Lib.hid (@chosenTo_no u 2)
      have HL4 := Lib.hid (chosenTo_len u 2)
      have HZ := Lib.hid hB.out.size
      by_cases hb : u / 4 % 2 = 1
      · have HE := Lib.hid (HY.out (by rw [hbit]; exact decide_eq_true hb))
        have HE2 := Lib.hid (show (chosenTo u (2 + 1)).length = (chosenTo u 2).length + 1 by rw [HE.out]; simp)
        have HE3 := Lib.hid (show (chosenTo u (2 + 1)).map (Value.int .i64) = (chosenTo u 2).map (Value.int .i64) ++ [.int .i64 2] by rw [HE.out]; simp)
        generalize chosenTo u 2 = xs at *
        have AB := Lib.hid (fun w1 (hg : (wr.alloc (.cells #[.int .i64 2] 3)).grownBy w1 v.ownBlock) => ((Alt.of_below (p := fun k => w.heap.size ≤ k) hB.out (fun k hk e => e)).trans (((Alt.refl (fun k => w.heap.size ≤ k) wr).alloc (.cells #[.int .i64 2] 3)).grown hg (fun k e => own_base hO.out e))).below (Nat.le_refl _) fun _ e => e)
        clear hbit HY HX HE
        go_wp2_with (at_builtin; go_must (refine wpList_append_own_at _ rfl _ _ 25 rfl w.heap.size 3 i0 _ 1 8 Try.underlying25 hi0 hy0 hy1 hy2 rfl (by decide) v xs.length (xs.map (Value.int .i64)) rfl (hO.out.alloc _) ⟨wr.heap.size, 0, none⟩ 1 1 [.int .i64 2] rfl (by rfl) (cell_one_new _ _ _) (by simp [Value.oneCell']) (by unfold maxLen; have := HL4.out; omega) (by have := HL4.out; omega) (by have := HZ.out; simp; omega) ?_); intro v' w1 hown' hgrow hnil hloc; have N1 := Lib.hid hown'; have NB := Lib.hid (AB.out w1 hgrow); clear hown' hgrow hnil hloc)
        rw [← HE2.out, ← HE3.out] at N1
        clear hO hB AB
        go_roundg (4 - (2 + 1))
        case measure => omega
        case rel => exact ⟨2 + 1, _, by omega, rfl, by simp, rfl, N1, NB⟩
      · have HE := Lib.hid (HX.out (by rw [hbit]; exact decide_eq_false hb))
        clear hbit HY HX
        go_wp2_with fail
        go_roundg (4 - (2 + 1))
        case measure => omega
        case rel => exact ⟨2 + 1, _, by omega, rfl, by simp, rfl, by rw [HE.out]; exact hO, hB⟩
    · have hbit : bitB u 3 = decide (u / 8 % 2 = 1) := by unfold bitB; rfl
      have HY := Lib.hid (@chosenTo_yes u 3)
      have HX := Lib.hid (@chosenTo_no u 3)
      have HL4 := Lib.hid (chosenTo_len u 3)
      have HZ := Lib.hid hB.out.size
      by_cases hb : u / 8 % 2 = 1
      · have HE := Lib.hid (HY.out (by rw [hbit]; exact decide_eq_true hb))
        have HE2 := Lib.hid (show (chosenTo u (3 + 1)).length = (chosenTo u 3).length + 1 by rw [HE.out]; simp)
        have HE3 := Lib.hid (show (chosenTo u (3 + 1)).map (Value.int .i64) = (chosenTo u 3).map (Value.int .i64) ++ [.int .i64 3] by rw [HE.out]; simp)
        generalize chosenTo u 3 = xs at *
        have AB := Lib.hid (fun w1 (hg : (wr.alloc (.cells #[.int .i64 3] 3)).grownBy w1 v.ownBlock) => ((Alt.of_below (p := fun k => w.heap.size ≤ k) hB.out (fun k hk e => e)).trans (((Alt.refl (fun k => w.heap.size ≤ k) wr).alloc (.cells #[.int .i64 3] 3)).grown hg (fun k e => own_base hO.out e))).below (Nat.le_refl _) fun _ e => e)
        clear hbit HY HX HE
        go_wp2_with (at_builtin; go_must (refine wpList_append_own_at _ rfl _ _ 25 rfl w.heap.size 3 i0 _ 1 8 Try.underlying25 hi0 hy0 hy1 hy2 rfl (by decide) v xs.length (xs.map (Value.int .i64)) rfl (hO.out.alloc _) ⟨wr.heap.size, 0, none⟩ 1 1 [.int .i64 3] rfl (by rfl) (cell_one_new _ _ _) (by simp [Value.oneCell']) (by unfold maxLen; have := HL4.out; omega) (by have := HL4.out; omega) (by have := HZ.out; simp; omega) ?_); intro v' w1 hown' hgrow hnil hloc; have N1 := Lib.hid hown'; have NB := Lib.hid (AB.out w1 hgrow); clear hown' hgrow hnil hloc)
        rw [← HE2.out, ← HE3.out] at N1
        clear hO hB AB
        go_roundg (4 - (3 + 1))
        case measure => omega
        case rel => exact ⟨3 + 1, _, by omega, rfl, by simp, rfl, N1, NB⟩
      · have HE := Lib.hid (HX.out (by rw [hbit]; exact decide_eq_false hb))
        clear hbit HY HX
        go_wp2_with fail
        go_roundg (4 - (3 + 1))
        case measure => omega
        case rel => exact ⟨3 + 1, _, by omega, rfl, by simp, rfl, by rw [HE.out]; exact hO, hB⟩
    · obtain ⟨a, c, rfl⟩ := own_len hO.out
      have HI := Lib.hid (own_intsAt hO.out).1
      have HBB := Lib.hid (show ∀ g o, a = some ⟨g, o, none⟩ → w.heap.size ≤ g ∧ g < wr.heap.size from fun g o e => by
        have := hO.out.lt g (by rw [e]; rfl)
        omega)
      have HNL := Lib.hid (show a = none → chosenTo u 4 = [] ∧ c = 0 from fun e => by
        subst e
        rcases hO.out.2 with ⟨e1, e2⟩ | ⟨g, cap, cur, e1, _⟩
        · simp only [Value.slice.injEq] at e1
          exact ⟨List.eq_nil_of_length_eq_zero e2, e1.2.2⟩
        · cases e1)
      clear hO
      go_wp2_with fail
      go_returns
      first
      | exact ⟨a, c, rfl, HI.out, HBB.out, HNL.out, hB.out⟩
      | exact ⟨a, ⟨c, rfl⟩, HI.out, HBB.out, HNL.out, hB.out⟩

theorem chosenL_in {u : Int} {t : Int} (h : t ∈ chosenL u) : 0 ≤ t ∧ t ≤ 3 := by
  unfold chosenL chosenTo at h
  obtain ⟨k, hk, rfl⟩ := List.mem_map.1 h
  have := List.mem_range.1 (List.mem_filter.1 hk).1
  omega
theorem chosenL_rise (u : Int) : riseIn 0 3 (chosenL u) = true := by
  refine riseIn_step ?_ fun x hx => inB_iff.2 (chosenL_in hx)
  unfold chosenL chosenTo
  rw [List.pairwise_map]
  refine (List.Pairwise.filter _ (List.pairwise_lt_range)).imp fun {a b} h => by omega
theorem chosenL_len (u : Int) : (chosenL u).length ≤ 4 := chosenTo_len u 4

end Go.Proofs.Ytbbndcfnpfedpaa
