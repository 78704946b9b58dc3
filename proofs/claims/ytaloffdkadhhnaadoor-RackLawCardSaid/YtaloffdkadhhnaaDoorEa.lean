/- The iterator over a set of pins. -/
import Derived.Test.YtaloffdkadhhnaaDoorBt
import Derived.RangeFuncBound
import Derived.Shelf.Abstract
import Derived.Shelf.RegionOpen
import Derived.OwnWalkIn
import Derived.TacticsInMore
import Derived.LoopNIn
import Derived.LoopIn
set_option linter.unusedVariables false
set_option linter.unusedSimpArgs false
namespace Go.Proofs.YtaloffdkadhhnaaDoor
open Go.RowKit Go.Shelf

attribute [local go_sem] Oper.semAt_some

set_option maxHeartbeats 400000 in
theorem each_any (N : Nat) (w : World) :
    Calls Tryd.prog 97 #[.int .u16 (N : Nat)] w fun e w' => e = .returned (.func (.func 112) #[] #[.pointer (some ⟨w.heap.size, 0, none⟩)]) ∧ w' = w.alloc (.cells #[.int .u16 (N : Nat)] 100) := by
  go_enter Tryd.func97, Tryd.ntmps97
  go_wp2_with fail
  go_ret
  exact ⟨rfl, rfl⟩

theorem Boxed.alt {W W' : World} {B : Nat} {t : TypeId} {v : Value} {p : Nat → Prop} (h : Boxed W B t v) (ha : Alt p W W') (hp : ¬ p B) : Boxed W' B t v := ha.obj h hp

theorem pred16 {N : Nat} (h0 : N ≠ 0) (h : N < 65536) : bits BinOp.and IntKind.u16 (N : Int) (IntKind.u16.wrap ((N : Int) - 1)) = ((N &&& (N - 1) : Nat) : Int) := by
  have e : IntKind.u16.wrap ((N : Int) - 1) = ((N - 1 : Nat) : Int) := by unfold IntKind.wrap; simp [IntKind.bits, IntKind.signed]; omega
  rw [e, and16 h (by omega)]

set_option maxRecDepth 100000 in
set_option maxHeartbeats 4000000 in
theorem each1_iter (B N : Nat) (w : World) (hB : Boxed w B 100 (.int .u16 (N : Nat))) (hN : N < 65536) (hT : TabOK w) :
    Iter Tryd.prog 112 #[.pointer (some ⟨B, 0, none⟩)] (fun x : Int => #[Value.int .i64 x]) (els N) 0 (fun k => k = B ∨ k = 0) w := by
  intro l J Jx W hW hJ hJx hY h0
  have hBW := Boxed.alt hB hW (by simp)
  have hTW := hT.alt hW (by simp)
  have cB := hBW.cell
  clear hB hT hW hJ hJx
  refine callsIn_of_wp Tryd.func112 rfl trivial ?_ rfl
  simp only [Tryd.ntmps112, List.size_toArray, List.length_cons, List.length_nil, Nat.reduceAdd, Nat.reduceSub, Array.replicate_succ, Array.replicate_zero, List.push_toArray, List.append_toArray, List.nil_append, List.cons_append]
  gi_wp2
  gi_loopw [3] (fun s wr => ∃ (pre : List Int) (M : Nat), s = .int .u16 (M : Nat) ∧ M < 65536 ∧ els N = pre ++ els M ∧ J pre wr ∧ TabOK wr ∧ W.heap.size ≤ wr.heap.size) (fun s wr => (els (intOf s).toNat).length)
  case atStart =>
    exact ⟨[], N, rfl, hN, rfl, h0, hTW, Nat.le_refl _⟩
  case round =>
    obtain ⟨pre, M, rfl, hM, hx, hJs, hTr, hsz⟩ := hrel
    by_cases hz : M = 0
    · subst hz
      rw [els_zero, List.append_nil] at hx
      gi_wp2
      go_end0
      exact ⟨⟨_, rfl⟩, .inl (by rw [hx]; exact hJs)⟩
    · obtain ⟨hr, hb, hn⟩ := tz_bit hz hM
      have hst := els_step hr hb hn
      have HP := Lib.hid (pred16 hz hM)
      have HF := Lib.hid (callsIn_wide (n := 0).2 (first_any M wr hz hM hTr))
      have hz' : ((M : Int) == 0) = false := by simpa using hz
      have hML := and_pred_lt hM
      generalize Lib.ctz 16 M = r at *
      obtain ⟨fn, tmps, assign, body, hy, hR⟩ := hY pre (r : Int) (els (M &&& (M - 1))) wr (by rw [hx, hst]) (by omega) hJs
      clear hr hb hn hz
      gi_wp2
      refine ⟨trivial, rfl, ?_⟩
      refine HF.out.mono ?_
      rintro e w1 ⟨rfl, rfl⟩
      gi_wp2
      refine ⟨rfl, hR.mono ?_⟩
      rintro e W3 (⟨rfl, hJ3, hk3⟩ | ⟨rfl, hJx3⟩)
      · have hT3 := hTr.alt hk3 (by simp)
        have hs3 := Nat.le_trans hsz hk3.size
        clear hk3 hTr hTW hBW
        gi_wp2
        go_roundw
        case rel => exact ⟨pre ++ [(r : Int)], M &&& (M - 1), by rw [HP.out], hML, by rw [hx, hst]; simp, hJ3, hT3, hs3⟩
        case measure =>
          simp only [intOf]
          rw [HP.out, Int.toNat_natCast, Int.toNat_natCast, hst]; simp
      · gi_wp2
        refine bodyPost_ret (results_none rfl _ _ _) rfl ?_
        exact ⟨⟨_, rfl⟩, .inr ⟨pre, (r : Int), els (M &&& (M - 1)), by rw [hx, hst], hJx3⟩⟩

end Go.Proofs.YtaloffdkadhhnaaDoor
