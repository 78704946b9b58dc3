/- What is known of the games of a lane; the contract of Many. -/
import Derived.Test.YtbbndcfnpfedpaaSo
set_option linter.unusedVariables false
set_option linter.unusedSimpArgs false
namespace Go.Proofs.Ytbbndcfnpfedpaa
open Go.RowKit Go.Shelf

attribute [local go_sem] Oper.semAt_some

theorem rolls_all : rolls.all (fun p => decide (0 ≤ p.1) && decide (p.1 ≤ 10) && decide (0 ≤ p.2) && decide (p.2 ≤ p.1)) = true := by kernel_rfl
theorem rolls_in {p : Int × Int} (h : p ∈ rolls) : 0 ≤ p.1 ∧ p.1 ≤ 10 ∧ 0 ≤ p.2 ∧ p.2 ≤ p.1 := by
  have := List.all_eq_true.1 rolls_all p h
  simp only [Bool.and_eq_true, decide_eq_true_eq] at this
  exact ⟨this.1.1.1, this.1.1.2, this.1.2, this.2⟩
theorem games_in {ws : List Wd} {s : Int → Bool} {fr : Int} {p : Int × Int} (h : p ∈ gamesL ws s fr) : p ∈ rolls ∧ fitsB ws s fr p.1 p.2 = true := by
  unfold gamesL at h
  exact List.mem_filter.1 h

theorem gofE_zero {l : Lan} {ts : List Int} (h : gofE l ts = 0) : chkE l ts = 0 ∧ possB l (offS ts) = true := by
  unfold gofE at h
  split at h
  · next h0 =>
    refine ⟨h0, ?_⟩
    split at h
    · next h1 => exact h1
    · omega
  · next h0 => exact absurd h h0
theorem gofL_ok {l : Lan} {ts : List Int} (h : gofE l ts = 0) : gofL l ts = frmL l (offS ts) := by unfold gofL; rw [if_pos h]
theorem gofL_no {l : Lan} {ts : List Int} (h : gofE l ts ≠ 0) : gofL l ts = [] := by unfold gofL; rw [if_neg h]
theorem gofL_mem {l : Lan} {ts : List Int} {gs : List (Int × Int)} (h : gs ∈ gofL l ts) : gs.length ≤ 66 ∧ ∀ p ∈ gs, 0 ≤ p.1 ∧ p.1 ≤ 10 ∧ 0 ≤ p.2 ∧ p.2 ≤ p.1 := by
  unfold gofL at h
  split at h
  · unfold frmL at h
    obtain ⟨f, _, rfl⟩ := List.mem_map.1 h
    exact ⟨games_len _ _ _, fun p hp => rolls_in (games_in hp).1⟩
  · simp at h
theorem gofL_len (l : Lan) (ts : List Int) : (gofL l ts).length ≤ 5 := by
  unfold gofL
  split
  · next h =>
    have := (fault0 (chkE_zero (gofE_zero h).1).1).2.2.2.1
    unfold frmL; simp; omega
  · simp

def prodN (L : List (List (Int × Int))) : Nat := L.foldl (fun n g => n * g.length) 1
theorem prodN_snoc (L : List (List (Int × Int))) (g : List (Int × Int)) : prodN (L ++ [g]) = prodN L * g.length := by unfold prodN; rw [List.foldl_append]; rfl
theorem prodN_le (L : List (List (Int × Int))) (h : ∀ g ∈ L, g.length ≤ 66) : prodN L ≤ 66 ^ L.length := by
  have key : ∀ (L : List (List (Int × Int))) (n : Nat), (∀ g ∈ L, g.length ≤ 66) → L.foldl (fun n g => n * g.length) n ≤ n * 66 ^ L.length := by
    intro L
    induction L with
    | nil => intro n _; simp
    | cons g L ih =>
      intro n h
      refine Nat.le_trans (ih (n * g.length) (fun x hx => h x (by simp [hx]))) ?_
      rw [List.length_cons, Nat.pow_succ, Nat.mul_comm (66 ^ L.length) 66, ← Nat.mul_assoc]
      exact Nat.mul_le_mul_right _ (Nat.mul_le_mul_left _ (h g (by simp)))
  have := key L 1 h
  rw [Nat.one_mul] at this
  exact this
def manyN (l : Lan) (ts : List Int) : Nat := if gofE l ts = 0 then prodN (gofL l ts) else 0

set_option maxRecDepth 100000 in
set_option maxHeartbeats 8000000 in
theorem many_any (l : Lan) (ts : List Int) (a : Option Addr) (c : Nat) (w : World) (hL : WdsAt w l.wa l.ws) (hX : IntsAt w a ts) (hn : l.ws.length ≤ 1000) (hm : ts.length ≤ 1000) (hga : ∀ g o, l.wa = some ⟨g, o, none⟩ → g < w.heap.size) :
    Calls Try.prog 30 #[l.val, .slice a ts.length c] w fun e w' => e = .returned (.tuple #[.int .i64 (manyN l ts : Nat), .int .i64 (gofE l ts)]) ∧ Below w.heap.size w w' := by
  have GO := Lib.hid (fun W (hb : Below w.heap.size w W) => gamesOf_any l ts a c W (hL.lo hb) (hX.lo hb) hn hm (fun g o e => Nat.lt_of_lt_of_le (hga g o e) hb.size))
  have HM : Hid (manyN l ts = if gofE l ts = 0 then prodN (gofL l ts) else 0) := Lib.hid rfl
  have HLe : Hid (∀ gs ∈ gofL l ts, gs.length ≤ 66) := Lib.hid fun gs h => (gofL_mem h).1
  have HL5 := Lib.hid (gofL_len l ts)
  have B0 := Lib.hid (below_al w (.cells #[.int .i64 l.fs, .slice l.wa l.ws.length l.wc] 32))
  unfold GofR at GO
  generalize manyN l ts = MN at *
  generalize gofE l ts = E at *
  generalize gofL l ts = L at *
  unfold Lan.val at *
  clear hL hX hn hm hga
  go_enter Try.func30, Try.ntmps30
  go_wp2_with fail
  refine (GO.out _ B0.out).mono ?_
  rintro e w1 ⟨aL, cL, rfl, hfr, hb1⟩
  have B1 := Lib.hid (below_go B0.out hb1)
  have HFR := Lib.hid hfr
  clear hb1 hfr B0 GO
  by_cases hE : E = 0
  · have HMN : Hid (MN = prodN L) := Lib.hid (by rw [HM.out, if_pos hE])
    subst hE
    have hl5 : L.length ≤ 5 := HL5.out
    go_wp2_with fail
    go_loopg [8, 22] L.length (fun g s8 s22 wx => ∃ i : Nat, i ≤ L.length ∧ g = L.length - i ∧ s22 = .int .i64 (i : Int) ∧ s8 = .int .i64 (prodN (L.take i) : Nat) ∧ wx = w1)
    case atStart => exact ⟨0, by omega, by omega, rfl, rfl, rfl⟩
    case round =>
      obtain ⟨i, hi, rfl, rfl, rfl, rfl⟩ := hrel
      by_cases hlt : i < L.length
      · have hz0 : (0 : Int) ≤ (i : Int) := by omega
        have hz1 : (i : Int) < (L.length : Int) := by omega
        obtain ⟨gs, hgs⟩ : ∃ gs, L[i]? = some gs := ⟨L[i]'hlt, List.getElem?_eq_getElem _⟩
        obtain ⟨g, o, a', c', rfl, hgb, k1, k2, k3⟩ := HFR.out i gs hgs
        have e2 : IntKind.i64.wrap ((i : Int) + 1) = (i : Int) + 1 := IntWalk.i64_in _ (by omega)
        have hg6 := HLe.out gs (List.mem_of_getElem? hgs)
        have HT := Lib.hid (show prodN (L.take (i + 1)) = prodN (L.take i) * gs.length by rw [take_next hgs, prodN_snoc])
        have hpl : prodN (L.take i) ≤ 66 ^ 4 := by
          refine Nat.le_trans (prodN_le _ (fun g hg => HLe.out g (List.mem_of_mem_take hg))) ?_
          rw [List.length_take]
          exact Nat.pow_le_pow_right (by omega) (by omega)
        have e3 : IntKind.i64.wrap ((prodN (L.take i) : Int) * (gs.length : Int)) = (prodN (L.take i) : Int) * (gs.length : Int) := IntWalk.i64_in _ (by
          have h1 : prodN (L.take i) * gs.length ≤ 66 ^ 4 * 66 := Nat.mul_le_mul hpl hg6
          have h2 : ((prodN (L.take i) * gs.length : Nat) : Int) = (prodN (L.take i) : Int) * (gs.length : Int) := by simp
          omega)
        clear hgs hgb k2 k3 hg6 hpl
        go_wp2_with fail
        go_roundg (L.length - (i + 1))
        case measure => omega
        case rel => exact ⟨i + 1, by omega, rfl, by simp, by rw [HT.out]; simp, rfl⟩
      · have hz1 : ¬ (i : Int) < (L.length : Int) := by omega
        have HR := Lib.hid (show prodN (L.take i) = MN by rw [HMN.out, List.take_of_length_le (by omega)])
        clear hlt
        go_wp2_with fail
        go_returns
        exact ⟨by rw [HR.out]; first | done | rfl, B1.out⟩
  · have HMN : Hid (MN = 0) := Lib.hid (by rw [HM.out, if_neg hE])
    have hE2 : (E == 0) = false := by simpa using hE
    go_wp2_with fail
    go_returns
    exact ⟨by rw [HMN.out]; first | done | rfl, B1.out⟩

end Go.Proofs.Ytbbndcfnpfedpaa
