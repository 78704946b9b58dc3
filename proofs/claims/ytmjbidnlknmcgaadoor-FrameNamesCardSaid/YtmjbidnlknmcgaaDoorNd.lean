/- The calls of the law FrameNames, one by one. -/
import Derived.Test.YtmjbidnlknmcgaaDoorNc
set_option linter.unusedVariables false
set_option linter.unusedSimpArgs false
namespace Go.Proofs.YtmjbidnlknmcgaaDoor
open Go.RowKit

theorem tenOK : okB tenL = true := by decide +kernel
def eveF : List (List Int) := [[10], [7, 3], [9, -1], [4]]

theorem n_read (w : World) (a : Option Addr) (c : Nat) (hs : BallsAt w a eveL) :
    Calls Tryd.prog 23 #[tenL.val, .slice a 6 c] w fun e w' => ∃ fa fc qa qc, e = .returned (.tuple #[.agg #[.slice fa 4 fc, .slice qa 3 qc, .int .i64 6, .bool false], .int .i64 0]) ∧ Hid (FR w' fa 4 fc eveF) ∧ Below w.heap.size w w' := by
  have h := rd_fr tenL eveL a c w hs
  obtain ⟨v1, v2, v3, v4, v5, v6⟩ := vN
  rw [v1, v2, v3, v4, v5, v6] at h
  refine h.mono ?_
  rintro e w' ⟨fa, fc, qa, qc, rfl, _, hF, hb⟩
  exact ⟨fa, fc, qa, qc, rfl, hF, hb⟩
theorem n_bad (w : World) (a : Option Addr) (c : Nat) (hs : BallsAt w a bsA) :
    Calls Tryd.prog 18 #[tenL.val, .slice a 4 c] w fun e w' => e = .returned (.tuple #[.int .i64 0, .int .i64 7]) ∧ Below w.heap.size w w' := by
  refine (bad_fol tenL bsA a c w vA.1 hs _ (Lib.hid rfl)).mono ?_
  rintro e w' ⟨rfl, hb⟩
  have h := vA.2
  refine ⟨?_, hb⟩
  simp only [badV, badE, h]
  rfl
theorem n_span (w : World) (a : Option Addr) (c : Nat) (hs : BallsAt w a manyL) (hT : TabOK w) :
    Calls Tryd.prog 26 #[tenL.val, .slice a 11 c] w fun e w' => e = .returned (.tuple #[.agg #[.int .i64 288, .int .i64 289], .int .i64 0]) ∧ Below w.heap.size w w' := by
  refine (span_good tenL manyL a c w hs hT many_rd).mono ?_
  rintro e w' ⟨rfl, hb⟩
  obtain ⟨h1, h2⟩ := span_val (l := tenL) (bs := manyL) many_rd
  rw [vSp.1] at h1
  rw [vSp.1, vSp.2] at h2
  rw [h1, h2]
  exact ⟨rfl, hb⟩
theorem n_many2 (w : World) (g c : Nat) (hs : BallsAt w (some ⟨g, 0, none⟩) [9, 1]) :
    Calls Tryd.prog 36 #[.int .i64 10, .int .i64 10, .slice (some ⟨g, 0, none⟩) 2 c] w fun e w' => ∃ a c', e = .returned (.slice a 12 c') ∧ BallsAt w' a bsB ∧ Below w.heap.size w w' := by
  refine (many_some 10 10 [9, 1] g 0 c w (by omega) (by simp) hs (by simp)).mono ?_
  rintro e w' ⟨v, rfl, ho, hb⟩
  obtain ⟨a, c', rfl⟩ := own_len ho
  exact ⟨a, c', rfl, own_ballsAt ho, hb⟩
theorem n_many11 (w : World) :
    Calls Tryd.prog 36 #[.int .i64 10, .int .i64 11, .slice none 0 0] w fun e w' => ∃ a c', e = .returned (.slice a 11 c') ∧ BallsAt w' a bsC ∧ Below w.heap.size w w' := by
  refine (many_none 10 11 w (by omega)).mono ?_
  rintro e w' ⟨v, rfl, ho, hb⟩
  obtain ⟨a, c', rfl⟩ := own_len ho
  exact ⟨a, c', rfl, own_ballsAt ho, hb⟩
theorem n_many13 (w : World) :
    Calls Tryd.prog 36 #[.int .i64 10, .int .i64 13, .slice none 0 0] w fun e w' => ∃ a c', e = .returned (.slice a 13 c') ∧ BallsAt w' a bsD ∧ Below w.heap.size w w' := by
  refine (many_none 10 13 w (by omega)).mono ?_
  rintro e w' ⟨v, rfl, ho, hb⟩
  obtain ⟨a, c', rfl⟩ := own_len ho
  exact ⟨a, c', rfl, own_ballsAt ho, hb⟩
theorem n_ahead (w : World) (a : Option Addr) (c : Nat) (a1 a2 : Option Addr) (c1 c2 : Nat) (hs : SheetsAt w a [(a1, c1, bsB), (a2, c2, bsC)]) (hT : TabOK w) :
    Calls Tryd.prog 31 #[tenL.val, .slice a 2 c] w fun e w' => ∃ va vc ua uc, e = .returned (.tuple #[.slice va 1 vc, .slice ua 1 uc, .int .i64 0]) ∧ BallsAt w' va [1] ∧ BallsAt w' ua [1] ∧ Below w.heap.size w w' := by
  have hm : matchE tenL [(a1, c1, bsB), (a2, c2, bsC)] = 0 := by simp [matchE, tenOK, bsB, bsC]
  have hE : spE tenL [(a1, c1, bsB), (a2, c2, bsC)] = 0 := spE_good (by
    intro q hq
    simp only [List.mem_cons, List.not_mem_nil, or_false] at hq
    rcases hq with rfl | rfl
    · exact vB.1
    · exact vC.1)
  have hR : spR tenL [(a1, c1, bsB), (a2, c2, bsC)] = [(289, 289), (290, 300)] := by
    obtain ⟨h1, h2⟩ := span_val vB.1
    obtain ⟨h3, h4⟩ := span_val vC.1
    rw [vB.2.1] at h1
    rw [vB.2.1, vB.2.2] at h2
    rw [vC.2.1] at h3
    rw [vC.2.1, vC.2.2] at h4
    simp [spR, h1, h2, h3, h4]
  refine (ahead_good tenL ((okB_iff tenL).1 tenOK) [(a1, c1, bsB), (a2, c2, bsC)] a c w hs hm hE hT).mono ?_
  rw [hR]
  rintro e w' ⟨v1, v2, rfl, o1, o2, hb⟩
  have e1 : selL mayI [(289, 289), (290, 300)] [(a1, c1, bsB), (a2, c2, bsC)].length = [1] := by show selL mayI [(289, 289), (290, 300)] 2 = [1]; decide +kernel
  have e2 : selL sureI [(289, 289), (290, 300)] [(a1, c1, bsB), (a2, c2, bsC)].length = [1] := by show selL sureI [(289, 289), (290, 300)] 2 = [1]; decide +kernel
  rw [e1] at o1
  rw [e2] at o2
  obtain ⟨va, vc, rfl⟩ := own_len o1
  obtain ⟨ua, uc, rfl⟩ := own_len o2
  exact ⟨va, vc, ua, uc, rfl, own_ballsAt o1, own_ballsAt o2, hb⟩
theorem n_read74 (w : World) (a : Option Addr) (c : Nat) (hs : BallsAt w a [7, 4]) :
    Calls Tryd.prog 23 #[tenL.val, .slice a 2 c] w fun e w' => e = .returned (.tuple #[.agg #[.slice none 0 0, .slice none 0 0, .int .i64 0, .bool false], .int .i64 10]) ∧ Below w.heap.size w w' := by
  have h := rd_bad tenL [7, 4] a c w hs (by rw [v74]; decide)
  rw [v74] at h
  exact h
theorem n_shows (w : World) (a : Option Addr) (c : Nat) (hs : BallsAt w a manyL) :
    Calls Tryd.prog 28 #[tenL.val, .slice a 11 c, .int .i64 290] w fun e w' => ∃ va vn vc, e = .returned (.tuple #[.slice va vn vc, .int .i64 9]) ∧ Below w.heap.size w w' := by
  refine (sh_good tenL manyL a c 290 w hs many_rd).mono ?_
  rintro e w' ⟨v, rfl, ⟨base, ho, _⟩, hb⟩
  rw [v290]
  obtain ⟨va, vc, rfl⟩ := own_len ho
  exact ⟨va, _, vc, rfl, hb⟩
theorem n_bad41 (w : World) (a : Option Addr) (c : Nat) :
    Calls Tryd.prog 18 #[tenL.val, .slice a 41 c] w fun e w' => e = .returned (.tuple #[.int .i64 0, .int .i64 3]) ∧ Below w.heap.size w w' := by
  have h := bad_err tenL 41 a c w (by rw [v41]; decide)
  rw [v41] at h
  exact h
theorem n_ahead0 (w : World) : Calls Tryd.prog 31 #[tenL.val, .slice none 0 0] w fun e w' => e = .returned (.tuple #[.slice none 0 0, .slice none 0 0, .int .i64 1]) ∧ Below w.heap.size w w' :=
  ahead_err1 tenL [] none 0 w 1 (fun i p h => by simp at h) (by simp) (by simp [matchE, tenOK]) (by decide)
theorem n_ahead7 (w : World) (a : Option Addr) (c : Nat) (hs : SheetsAt w a (List.replicate 7 (none, 0, []))) : Calls Tryd.prog 31 #[tenL.val, .slice a 7 c] w fun e w' => e = .returned (.tuple #[.slice none 0 0, .slice none 0 0, .int .i64 3]) ∧ Below w.heap.size w w' :=
  ahead_err1 tenL (List.replicate 7 (none, 0, [])) a c w 3 hs (by simp) (by simp [matchE, tenOK]) (by decide)
theorem n_ahead11 (w : World) (a : Option Addr) (c : Nat) (xa : Option Addr) (xc : Nat) (hs : SheetsAt w a [(none, 0, []), (xa, xc, [11])]) (hT : TabOK w) : Calls Tryd.prog 31 #[tenL.val, .slice a 2 c] w fun e w' => e = .returned (.tuple #[.slice none 0 0, .slice none 0 0, .int .i64 10]) ∧ Below w.heap.size w w' :=
  ahead_err2 tenL ((okB_iff tenL).1 tenOK) [(none, 0, []), (xa, xc, [11])] a c w 10 hs (by simp) (by simp [matchE, tenOK])
    (by
      have h := spE_bad (l := tenL) (SS := [((none : Option Addr), 0, ([] : List Int)), (xa, xc, [11])]) (i := 1) (p := (xa, xc, [11])) (by
        intro q hq
        simp at hq
        rw [hq]
        exact v11.2) rfl (by show rdE tenL [11] ≠ 0; rw [v11.1]; decide)
      rw [h]
      exact v11.1) (by decide) hT
theorem n_bad13 (w : World) (a : Option Addr) (c : Nat) (hs : BallsAt w a bsD) :
    Calls Tryd.prog 18 #[tenL.val, .slice a 13 c] w fun e w' => e = .returned (.tuple #[.int .i64 12, .int .i64 0]) ∧ Below w.heap.size w w' := by
  refine (bad_fol tenL bsD a c w vD.1 hs _ (Lib.hid rfl)).mono ?_
  rintro e w' ⟨rfl, hb⟩
  have h := vD.2
  refine ⟨?_, hb⟩
  simp only [badV, badE, h]
  rfl
theorem n_nine (w : World) (a : Option Addr) (c : Nat) (hs : BallsAt w a bsE) :
    Calls Tryd.prog 23 #[nineL.val, .slice a 4 c] w fun e w' => ∃ fa fn fc qa qc st dn, e = .returned (.tuple #[.agg #[.slice fa fn fc, .slice qa 3 qc, .int .i64 st, .bool dn], .int .i64 0]) ∧ BallsAt w' qa [21, 32, 33] ∧ Below w.heap.size w w' := by
  refine (rd_own vE.1 a c w hs).mono ?_
  rintro e w' ⟨fa, fn, fc, qa, qc, st, dn, rfl, ho, hb⟩
  rw [vE.2] at ho
  exact ⟨fa, fn, fc, qa, qc, st, dn, by rw [vE.2]; rfl, own_ballsAt ho, hb⟩
theorem n_law (l : Lw) (v : Int) (h : (if okB l = true then (0 : Int) else 1) = v) (w : World) : Calls Tryd.prog 16 #[l.val] w fun e w' => e = .returned (.int .i64 v) ∧ Below w.heap.size w w' := by
  have h1 := checkLaw_any l w
  rwa [h] at h1

end Go.Proofs.YtmjbidnlknmcgaaDoor
