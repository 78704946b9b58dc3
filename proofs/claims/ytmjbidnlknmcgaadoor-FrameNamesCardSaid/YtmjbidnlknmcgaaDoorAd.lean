/- The contracts of what Ahead calls: its closures, all, checkMatch. -/
import Derived.Test.YtmjbidnlknmcgaaDoorEw
set_option linter.unusedVariables false
set_option linter.unusedSimpArgs false
namespace Go.Proofs.YtmjbidnlknmcgaaDoor
open Go.RowKit

/-- Ranges in a row, two cells each. -/
def RangesAt (w : World) (a : Option Addr) (R : List (Int × Int)) : Prop := ∀ i p, R[i]? = some p → ∃ g o, a = some ⟨g, o, none⟩ ∧ w.cell? ⟨g, o + i * 2, none⟩ = some (.int .i64 p.1) ∧ w.cell? ⟨g, o + i * 2 + 1, none⟩ = some (.int .i64 p.2)
theorem RangesAt.lo {w w' : World} {a : Option Addr} {R : List (Int × Int)} (h : RangesAt w a R) (hB : Below w.heap.size w w') : RangesAt w' a R := by
  intro i p hp
  obtain ⟨g, o, e, h1, h2⟩ := h i p hp
  exact ⟨g, o, e, below_cell hB h1, below_cell hB h2⟩

set_option maxRecDepth 100000 in
set_option maxHeartbeats 1000000 in
theorem reached_any (p0 : Nat) (lo hi lo0 hi0 : Int) (w : World) (h : Hid (SK w p0 lo0 hi0)) :
    Calls Tryd.prog 60 #[.agg #[.int .i64 lo, .int .i64 hi], .pointer (some ⟨p0, 0, none⟩)] w fun e w' => e = .returned (.bool (decide (lo ≤ hi0))) ∧ Below w.heap.size w w' := by
  have hlt := lt_of_block h.out.blk
  have S1 := SK.lo h (below_al w (.cells #[.int .i64 lo, .int .i64 hi] 50))
  have N1 := SK.new w lo hi
  obtain ⟨⟨s0, s1⟩, _, _⟩ := SK.at S1
  obtain ⟨⟨d0, d1⟩, _, _⟩ := SK.at N1
  clear S1 N1 hlt
  have BF := Lib.hid (below_al w (.cells #[.int .i64 lo, .int .i64 hi] 50))
  go_enter Tryd.func60, Tryd.ntmps60
  go_wp2_with fail
  go_ret
  exact ⟨rfl, BF.out⟩

set_option maxRecDepth 100000 in
set_option maxHeartbeats 1000000 in
theorem beaten_any (p0 : Nat) (lo hi lo0 hi0 : Int) (w : World) (h : Hid (SK w p0 lo0 hi0)) :
    Calls Tryd.prog 61 #[.agg #[.int .i64 lo, .int .i64 hi], .pointer (some ⟨p0, 0, none⟩)] w fun e w' => e = .returned (.bool (decide (hi < lo0))) ∧ Below w.heap.size w w' := by
  have hlt := lt_of_block h.out.blk
  have S1 := SK.lo h (below_al w (.cells #[.int .i64 lo, .int .i64 hi] 50))
  have N1 := SK.new w lo hi
  obtain ⟨⟨s0, s1⟩, _, _⟩ := SK.at S1
  obtain ⟨⟨d0, d1⟩, _, _⟩ := SK.at N1
  clear S1 N1 hlt
  have BF := Lib.hid (below_al w (.cells #[.int .i64 lo, .int .i64 hi] 50))
  go_enter Tryd.func61, Tryd.ntmps61
  go_wp2_with fail
  go_ret
  exact ⟨rfl, BF.out⟩

set_option maxRecDepth 100000 in
set_option maxHeartbeats 16000000 in
theorem all_reached (R : List (Int × Int)) (a : Option Addr) (c p0 : Nat) (lo0 hi0 : Int) (w : World) (hR : RangesAt w a R) (h : Hid (SK w p0 lo0 hi0)) (hn : R.length ≤ 1000) :
    Calls Tryd.prog 62 #[.slice a R.length c, .func (.func 60) #[] #[.pointer (some ⟨p0, 0, none⟩)]] w fun e w' => e = .returned (.bool (R.all fun p => decide (p.1 ≤ hi0))) ∧ Below w.heap.size w w' := by
  have HR := Lib.hid hR
  have CL := Lib.hid (fun lo hi w h => reached_any p0 lo hi lo0 hi0 w h)
  clear hR
  go_enter Tryd.func62, Tryd.ntmps62
  go_wp2_with fail
  go_loopg [9] R.length (fun g s9 wx => ∃ (i : Nat), i ≤ R.length ∧ g = R.length - i ∧ s9 = .int .i64 (i : Int) ∧ Hid ((R.take i).all (fun p => decide (p.1 ≤ hi0)) = true) ∧ Hid (BL w wx))
  case atStart => exact ⟨0, by omega, rfl, rfl, Lib.hid (by simp), BL.start w⟩
  case round =>
    obtain ⟨i, hi, rfl, rfl, hA, hB⟩ := hrel
    by_cases hlt : i < R.length
    · have hz0 : (0 : Int) ≤ (i : Int) := by omega
      have hz1 : (i : Int) < (R.length : Int) := by omega
      obtain ⟨p, hp⟩ : ∃ p, R[i]? = some p := ⟨R[i]'hlt, List.getElem?_eq_getElem _⟩
      obtain ⟨lo, hi'⟩ := p
      obtain ⟨g, o, rfl, h1, h2⟩ := HR.out i _ hp
      have c1 : wr.cell? ⟨g, o + i * 2, none⟩ = some (.int .i64 lo) := below_cell hB.out.b h1
      have c2 : wr.cell? ⟨g, o + i * 2 + 1, none⟩ = some (.int .i64 hi') := below_cell hB.out.b h2
      have hT := Lib.hid (show (R.take (i + 1)).all (fun p => decide (p.1 ≤ hi0)) = ((R.take i).all (fun p => decide (p.1 ≤ hi0)) && (fun p : Int × Int => decide (p.1 ≤ hi0)) (lo, hi')) from by rw [List.take_add_one, hp]; simp)
      have B2 := BL.al hB (.cells #[.int .i64 lo, .int .i64 hi'] 50)
      have S2 := SK.lo h B2.out.b
      have N2 := SK.new wr lo hi'
      clear h1 h2 hp
      go_wp2_with fail
      obtain ⟨⟨d0, d1⟩, _, _⟩ := SK.at N2
      go_wp2_with fail
      refine (CL.out lo hi' _ S2).mono ?_
      rintro e w2 ⟨rfl, hb⟩
      have B3 := BL.lo B2 hb
      clear hb c1 c2 d0 d1 N2 S2
      by_cases hq : lo ≤ hi0
      · have hd : decide (lo ≤ hi0) = true := by simpa using hq
        rw [hd]
        have hT2 := Lib.hid (show (R.take (i + 1)).all (fun p => decide (p.1 ≤ hi0)) = true from by rw [hT.out, hA.out]; simp [hq])
        clear hq hd
        go_wp2_with fail
        go_roundg (R.length - (i + 1))
        case measure => omega
        case rel => exact ⟨i + 1, by omega, rfl, by simp, hT2, B3⟩
      · have hd : decide (lo ≤ hi0) = false := by simpa using hq
        rw [hd]
        have hT2 := Lib.hid (show (R.all fun p => decide (p.1 ≤ hi0)) = false from by
          have h1 : (R.take (i + 1)).all (fun p => decide (p.1 ≤ hi0)) = false := by rw [hT.out, hA.out]; simp [hq]
          rw [← List.take_append_drop (i + 1) R, List.all_append, h1]; rfl)
        clear hq hd
        go_wp2_with fail
        go_returns
        exact ⟨by rw [hT2.out]; first | done | rfl, B3.out.b⟩
    · have hE := Lib.hid (show (R.all fun p => decide (p.1 ≤ hi0)) = true from by
        have h1 := hA.out
        rwa [List.take_of_length_le (by omega)] at h1)
      have hz1 : ¬ (i : Int) < (R.length : Int) := by omega
      clear hlt
      go_wp2_with fail
      go_returns
      exact ⟨by rw [hE.out]; first | done | rfl, hB.out.b⟩

set_option maxRecDepth 100000 in
set_option maxHeartbeats 16000000 in
theorem all_beaten (R : List (Int × Int)) (a : Option Addr) (c p0 : Nat) (lo0 hi0 : Int) (w : World) (hR : RangesAt w a R) (h : Hid (SK w p0 lo0 hi0)) (hn : R.length ≤ 1000) :
    Calls Tryd.prog 62 #[.slice a R.length c, .func (.func 61) #[] #[.pointer (some ⟨p0, 0, none⟩)]] w fun e w' => e = .returned (.bool (R.all fun p => decide (p.2 < lo0))) ∧ Below w.heap.size w w' := by
  have HR := Lib.hid hR
  have CL := Lib.hid (fun lo hi w h => beaten_any p0 lo hi lo0 hi0 w h)
  clear hR
  go_enter Tryd.func62, Tryd.ntmps62
  go_wp2_with fail
  go_loopg [9] R.length (fun g s9 wx => ∃ (i : Nat), i ≤ R.length ∧ g = R.length - i ∧ s9 = .int .i64 (i : Int) ∧ Hid ((R.take i).all (fun p => decide (p.2 < lo0)) = true) ∧ Hid (BL w wx))
  case atStart => exact ⟨0, by omega, rfl, rfl, Lib.hid (by simp), BL.start w⟩
  case round =>
    obtain ⟨i, hi, rfl, rfl, hA, hB⟩ := hrel
    by_cases hlt : i < R.length
    · have hz0 : (0 : Int) ≤ (i : Int) := by omega
      have hz1 : (i : Int) < (R.length : Int) := by omega
      obtain ⟨p, hp⟩ : ∃ p, R[i]? = some p := ⟨R[i]'hlt, List.getElem?_eq_getElem _⟩
      obtain ⟨lo, hi'⟩ := p
      obtain ⟨g, o, rfl, h1, h2⟩ := HR.out i _ hp
      have c1 : wr.cell? ⟨g, o + i * 2, none⟩ = some (.int .i64 lo) := below_cell hB.out.b h1
      have c2 : wr.cell? ⟨g, o + i * 2 + 1, none⟩ = some (.int .i64 hi') := below_cell hB.out.b h2
      have hT := Lib.hid (show (R.take (i + 1)).all (fun p => decide (p.2 < lo0)) = ((R.take i).all (fun p => decide (p.2 < lo0)) && (fun p : Int × Int => decide (p.2 < lo0)) (lo, hi')) from by rw [List.take_add_one, hp]; simp)
      have B2 := BL.al hB (.cells #[.int .i64 lo, .int .i64 hi'] 50)
      have S2 := SK.lo h B2.out.b
      have N2 := SK.new wr lo hi'
      clear h1 h2 hp
      go_wp2_with fail
      obtain ⟨⟨d0, d1⟩, _, _⟩ := SK.at N2
      go_wp2_with fail
      refine (CL.out lo hi' _ S2).mono ?_
      rintro e w2 ⟨rfl, hb⟩
      have B3 := BL.lo B2 hb
      clear hb c1 c2 d0 d1 N2 S2
      by_cases hq : hi' < lo0
      · have hd : decide (hi' < lo0) = true := by simpa using hq
        rw [hd]
        have hT2 := Lib.hid (show (R.take (i + 1)).all (fun p => decide (p.2 < lo0)) = true from by rw [hT.out, hA.out]; simp [hq])
        clear hq hd
        go_wp2_with fail
        go_roundg (R.length - (i + 1))
        case measure => omega
        case rel => exact ⟨i + 1, by omega, rfl, by simp, hT2, B3⟩
      · have hd : decide (hi' < lo0) = false := by simpa using hq
        rw [hd]
        have hT2 := Lib.hid (show (R.all fun p => decide (p.2 < lo0)) = false from by
          have h1 : (R.take (i + 1)).all (fun p => decide (p.2 < lo0)) = false := by rw [hT.out, hA.out]; simp [hq]
          rw [← List.take_append_drop (i + 1) R, List.all_append, h1]; rfl)
        clear hq hd
        go_wp2_with fail
        go_returns
        exact ⟨by rw [hT2.out]; first | done | rfl, B3.out.b⟩
    · have hE := Lib.hid (show (R.all fun p => decide (p.2 < lo0)) = true from by
        have h1 := hA.out
        rwa [List.take_of_length_le (by omega)] at h1)
      have hz1 : ¬ (i : Int) < (R.length : Int) := by omega
      clear hlt
      go_wp2_with fail
      go_returns
      exact ⟨by rw [hE.out]; first | done | rfl, hB.out.b⟩

/-- Sheets in a row. -/
def SheetsAt (w : World) (a : Option Addr) (SS : List (Option Addr × Nat × List Int)) : Prop := ∀ i p, SS[i]? = some p → ∃ g o, a = some ⟨g, o, none⟩ ∧ w.cell? ⟨g, o + i, none⟩ = some (.slice p.1 p.2.2.length p.2.1) ∧ BallsAt w p.1 p.2.2
theorem SheetsAt.lo {w w' : World} {a : Option Addr} {SS : List (Option Addr × Nat × List Int)} (h : SheetsAt w a SS) (hB : Below w.heap.size w w') : SheetsAt w' a SS := by
  intro i p hp
  obtain ⟨g, o, e, h1, h2⟩ := h i p hp
  exact ⟨g, o, e, below_cell hB h1, h2.lo hB⟩

set_option maxRecDepth 100000 in
set_option maxHeartbeats 16000000 in
theorem all_short (SS : List (Option Addr × Nat × List Int)) (a : Option Addr) (c : Nat) (w : World) (hS : SheetsAt w a SS) (hn : SS.length ≤ 1000) :
    Calls Tryd.prog 75 #[.slice a SS.length c, .func (.func 63) #[] #[]] w fun e w' => e = .returned (.bool (SS.all fun p => decide (p.2.2.length ≤ 40))) ∧ Below w.heap.size w w' := by
  have HS := Lib.hid hS
  have CL := Lib.hid (fun a n c w => short_any a n c w)
  clear hS
  go_enter Tryd.func75, Tryd.ntmps75
  go_wp2_with fail
  go_loopg [9] SS.length (fun g s9 wx => ∃ (i : Nat), i ≤ SS.length ∧ g = SS.length - i ∧ s9 = .int .i64 (i : Int) ∧ Hid ((SS.take i).all (fun p => decide (p.2.2.length ≤ 40)) = true) ∧ Hid (BL w wx))
  case atStart => exact ⟨0, by omega, rfl, rfl, Lib.hid (by simp), BL.start w⟩
  case round =>
    obtain ⟨i, hi, rfl, rfl, hA, hB⟩ := hrel
    by_cases hlt : i < SS.length
    · have hz0 : (0 : Int) ≤ (i : Int) := by omega
      have hz1 : (i : Int) < (SS.length : Int) := by omega
      obtain ⟨p, hp⟩ : ∃ p, SS[i]? = some p := ⟨SS[i]'hlt, List.getElem?_eq_getElem _⟩
      obtain ⟨xa, xc, xs⟩ := p
      obtain ⟨g, o, rfl, h1, h2⟩ := HS.out i _ hp
      obtain ⟨xn, hxn⟩ : ∃ xn, xs.length = xn := ⟨_, rfl⟩
      simp only [hxn] at h1
      have c1 : wr.cell? ⟨g, o + i, none⟩ = some (.slice xa xn xc) := below_cell hB.out.b h1
      have hT := Lib.hid (show (SS.take (i + 1)).all (fun p => decide (p.2.2.length ≤ 40)) = ((SS.take i).all (fun p => decide (p.2.2.length ≤ 40)) && decide (xn ≤ 40)) from by rw [List.take_add_one, hp]; simp [hxn])
      clear h1 h2 hp hxn
      go_wp2_with fail
      refine (CL.out xa xn xc wr).mono ?_
      rintro e w2 ⟨rfl, rfl⟩
      have B3 := hB
      clear c1
      by_cases hq : xn ≤ 40
      · have hd : decide (xn ≤ 40) = true := by simpa using hq
        rw [hd]
        have hT2 := Lib.hid (show (SS.take (i + 1)).all (fun p => decide (p.2.2.length ≤ 40)) = true from by rw [hT.out, hA.out]; simp [hq])
        clear hq hd
        go_wp2_with fail
        go_roundg (SS.length - (i + 1))
        case measure => omega
        case rel => exact ⟨i + 1, by omega, rfl, by simp, hT2, B3⟩
      · have hd : decide (xn ≤ 40) = false := by simpa using hq
        rw [hd]
        have hT2 := Lib.hid (show (SS.all fun p => decide (p.2.2.length ≤ 40)) = false from by
          have h1 : (SS.take (i + 1)).all (fun p => decide (p.2.2.length ≤ 40)) = false := by rw [hT.out, hA.out]; simp [hq]
          rw [← List.take_append_drop (i + 1) SS, List.all_append, h1]; rfl)
        clear hq hd
        go_wp2_with fail
        go_returns
        exact ⟨by rw [hT2.out]; first | done | rfl, B3.out.b⟩
    · have hE := Lib.hid (show (SS.all fun p => decide (p.2.2.length ≤ 40)) = true from by
        have h1 := hA.out
        rwa [List.take_of_length_le (by omega)] at h1)
      have hz1 : ¬ (i : Int) < (SS.length : Int) := by omega
      clear hlt
      go_wp2_with fail
      go_returns
      exact ⟨by rw [hE.out]; first | done | rfl, hB.out.b⟩

end Go.Proofs.YtmjbidnlknmcgaaDoor
