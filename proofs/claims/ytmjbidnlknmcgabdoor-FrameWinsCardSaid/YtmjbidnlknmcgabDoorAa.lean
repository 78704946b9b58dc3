/- Ranges in their blocks; what Ahead calls: its closures, all, checkMatch, spansOf. -/
import Derived.Test.YtmjbidnlknmcgabDoorDr
import Derived.Test.YtmjbidnlknmcgabDoorCt
set_option linter.unusedVariables false
set_option linter.unusedSimpArgs false
namespace Go.Proofs.YtmjbidnlknmcgabDoor
open Go.RowKit

/-- A range's block. -/
structure SK (W : World) (g : Nat) (lo hi : Int) : Prop where
  blk : W.heap[g]? = some (.cells #[.int .i64 lo, .int .i64 hi] 48 (0, 0))
theorem SK.lo {W W' : World} {g : Nat} {lo hi : Int} (h : Hid (SK W g lo hi)) (hb : Below W.heap.size W W') : Hid (SK W' g lo hi) := Lib.hid ⟨(hb.block _ (lt_of_block h.out.blk)).trans h.out.blk⟩
theorem SK.new (W : World) (lo hi : Int) : Hid (SK (W.alloc (.cells #[.int .i64 lo, .int .i64 hi] 48)) W.heap.size lo hi) := Lib.hid ⟨heap_alloc_new W _⟩
theorem SK.dr {W : World} {g : Nat} {lo hi : Int} (h : Hid (SK W g lo hi)) : Hid (SK W.drew g lo hi) := SK.lo h ⟨rfl, rfl, rfl, Nat.le_refl _, fun _ _ => rfl⟩
theorem SK.at {W : World} {g : Nat} {lo hi : Int} (h : Hid (SK W g lo hi)) : (W.cell? ⟨g, 0, none⟩ = some (.int .i64 lo) ∧ W.cell? ⟨g, 1, none⟩ = some (.int .i64 hi)) ∧ W.frozen? ⟨g, 0, none⟩ = false ∧ W.frozen? ⟨g, 1, none⟩ = false := by
  have h := h.out.blk
  exact ⟨⟨by simp [World.cell?, h], by simp [World.cell?, h]⟩, by simp [World.frozen?, h], by simp [World.frozen?, h]⟩
theorem SK.put {W : World} {g : Nat} {lo hi : Int} (h : Hid (SK W g lo hi)) (lo' hi' : Int) : Hid (SK ((W.setCell ⟨g, 0, none⟩ (.int .i64 lo')).setCell ⟨g, 1, none⟩ (.int .i64 hi')) g lo' hi') :=
  Lib.hid ⟨by simpa using blk_setCell (blk_setCell h.out.blk 0 (.int .i64 lo')) 1 (.int .i64 hi')⟩
theorem BL.put2 {w W : World} (h : Hid (BL w W)) {g : Nat} (hg : w.heap.size ≤ g) (a b : Value) : Hid (BL w ((W.setCell ⟨g, 0, none⟩ a).setCell ⟨g, 1, none⟩ b)) :=
  Lib.hid ⟨(h.out.b.setCell (p := ⟨g, 0, none⟩) hg a).setCell (p := ⟨g, 1, none⟩) hg b⟩

theorem tab_bl {w W : World} (h : Hid (TabOK w)) (b : Hid (BL w W)) : TabOK W := h.out.below b.out.b h.out.pos

theorem own_nil {w : World} {base m c : Nat} {a : Option Addr} {xs : List Value} (h : w.ownsRow base 3 1 (.slice a m c) m xs) : a = none → m = 0 ∧ c = 0 ∧ xs = [] := by
  rintro rfl
  rcases h.2 with ⟨h1, h2⟩ | ⟨g, cap, cur, h1, _⟩
  · cases h1
    exact ⟨rfl, rfl, List.eq_nil_of_length_eq_zero (by rw [h.1])⟩
  · cases h1
theorem own_news {w : World} {base m c : Nat} {a : Option Addr} {xs : List Int} (h : w.ownsRow base 3 1 (.slice a m c) m (xs.map (Value.int .i64))) : ∀ ad, a = some ad → ∀ j u, (xs.map (Value.int .i64))[j]? = some u → w.cell? (ad.add j) = some u := by
  rintro ad rfl
  exact balls_news (own_ballsAt h)

end Go.Proofs.YtmjbidnlknmcgabDoor

namespace Go.Proofs.YtmjbidnlknmcgabDoor
open Go.RowKit

/-- Ranges in a row, two cells each. -/
def RangesAt (w : World) (a : Option Addr) (R : List (Int × Int)) : Prop := ∀ i p, R[i]? = some p → ∃ g o, a = some ⟨g, o, none⟩ ∧ w.cell? ⟨g, o + i * 2, none⟩ = some (.int .i64 p.1) ∧ w.cell? ⟨g, o + i * 2 + 1, none⟩ = some (.int .i64 p.2)
theorem RangesAt.lo {w w' : World} {a : Option Addr} {R : List (Int × Int)} (h : RangesAt w a R) (hB : Below w.heap.size w w') : RangesAt w' a R := by
  intro i p hp
  obtain ⟨g, o, e, h1, h2⟩ := h i p hp
  exact ⟨g, o, e, below_cell hB h1, below_cell hB h2⟩

set_option maxRecDepth 100000 in
set_option maxHeartbeats 1000000 in
theorem reached_any (p0 : Nat) (lo hi lo0 hi0 : Int) (w : World) (h : Hid (SK w p0 lo0 hi0)) :
    Calls Tryd.prog 25 #[.agg #[.int .i64 lo, .int .i64 hi], .pointer (some ⟨p0, 0, none⟩)] w fun e w' => e = .returned (.bool (decide (lo ≤ hi0))) ∧ Below w.heap.size w w' := by
  have hlt := lt_of_block h.out.blk
  have S1 := SK.lo h (below_al w (.cells #[.int .i64 lo, .int .i64 hi] 48))
  have N1 := SK.new w lo hi
  obtain ⟨⟨s0, s1⟩, _, _⟩ := SK.at S1
  obtain ⟨⟨d0, d1⟩, _, _⟩ := SK.at N1
  clear S1 N1 hlt
  have BF := Lib.hid (below_al w (.cells #[.int .i64 lo, .int .i64 hi] 48))
  go_enter Tryd.func25, Tryd.ntmps25
  go_wp2_with fail
  go_ret
  exact ⟨rfl, BF.out⟩

set_option maxRecDepth 100000 in
set_option maxHeartbeats 1000000 in
theorem beaten_any (p0 : Nat) (lo hi lo0 hi0 : Int) (w : World) (h : Hid (SK w p0 lo0 hi0)) :
    Calls Tryd.prog 26 #[.agg #[.int .i64 lo, .int .i64 hi], .pointer (some ⟨p0, 0, none⟩)] w fun e w' => e = .returned (.bool (decide (hi < lo0))) ∧ Below w.heap.size w w' := by
  have hlt := lt_of_block h.out.blk
  have S1 := SK.lo h (below_al w (.cells #[.int .i64 lo, .int .i64 hi] 48))
  have N1 := SK.new w lo hi
  obtain ⟨⟨s0, s1⟩, _, _⟩ := SK.at S1
  obtain ⟨⟨d0, d1⟩, _, _⟩ := SK.at N1
  clear S1 N1 hlt
  have BF := Lib.hid (below_al w (.cells #[.int .i64 lo, .int .i64 hi] 48))
  go_enter Tryd.func26, Tryd.ntmps26
  go_wp2_with fail
  go_ret
  exact ⟨rfl, BF.out⟩

set_option maxRecDepth 100000 in
set_option maxHeartbeats 16000000 in
theorem all_reached (R : List (Int × Int)) (a : Option Addr) (c p0 : Nat) (lo0 hi0 : Int) (w : World) (hR : RangesAt w a R) (h : Hid (SK w p0 lo0 hi0)) (hn : R.length ≤ 1000) :
    Calls Tryd.prog 27 #[.slice a R.length c, .func (.func 25) #[] #[.pointer (some ⟨p0, 0, none⟩)]] w fun e w' => e = .returned (.bool (R.all fun p => decide (p.1 ≤ hi0))) ∧ Below w.heap.size w w' := by
  have HR := Lib.hid hR
  have CL := Lib.hid (fun lo hi w h => reached_any p0 lo hi lo0 hi0 w h)
  clear hR
  go_enter Tryd.func27, Tryd.ntmps27
  go_wp2_with fail
  go_loopg [9] R.length (fun g s9 wx => ∃ (i : Nat), i ≤ R.length ∧ g = R.length - i ∧ s9 = .int .i64 (i : Int) ∧ Hid ((R.take i).all (fun p => decide (p.1 ≤ hi0)) = true) ∧ Hid (BL w wx))
  case atStart => exact ⟨0, by omega, rfl, rfl, Lib.hid (by simp), BL.start w⟩
  case round =>
    obtain ⟨i, hi, rfl, rfl, hA, hB⟩ := hrel
    by_cases hlt : i < R.length
    · have hz0 : (0 : Int) ≤ (i : Int) := by omega
      have hz1 : (i : Int) < (R.length : Int) := by omega
      obtain ⟨p, hp⟩ : ∃ p, R[i]? = some p := ⟨R[i]'hlt, List.getElem?_eq_getElem _⟩
      obtain ⟨lo, hi'⟩ := p
      obtain ⟨g, o, rfl, h1, h2⟩ := HR.out i _ hp
      have c1 : wr.cell? ⟨g, o + i * 2, none⟩ = some (.int .i64 lo) := below_cell hB.out.b h1
      have c2 : wr.cell? ⟨g, o + i * 2 + 1, none⟩ = some (.int .i64 hi') := below_cell hB.out.b h2
      have hT := Lib.hid (show (R.take (i + 1)).all (fun p => decide (p.1 ≤ hi0)) = ((R.take i).all (fun p => decide (p.1 ≤ hi0)) && (fun p : Int × Int => decide (p.1 ≤ hi0)) (lo, hi')) from by rw [List.take_add_one, hp]; simp)
      have B2 := BL.al hB (.cells #[.int .i64 lo, .int .i64 hi'] 48)
      have S2 := SK.lo h B2.out.b
      have N2 := SK.new wr lo hi'
      clear h1 h2 hp
      go_wp2_with fail
      obtain ⟨⟨d0, d1⟩, _, _⟩ := SK.at N2
      go_wp2_with fail
      refine (CL.out lo hi' _ S2).mono ?_
      rintro e w2 ⟨rfl, hb⟩
      have B3 := BL.lo B2 hb
      clear hb c1 c2 d0 d1 N2 S2
      by_cases hq : lo ≤ hi0
      · have hd : decide (lo ≤ hi0) = true := by simpa using hq
        rw [hd]
        have hT2 := Lib.hid (show (R.take (i + 1)).all (fun p => decide (p.1 ≤ hi0)) = true from by rw [hT.out, hA.out]; simp [hq])
        clear hq hd
        go_wp2_with fail
        go_roundg (R.length - (i + 1))
        case measure => omega
        case rel => exact ⟨i + 1, by omega, rfl, by simp, hT2, B3⟩
      · have hd : decide (lo ≤ hi0) = false := by simpa using hq
        rw [hd]
        have hT2 := Lib.hid (show (R.all fun p => decide (p.1 ≤ hi0)) = false from by
          have h1 : (R.take (i + 1)).all (fun p => decide (p.1 ≤ hi0)) = false := by rw [hT.out, hA.out]; simp [hq]
          rw [← List.take_append_drop (i + 1) R, List.all_append, h1]; rfl)
        clear hq hd
        go_wp2_with fail
        go_returns
        exact ⟨by rw [hT2.out]; first | done | rfl, B3.out.b⟩
    · have hE := Lib.hid (show (R.all fun p => decide (p.1 ≤ hi0)) = true from by
        have h1 := hA.out
        rwa [List.take_of_length_le (by omega)] at h1)
      have hz1 : ¬ (i : Int) < (R.length : Int) := by omega
      clear hlt
      go_wp2_with fail
      go_returns
      exact ⟨by rw [hE.out]; first | done | rfl, hB.out.b⟩

set_option maxRecDepth 100000 in
set_option maxHeartbeats 16000000 in
theorem all_beaten (R : List (Int × Int)) (a : Option Addr) (c p0 : Nat) (lo0 hi0 : Int) (w : World) (hR : RangesAt w a R) (h : Hid (SK w p0 lo0 hi0)) (hn : R.length ≤ 1000) :
    Calls Tryd.prog 27 #[.slice a R.length c, .func (.func 26) #[] #[.pointer (some ⟨p0, 0, none⟩)]] w fun e w' => e = .returned (.bool (R.all fun p => decide (p.2 < lo0))) ∧ Below w.heap.size w w' := by
  have HR := Lib.hid hR
  have CL := Lib.hid (fun lo hi w h => beaten_any p0 lo hi lo0 hi0 w h)
  clear hR
  go_enter Tryd.func27, Tryd.ntmps27
  go_wp2_with fail
  go_loopg [9] R.length (fun g s9 wx => ∃ (i : Nat), i ≤ R.length ∧ g = R.length - i ∧ s9 = .int .i64 (i : Int) ∧ Hid ((R.take i).all (fun p => decide (p.2 < lo0)) = true) ∧ Hid (BL w wx))
  case atStart => exact ⟨0, by omega, rfl, rfl, Lib.hid (by simp), BL.start w⟩
  case round =>
    obtain ⟨i, hi, rfl, rfl, hA, hB⟩ := hrel
    by_cases hlt : i < R.length
    · have hz0 : (0 : Int) ≤ (i : Int) := by omega
      have hz1 : (i : Int) < (R.length : Int) := by omega
      obtain ⟨p, hp⟩ : ∃ p, R[i]? = some p := ⟨R[i]'hlt, List.getElem?_eq_getElem _⟩
      obtain ⟨lo, hi'⟩ := p
      obtain ⟨g, o, rfl, h1, h2⟩ := HR.out i _ hp
      have c1 : wr.cell? ⟨g, o + i * 2, none⟩ = some (.int .i64 lo) := below_cell hB.out.b h1
      have c2 : wr.cell? ⟨g, o + i * 2 + 1, none⟩ = some (.int .i64 hi') := below_cell hB.out.b h2
      have hT := Lib.hid (show (R.take (i + 1)).all (fun p => decide (p.2 < lo0)) = ((R.take i).all (fun p => decide (p.2 < lo0)) && (fun p : Int × Int => decide (p.2 < lo0)) (lo, hi')) from by rw [List.take_add_one, hp]; simp)
      have B2 := BL.al hB (.cells #[.int .i64 lo, .int .i64 hi'] 48)
      have S2 := SK.lo h B2.out.b
      have N2 := SK.new wr lo hi'
      clear h1 h2 hp
      go_wp2_with fail
      obtain ⟨⟨d0, d1⟩, _, _⟩ := SK.at N2
      go_wp2_with fail
      refine (CL.out lo hi' _ S2).mono ?_
      rintro e w2 ⟨rfl, hb⟩
      have B3 := BL.lo B2 hb
      clear hb c1 c2 d0 d1 N2 S2
      by_cases hq : hi' < lo0
      · have hd : decide (hi' < lo0) = true := by simpa using hq
        rw [hd]
        have hT2 := Lib.hid (show (R.take (i + 1)).all (fun p => decide (p.2 < lo0)) = true from by rw [hT.out, hA.out]; simp [hq])
        clear hq hd
        go_wp2_with fail
        go_roundg (R.length - (i + 1))
        case measure => omega
        case rel => exact ⟨i + 1, by omega, rfl, by simp, hT2, B3⟩
      · have hd : decide (hi' < lo0) = false := by simpa using hq
        rw [hd]
        have hT2 := Lib.hid (show (R.all fun p => decide (p.2 < lo0)) = false from by
          have h1 : (R.take (i + 1)).all (fun p => decide (p.2 < lo0)) = false := by rw [hT.out, hA.out]; simp [hq]
          rw [← List.take_append_drop (i + 1) R, List.all_append, h1]; rfl)
        clear hq hd
        go_wp2_with fail
        go_returns
        exact ⟨by rw [hT2.out]; first | done | rfl, B3.out.b⟩
    · have hE := Lib.hid (show (R.all fun p => decide (p.2 < lo0)) = true from by
        have h1 := hA.out
        rwa [List.take_of_length_le (by omega)] at h1)
      have hz1 : ¬ (i : Int) < (R.length : Int) := by omega
      clear hlt
      go_wp2_with fail
      go_returns
      exact ⟨by rw [hE.out]; first | done | rfl, hB.out.b⟩

/-- Sheets in a row. -/
def SheetsAt (w : World) (a : Option Addr) (SS : List (Option Addr × Nat × List Int)) : Prop := ∀ i p, SS[i]? = some p → ∃ g o, a = some ⟨g, o, none⟩ ∧ w.cell? ⟨g, o + i, none⟩ = some (.slice p.1 p.2.2.length p.2.1) ∧ BallsAt w p.1 p.2.2
theorem SheetsAt.lo {w w' : World} {a : Option Addr} {SS : List (Option Addr × Nat × List Int)} (h : SheetsAt w a SS) (hB : Below w.heap.size w w') : SheetsAt w' a SS := by
  intro i p hp
  obtain ⟨g, o, e, h1, h2⟩ := h i p hp
  exact ⟨g, o, e, below_cell hB h1, h2.lo hB⟩

set_option maxRecDepth 100000 in
set_option maxHeartbeats 16000000 in
theorem all_short (SS : List (Option Addr × Nat × List Int)) (a : Option Addr) (c : Nat) (w : World) (hS : SheetsAt w a SS) (hn : SS.length ≤ 1000) :
    Calls Tryd.prog 42 #[.slice a SS.length c, .func (.func 43) #[] #[]] w fun e w' => e = .returned (.bool (SS.all fun p => decide (p.2.2.length ≤ 40))) ∧ Below w.heap.size w w' := by
  have HS := Lib.hid hS
  have CL := Lib.hid (fun a n c w => short_any a n c w)
  clear hS
  go_enter Tryd.func42, Tryd.ntmps42
  go_wp2_with fail
  go_loopg [9] SS.length (fun g s9 wx => ∃ (i : Nat), i ≤ SS.length ∧ g = SS.length - i ∧ s9 = .int .i64 (i : Int) ∧ Hid ((SS.take i).all (fun p => decide (p.2.2.length ≤ 40)) = true) ∧ Hid (BL w wx))
  case atStart => exact ⟨0, by omega, rfl, rfl, Lib.hid (by simp), BL.start w⟩
  case round =>
    obtain ⟨i, hi, rfl, rfl, hA, hB⟩ := hrel
    by_cases hlt : i < SS.length
    · have hz0 : (0 : Int) ≤ (i : Int) := by omega
      have hz1 : (i : Int) < (SS.length : Int) := by omega
      obtain ⟨p, hp⟩ : ∃ p, SS[i]? = some p := ⟨SS[i]'hlt, List.getElem?_eq_getElem _⟩
      obtain ⟨xa, xc, xs⟩ := p
      obtain ⟨g, o, rfl, h1, h2⟩ := HS.out i _ hp
      obtain ⟨xn, hxn⟩ : ∃ xn, xs.length = xn := ⟨_, rfl⟩
      simp only [hxn] at h1
      have c1 : wr.cell? ⟨g, o + i, none⟩ = some (.slice xa xn xc) := below_cell hB.out.b h1
      have hT := Lib.hid (show (SS.take (i + 1)).all (fun p => decide (p.2.2.length ≤ 40)) = ((SS.take i).all (fun p => decide (p.2.2.length ≤ 40)) && decide (xn ≤ 40)) from by rw [List.take_add_one, hp]; simp [hxn])
      clear h1 h2 hp hxn
      go_wp2_with fail
      refine (CL.out xa xn xc wr).mono ?_
      rintro e w2 ⟨rfl, rfl⟩
      have B3 := hB
      clear c1
      by_cases hq : xn ≤ 40
      · have hd : decide (xn ≤ 40) = true := by simpa using hq
        rw [hd]
        have hT2 := Lib.hid (show (SS.take (i + 1)).all (fun p => decide (p.2.2.length ≤ 40)) = true from by rw [hT.out, hA.out]; simp [hq])
        clear hq hd
        go_wp2_with fail
        go_roundg (SS.length - (i + 1))
        case measure => omega
        case rel => exact ⟨i + 1, by omega, rfl, by simp, hT2, B3⟩
      · have hd : decide (xn ≤ 40) = false := by simpa using hq
        rw [hd]
        have hT2 := Lib.hid (show (SS.all fun p => decide (p.2.2.length ≤ 40)) = false from by
          have h1 : (SS.take (i + 1)).all (fun p => decide (p.2.2.length ≤ 40)) = false := by rw [hT.out, hA.out]; simp [hq]
          rw [← List.take_append_drop (i + 1) SS, List.all_append, h1]; rfl)
        clear hq hd
        go_wp2_with fail
        go_returns
        exact ⟨by rw [hT2.out]; first | done | rfl, B3.out.b⟩
    · have hE := Lib.hid (show (SS.all fun p => decide (p.2.2.length ≤ 40)) = true from by
        have h1 := hA.out
        rwa [List.take_of_length_le (by omega)] at h1)
      have hz1 : ¬ (i : Int) < (SS.length : Int) := by omega
      clear hlt
      go_wp2_with fail
      go_returns
      exact ⟨by rw [hE.out]; first | done | rfl, hB.out.b⟩

end Go.Proofs.YtmjbidnlknmcgabDoor

namespace Go.Proofs.YtmjbidnlknmcgabDoor
open Go.RowKit

/-- The error of a match. -/
def matchE (l : Lw) (SS : List (Option Addr × Nat × List Int)) : Int :=
  if okB l = false then 1 else if 6 < SS.length then 3 else if (SS.all fun p => decide (p.2.2.length ≤ 40)) = false then 3 else if SS.length = 0 then 1 else 0

set_option maxRecDepth 100000 in
set_option maxHeartbeats 8000000 in
theorem checkMatch_any (l : Lw) (SS : List (Option Addr × Nat × List Int)) (a : Option Addr) (c : Nat) (w : World) (hS : SheetsAt w a SS) (hn : SS.length ≤ 1000) :
    Calls Tryd.prog 23 #[l.val, .slice a SS.length c] w fun e w' => e = .returned (.int .i64 (matchE l SS)) ∧ Below w.heap.size w w' := by
  have HS := Lib.hid hS
  have VAL := Lib.hid (valid_any l)
  have SHT := Lib.hid (fun w h => all_short SS a c w h hn)
  clear hS
  have A1 : Hid (BL w (w.alloc (.cells #[.int .i64 l.fr, .int .i64 l.pn, .int .i64 l.bl, .int .i64 l.tp] 34))) := BL.al (BL.start w) _
  have L1 := Lib.hid (heap_alloc_new w (.cells #[.int .i64 l.fr, .int .i64 l.pn, .int .i64 l.bl, .int .i64 l.tp] 34))
  obtain ⟨m, hm⟩ : ∃ m, Hid (matchE l SS = m) := ⟨_, Lib.hid rfl⟩
  rw [hm.out]
  unfold Lw.val at *
  cases hok : okB l
  · rw [hok] at VAL
    have hm1 : m = 1 := by rw [← hm.out, matchE, if_pos hok]
    subst hm1
    clear hok hm
    go_enter Tryd.func23, Tryd.ntmps23
    go_wp2_with fail
    generalize World.alloc w _ = w1 at A1 L1 ⊢
    obtain ⟨k0, k1, k2, k3⟩ : w1.cell? ⟨w.heap.size, 0, none⟩ = some (.int .i64 l.fr) ∧ w1.cell? ⟨w.heap.size, 1, none⟩ = some (.int .i64 l.pn) ∧ w1.cell? ⟨w.heap.size, 2, none⟩ = some (.int .i64 l.bl) ∧ w1.cell? ⟨w.heap.size, 3, none⟩ = some (.int .i64 l.tp) := by
      have h := L1.out
      exact ⟨by simp [World.cell?, h], by simp [World.cell?, h], by simp [World.cell?, h], by simp [World.cell?, h]⟩
    go_wp2_with fail
    refine (VAL.out w1).mono ?_
    rintro e w2 ⟨rfl, hb⟩
    have A2 := BL.lo A1 hb
    clear hb A1 k0 k1 k2 k3
    go_wp2_with fail
    go_ret
    exact ⟨rfl, A2.out.b⟩
  · rw [hok] at VAL
    have hm0 : m = if 6 < SS.length then 3 else if (SS.all fun p => decide (p.2.2.length ≤ 40)) = false then 3 else if SS.length = 0 then 1 else 0 := by rw [← hm.out, matchE, if_neg (by simp [hok])]
    clear hok hm
    by_cases h6 : 6 < SS.length
    · rw [if_pos h6] at hm0
      subst hm0
      have h6i : (6 : Int) < (SS.length : Int) := by omega
      clear h6
      go_enter Tryd.func23, Tryd.ntmps23
      go_wp2_with fail
      generalize World.alloc w _ = w1 at A1 L1 ⊢
      obtain ⟨k0, k1, k2, k3⟩ : w1.cell? ⟨w.heap.size, 0, none⟩ = some (.int .i64 l.fr) ∧ w1.cell? ⟨w.heap.size, 1, none⟩ = some (.int .i64 l.pn) ∧ w1.cell? ⟨w.heap.size, 2, none⟩ = some (.int .i64 l.bl) ∧ w1.cell? ⟨w.heap.size, 3, none⟩ = some (.int .i64 l.tp) := by
        have h := L1.out
        exact ⟨by simp [World.cell?, h], by simp [World.cell?, h], by simp [World.cell?, h], by simp [World.cell?, h]⟩
      go_wp2_with fail
      refine (VAL.out w1).mono ?_
      rintro e w2 ⟨rfl, hb⟩
      have A2 := BL.lo A1 hb
      clear hb A1 k0 k1 k2 k3
      go_wp2_with fail
      go_ret
      exact ⟨rfl, A2.out.b⟩
    · rw [if_neg h6] at hm0
      have h6i : ¬ (6 : Int) < (SS.length : Int) := by omega
      clear h6
      cases hall : (SS.all fun p => decide (p.2.2.length ≤ 40))
      · rw [if_pos hall] at hm0
        subst hm0
        rw [hall] at SHT
        clear hall
        go_enter Tryd.func23, Tryd.ntmps23
        go_wp2_with fail
        generalize World.alloc w _ = w1 at A1 L1 ⊢
        obtain ⟨k0, k1, k2, k3⟩ : w1.cell? ⟨w.heap.size, 0, none⟩ = some (.int .i64 l.fr) ∧ w1.cell? ⟨w.heap.size, 1, none⟩ = some (.int .i64 l.pn) ∧ w1.cell? ⟨w.heap.size, 2, none⟩ = some (.int .i64 l.bl) ∧ w1.cell? ⟨w.heap.size, 3, none⟩ = some (.int .i64 l.tp) := by
          have h := L1.out
          exact ⟨by simp [World.cell?, h], by simp [World.cell?, h], by simp [World.cell?, h], by simp [World.cell?, h]⟩
        go_wp2_with fail
        refine (VAL.out w1).mono ?_
        rintro e w2 ⟨rfl, hb⟩
        have A2 := BL.lo A1 hb
        clear hb A1 k0 k1 k2 k3
        go_wp2_with fail
        refine (SHT.out w2 (HS.out.lo A2.out.b)).mono ?_
        rintro e w3 ⟨rfl, hb⟩
        have A3 := BL.lo A2 hb
        clear hb A2
        go_wp2_with fail
        go_ret
        exact ⟨rfl, A3.out.b⟩
      · rw [if_neg (by simp [hall])] at hm0
        rw [hall] at SHT
        clear hall
        by_cases hz : SS.length = 0
        all_goals
          first | rw [if_pos hz] at hm0 | rw [if_neg hz] at hm0
          subst hm0
          first | (have hz2 : ((SS.length : Int) == 0) = true := by simp [hz]) | (have hz2 : ((SS.length : Int) == 0) = false := by simp; exact fun h => hz (by simpa using h))
          clear hz
          go_enter Tryd.func23, Tryd.ntmps23
          go_wp2_with fail
          generalize World.alloc w _ = w1 at A1 L1 ⊢
          obtain ⟨k0, k1, k2, k3⟩ : w1.cell? ⟨w.heap.size, 0, none⟩ = some (.int .i64 l.fr) ∧ w1.cell? ⟨w.heap.size, 1, none⟩ = some (.int .i64 l.pn) ∧ w1.cell? ⟨w.heap.size, 2, none⟩ = some (.int .i64 l.bl) ∧ w1.cell? ⟨w.heap.size, 3, none⟩ = some (.int .i64 l.tp) := by
            have h := L1.out
            exact ⟨by simp [World.cell?, h], by simp [World.cell?, h], by simp [World.cell?, h], by simp [World.cell?, h]⟩
          go_wp2_with fail
          refine (VAL.out w1).mono ?_
          rintro e w2 ⟨rfl, hb⟩
          have A2 := BL.lo A1 hb
          clear hb A1 k0 k1 k2 k3
          go_wp2_with fail
          refine (SHT.out w2 (HS.out.lo A2.out.b)).mono ?_
          rintro e w3 ⟨rfl, hb⟩
          have A3 := BL.lo A2 hb
          clear hb A2
          go_wp2_with fail
          go_ret
          exact ⟨rfl, A3.out.b⟩

end Go.Proofs.YtmjbidnlknmcgabDoor

namespace Go.Proofs.YtmjbidnlknmcgabDoor
open Go.RowKit

theorem info50 : (Tryd.prog.info? 48).map (fun i => (i.zero, i.size, i.bytes)) = some (some (.agg #[.int .i64 0, .int .i64 0]), 2, 16) := by kernel_rfl
theorem under109 : Tryd.prog.underlying 63 = some (.slice 48) := by kernel_rfl

def spE (l : Lw) (SS : List (Option Addr × Nat × List Int)) : Int := ((SS.map fun p => rdE l p.2.2).find? fun e => e != 0).getD 0
def spR (l : Lw) (SS : List (Option Addr × Nat × List Int)) : List (Int × Int) := SS.map fun p => (spLo l p.2.2, spHi l p.2.2)

theorem own2_below {w w' : World} {base n : Nat} {e : TypeId} {v : Value} {xs : List Value} (h : w.ownsRow base e 2 v n xs) (hB : Below w.heap.size w w') : w'.ownsRow base e 2 v n xs :=
  h.kept (below_row hB) (by cases hk : v.ownBlock with | none => exact .inl rfl | some k => exact .inr (fun e => by cases e))
theorem spE_bad {l : Lw} {SS : List (Option Addr × Nat × List Int)} {i : Nat} {p : Option Addr × Nat × List Int} (h0 : ∀ q ∈ SS.take i, rdE l q.2.2 = 0) (hp : SS[i]? = some p) (hr : rdE l p.2.2 ≠ 0) : spE l SS = rdE l p.2.2 := by
  unfold spE
  obtain ⟨hlt, he⟩ := List.getElem?_eq_some_iff.1 hp
  have e : SS = SS.take i ++ (p :: SS.drop (i + 1)) := by rw [← he]; exact (List.take_append_drop i SS).symm.trans (by rw [List.drop_eq_getElem_cons hlt])
  rw [e, List.map_append, List.find?_append]
  have h1 : ((SS.take i).map fun p => rdE l p.2.2).find? (fun e => e != 0) = none := by
    rw [List.find?_eq_none]
    intro x hx
    obtain ⟨q, hq, rfl⟩ := List.mem_map.1 hx
    simp [h0 q hq]
  rw [h1, List.map_cons, List.find?_cons_of_pos (by simpa using hr)]
  rfl
theorem spE_good {l : Lw} {SS : List (Option Addr × Nat × List Int)} (h0 : ∀ q ∈ SS, rdE l q.2.2 = 0) : spE l SS = 0 := by
  unfold spE
  have h1 : (SS.map fun p => rdE l p.2.2).find? (fun e => e != 0) = none := by
    rw [List.find?_eq_none]
    intro x hx
    obtain ⟨q, hq, rfl⟩ := List.mem_map.1 hx
    simp [h0 q hq]
  rw [h1]
  rfl
theorem spR_take {l : Lw} {SS : List (Option Addr × Nat × List Int)} {i : Nat} {p : Option Addr × Nat × List Int} (hp : SS[i]? = some p) : (spR l SS).take (i + 1) = (spR l SS).take i ++ [(spLo l p.2.2, spHi l p.2.2)] := by
  rw [List.take_add_one]
  congr 1
  rw [spR, List.getElem?_map, hp]
  rfl

/-- What goes through the loop: the search, the spans' row. -/
structure SoI (w1 w2 W : World) (l : Lw) (v : Value) (i : Nat) (R : List (Int × Int)) : Prop where
  bl : Below w1.heap.size w1 W
  sw : SW W l (w1.heap.size + 1) (w1.heap.size + 2) w1.heap.size
  ow : W.ownsRow w2.heap.size 48 2 v i (ballC R)
  sz : w1.heap.size + 2 < w2.heap.size
  s2 : w2.heap.size ≤ W.heap.size
theorem SoI.lo {w1 w2 W W' : World} {l : Lw} {v : Value} {i : Nat} {R : List (Int × Int)} (h : Hid (SoI w1 w2 W l v i R)) (hb : Below W.heap.size W W') : Hid (SoI w1 w2 W' l v i R) :=
  Lib.hid ⟨h.out.bl.trans (hb.mono h.out.bl.size), h.out.sw.below (below_row hb), own2_below h.out.ow hb, h.out.sz, Nat.le_trans h.out.s2 hb.size⟩
theorem SoI.memo {w1 w2 W W' : World} {l : Lw} {v : Value} {i : Nat} {R : List (Int × Int)} (h : Hid (SoI w1 w2 W l v i R)) (hs : SW W' l (w1.heap.size + 1) (w1.heap.size + 2) w1.heap.size) (hg : W.grownBy W' (some w1.heap.size)) : Hid (SoI w1 w2 W' l v i R) := by
  have hz := h.out.sz
  refine Lib.hid ⟨h.out.bl.grown hg h.out.bl.size (fun k e => by cases e; exact Nat.le_refl _), hs, h.out.ow.kept hg (.inr ?_), hz, Nat.le_trans h.out.s2 hg.size⟩
  intro e
  have := (h.out.ow.lt _ e).1
  omega
theorem SoI.app {w1 w2 W W' : World} {l : Lw} {v v' : Value} {i : Nat} {R R' : List (Int × Int)} {o : Obj} (h : Hid (SoI w1 w2 W l v i R)) (hg : (W.alloc o).grownBy W' v.ownBlock) (ho : W'.ownsRow w2.heap.size 48 2 v' (i + 1) (ballC R')) : Hid (SoI w1 w2 W' l v' (i + 1) R') := by
  have h1 := (SoI.lo h (below_al W o)).out
  have hz := h1.sz
  refine Lib.hid ⟨h1.bl.grown hg h1.bl.size (fun k e => by have := (h.out.ow.lt k e).1; omega), ?_, ho, hz, Nat.le_trans h1.s2 hg.size⟩
  cases hk : v.ownBlock with
  | none => rw [hk] at hg; exact h1.sw.below hg
  | some k =>
    rw [hk] at hg
    have := (h.out.ow.lt k hk).1
    exact h1.sw.kept hg (by omega) (by omega) (by omega)

set_option maxRecDepth 100000 in
set_option maxHeartbeats 16000000 in
theorem spansOf_any (l : Lw) (ok : l.Ok) (SS : List (Option Addr × Nat × List Int)) (a : Option Addr) (c : Nat) (w : World) (hS : SheetsAt w a SS) (hn : SS.length ≤ 6) (hT : TabOK w) :
    Calls Tryd.prog 24 #[l.val, .slice a SS.length c] w fun e w' => ∃ v, e = .returned (.tuple #[v, .int .i64 (spE l SS)]) ∧ (spE l SS = 0 → ∃ base, w'.ownsRow base 48 2 v SS.length (ballC (spR l SS))) ∧ (spE l SS ≠ 0 → v = .slice none 0 0) ∧ Below w.heap.size w w' := by
  have HS := Lib.hid hS
  have HT := Lib.hid hT
  have OK := Lib.hid ok
  have SEA := Lib.hid (search_any l)
  have RDG := Lib.hid (fun bs h a c w hs => read_good l bs a c w hs h)
  have RDB := Lib.hid (fun bs h a c w hs => read_bad l bs a c w hs h)
  clear hS hT ok
  obtain ⟨E, hE⟩ : ∃ E, Hid (spE l SS = E) := ⟨_, Lib.hid rfl⟩
  rw [hE.out]
  have A1 : Hid (BL w (w.alloc (.cells #[.int .i64 l.fr, .int .i64 l.pn, .int .i64 l.bl, .int .i64 l.tp] 34))) := BL.al (BL.start w) _
  have L1 := Lib.hid (heap_alloc_new w (.cells #[.int .i64 l.fr, .int .i64 l.pn, .int .i64 l.bl, .int .i64 l.tp] 34))
  unfold Lw.val at *
  go_enter Tryd.func24, Tryd.ntmps24
  go_wp2_with fail
  generalize World.alloc w _ = w1 at A1 L1 ⊢
  refine (SEA.out w1).mono ?_
  rintro e w2 ⟨rfl, hsw, hb⟩
  have hzz : w1.heap.size + 2 < w2.heap.size := lt_of_block hsw.cr
  have I2 : Hid (SoI w1 w2 w2 l (.slice none 0 0) 0 []) := Lib.hid ⟨hb, hsw, World.ownsRow_nil _ _ _ _, hzz, Nat.le_refl _⟩
  clear hb hsw hzz
  obtain ⟨i50, hi50, hy0, hy1, hy2⟩ := info_parts info50
  go_wp2_with fail
  go_loopg [7, 15] SS.length (fun g s7 s15 wx => ∃ (i : Nat), i ≤ SS.length ∧ g = SS.length - i ∧ s15 = .int .i64 (i : Int) ∧ Hid (∀ q ∈ SS.take i, rdE l q.2.2 = 0) ∧ Hid (SoI w1 w2 wx l s7 i ((spR l SS).take i)))
  case atStart => exact ⟨0, by omega, rfl, rfl, Lib.hid (by simp), by simpa using I2⟩
  case round =>
    clear I2
    obtain ⟨i, hi, rfl, rfl, h0, hI⟩ := hrel
    obtain ⟨sa, sc, rfl⟩ := own2_len hI.out.ow
    obtain ⟨k0, k1, k2, k3⟩ : wr.cell? ⟨w.heap.size, 0, none⟩ = some (.int .i64 l.fr) ∧ wr.cell? ⟨w.heap.size, 1, none⟩ = some (.int .i64 l.pn) ∧ wr.cell? ⟨w.heap.size, 2, none⟩ = some (.int .i64 l.bl) ∧ wr.cell? ⟨w.heap.size, 3, none⟩ = some (.int .i64 l.tp) := by
      have h := (hI.out.bl.block _ (lt_of_block L1.out)).trans L1.out
      exact ⟨by simp [World.cell?, h], by simp [World.cell?, h], by simp [World.cell?, h], by simp [World.cell?, h]⟩
    by_cases hlt : i < SS.length
    · have hz0 : (0 : Int) ≤ (i : Int) := by omega
      have hz1 : (i : Int) < (SS.length : Int) := by omega
      obtain ⟨p, hp⟩ : ∃ p, SS[i]? = some p := ⟨SS[i]'hlt, List.getElem?_eq_getElem _⟩
      obtain ⟨xa, xc, xs⟩ := p
      obtain ⟨g, o, rfl, h1, h2⟩ := HS.out i _ hp
      obtain ⟨xn, hxn⟩ : ∃ xn, xs.length = xn := ⟨_, rfl⟩
      simp only [hxn] at h1
      have c1 : wr.cell? ⟨g, o + i, none⟩ = some (.slice xa xn xc) := below_cell (A1.out.b.trans (hI.out.bl.mono A1.out.b.size)) h1
      have X2 := Lib.hid (h2.lo (A1.out.b.trans (hI.out.bl.mono A1.out.b.size)))
      have HP := Lib.hid hp
      have HXN := Lib.hid hxn
      clear h1 h2 hp hxn
      by_cases he : rdE l xs = 0
      · have RG := RDG.out xs he
        rw [HXN.out] at RG
        obtain ⟨ok, hw, ht⟩ := recS_ok he
        have HW := Lib.hid hw
        have HTT := Lib.hid ht
        have HE := Lib.hid he
        obtain ⟨r, hr⟩ : ∃ r, recS l xs = r := ⟨_, rfl⟩
        rw [hr] at RG HW HTT
        have HR := Lib.hid hr
        replace RG := Lib.hid RG
        clear ok hw ht he hr
        go_wp2_with fail
        refine (RG.out xa xc wr X2.out).mono ?_
        rintro e w3 ⟨base, fv, cv, vs, rfl, how, hln, hbase, hb⟩
        obtain ⟨fa, fm, fc, rfl⟩ := ownsRow_shape (how.own (28, fv, vs) (by simp [items]))
        obtain ⟨ca, cm, cc, rfl⟩ := ownsRow_shape (how.own (3, cv, r.cs.map (Value.int .i64)) (by simp [items]))
        have I3 := SoI.lo hI hb
        clear how hln hbase hb hI c1 k0 k1 k2 k3
        unfold rval
        go_wp2_with fail
        have I4 := SoI.lo I3 (below_al w3 (.cells #[.int .i64 l.fr, .int .i64 l.pn, .int .i64 l.bl, .int .i64 l.tp, .int .i64 r.s.f, .int .i64 r.s.b, .int .i64 r.s.s, .bool r.s.fresh, .bool r.s.more, .int .i64 r.s.x, .int .i64 r.s.y, .slice fa fm fc, .slice ca cm cc, .int .i64 r.tot] 74))
        have RB4 := Lib.hid (show RB (w3.alloc (.cells #[.int .i64 l.fr, .int .i64 l.pn, .int .i64 l.bl, .int .i64 l.tp, .int .i64 r.s.f, .int .i64 r.s.b, .int .i64 r.s.s, .bool r.s.fresh, .bool r.s.more, .int .i64 r.s.x, .int .i64 r.s.y, .slice fa fm fc, .slice ca cm cc, .int .i64 r.tot] 74)) w3.heap.size l r.s (.slice fa fm fc) (.slice ca cm cc) r.tot from ⟨heap_alloc_new w3 _⟩)
        have hbb := Lib.hid (show w3.heap.size ≠ w1.heap.size from by have := I3.out.sz; have := I3.out.s2; omega)
        obtain ⟨b8, hb8⟩ : ∃ b8, w3.heap.size = b8 := ⟨_, rfl⟩
        rw [hb8] at RB4 hbb ⊢
        clear hb8 I3
        generalize World.alloc w3 _ = w4 at I4 RB4 ⊢
        have htt : Hid (r.tot = ((r.tot.toNat / 64 * 64 + r.tot.toNat % 64 : Nat) : Int)) := Lib.hid (by have := HW.out.t1; omega)
        obtain ⟨N, hN0⟩ : ∃ N, finN l xs = N := ⟨_, rfl⟩
        have hN : Hid (N = Rs l r.s <<< (r.tot.toNat / 64 * 64 + r.tot.toNat % 64)) := Lib.hid (by rw [← hN0, finN, HR.out]; congr 1; omega)
        obtain ⟨lo, hlo⟩ : ∃ lo, Hid (lo = spLo l xs) := ⟨_, Lib.hid rfl⟩
        obtain ⟨hi2, hhi⟩ : ∃ hi2, Hid (hi2 = spHi l xs) := ⟨_, Lib.hid rfl⟩
        have HLO := Lib.hid (And.intro hlo.out hhi.out)
        unfold spLo at hlo
        unfold spHi at hhi
        rw [hN0] at hlo hhi
        clear hN0
        refine (finals_any b8 l r.s r.tot _ _ _ (r.tot.toNat / 64) (r.tot.toNat % 64) w4 HW.out.vd (Lib.hid (rest_ok l OK.out _ _ _)) ⟨RB4.out.at, RB4.out.c13⟩ I4.out.sw hbb.out (lt_of_block RB4.out.blk) htt.out (by omega) (by have := HTT.out; have := HW.out.t1; omega)).mono ?_
        rintro e w5 ⟨rfl, hsw5, hg5⟩
        rw [← hN.out]
        have I5 := SoI.memo I4 hsw5.out hg5.out
        clear hsw5 hg5 I4 RB4 hbb
        go_wp2_with fail
        refine (span_any (fun i => wd N i) (wd_lt N) w5 (HT.out.below (A1.out.b.trans (I5.out.bl.mono A1.out.b.size)) HT.out.pos)).mono ?_
        rintro e w6 ⟨rfl, hb⟩
        have I6 := SoI.lo I5 hb
        rw [← hlo.out, ← hhi.out]
        clear hb I5 hlo hhi
        have hsz6 := Lib.hid (Nat.le_trans I6.out.s2 (below_al w6 (.cells #[.int .i64 lo, .int .i64 hi2] 48)).size)
        go_wp2_with (at_builtin; go_must (refine wpList_append_own_at _ rfl _ _ 63 rfl w2.heap.size 48 i50 (.agg #[.int .i64 0, .int .i64 0]) 2 16 under109 hi50 hy0 hy1 hy2 rfl (by decide) _ i _ rfl (own2_below I6.out.ow (below_al w6 _)) ⟨w6.heap.size, 0, none⟩ 1 1 [.int .i64 lo, .int .i64 hi2] rfl rfl (World.news_of_block (heap_alloc_new w6 _)) (by simp [Value.oneCell']) (by unfold maxLen; omega) (by omega) hsz6.out ?_); intro v' w7 hown hgrow hnil hloc; have I7 : Hid (SoI w1 w2 w7 l v' (i + 1) ((spR l SS).take i ++ [(lo, hi2)])) := SoI.app I6 hgrow (by rw [ballC_snoc]; exact hown); clear hown hgrow hnil hloc)
        go_roundg (SS.length - (i + 1))
        case measure => omega
        case rel =>
          refine ⟨i + 1, by omega, rfl, by simp, Lib.hid ?_, ?_⟩
          · intro q hq
            rw [List.take_add_one, HP.out] at hq
            rcases List.mem_append.1 hq with hq | hq
            · exact h0.out q hq
            · simp at hq
              rw [hq]
              exact HE.out
          · rw [spR_take HP.out, ← HLO.out.1, ← HLO.out.2]
            exact I7
      · have RB := RDB.out xs he
        rw [HXN.out] at RB
        have hbad := spE_bad h0.out HP.out he
        rw [hE.out] at hbad
        simp only at hbad
        rw [← hbad] at RB he
        replace RB := Lib.hid RB
        have hne : (E == 0) = false := by simpa using he
        clear hbad hE
        unfold zval at RB
        go_wp2_with fail
        refine (RB.out xa xc wr X2.out).mono ?_
        rintro e w3 ⟨rfl, hb⟩
        have I3 := SoI.lo hI hb
        have B3 := Lib.hid (A1.out.b.trans ((BL.al (Lib.hid ⟨I3.out.bl⟩) (.cells #[.int .i64 0, .int .i64 0, .int .i64 0, .int .i64 0, .int .i64 0, .int .i64 0, .int .i64 0, .bool false, .bool false, .int .i64 0, .int .i64 0, .slice none 0 0, .slice none 0 0, .int .i64 0] 74)).out.b.mono A1.out.b.size))
        clear hb I3 hI c1 k0 k1 k2 k3
        go_wp2_with fail
        go_ret2
        exact ⟨_, rfl, fun h => absurd h he, fun _ => rfl, B3.out⟩
    · have hz1 : ¬ (i : Int) < (SS.length : Int) := by omega
      have hil : i = SS.length := by omega
      have HIL := Lib.hid hil
      have hg := spE_good (l := l) (SS := SS) (by intro q hq; exact h0.out q (by rw [List.take_of_length_le (by omega)]; exact hq))
      rw [hE.out] at hg
      subst hg
      clear hlt hil hE
      go_wp2_with fail
      go_ret2
      refine ⟨.slice sa i sc, rfl, ⟨w2.heap.size, ?_⟩, A1.out.b.trans (hI.out.bl.mono A1.out.b.size)⟩
      have h1 := hI.out.ow
      rw [List.take_of_length_le (by rw [spR, List.length_map]; omega)] at h1
      rw [← HIL.out]
      exact h1

end Go.Proofs.YtmjbidnlknmcgabDoor
