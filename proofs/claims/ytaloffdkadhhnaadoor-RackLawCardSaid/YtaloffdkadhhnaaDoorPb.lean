/- The contracts of what checks a list of pins, and a ball. -/
import Derived.Test.YtaloffdkadhhnaaDoorPs
set_option linter.unusedVariables false
set_option linter.unusedSimpArgs false
namespace Go.Proofs.YtaloffdkadhhnaaDoor
open Go.RowKit

theorem pinsN_bd {r : Rk} : 1 ≤ pinsN r.rows ∧ pinsN r.rows ≤ 10 := by unfold pinsN; split <;> (try split) <;> (try split) <;> omega

theorem rise_all {xs : List Int} (hr : xs.Pairwise (· < ·)) {lo hi : Int} (h1 : lo ≤ xs.headD 0) (h2 : xs.getLastD 0 ≤ hi) : ∀ x ∈ xs, lo ≤ x ∧ x ≤ hi := by
  intro x hx
  obtain ⟨i, hi', he⟩ := List.getElem_of_mem hx
  rw [List.pairwise_iff_getElem] at hr
  have hpos : 0 < xs.length := by omega
  have e1 : xs.headD 0 = xs[0] := by cases xs with
    | nil => simp at hpos
    | cons a t => rfl
  have e2 : xs.getLastD 0 = xs[xs.length - 1] := by rw [List.getLastD_eq_getLast?, List.getLast?_eq_getElem?, List.getElem?_eq_getElem (by omega)]; rfl
  rw [e1] at h1; rw [e2] at h2
  constructor
  · by_cases h : i = 0
    · subst h; omega
    · have := hr 0 i hpos hi' (by omega); omega
  · by_cases h : i = xs.length - 1
    · subst h; omega
    · have := hr i (xs.length - 1) hi' (by omega) (by omega); omega

theorem hasL_out {r : Rk} {xs : List Int} (h : hasL r xs = true) : xs.Pairwise (· < ·) ∧ ∀ x ∈ xs, 0 ≤ x ∧ x < pinsN r.rows := by
  unfold hasL at h
  simp only [Bool.and_eq_true, Bool.or_eq_true] at h
  obtain ⟨h1, h2⟩ := h
  have hr : xs.Pairwise (· < ·) := by unfold riseB at h1; simpa using h1
  refine ⟨hr, ?_⟩
  rcases h2 with h2 | ⟨h2, h3⟩
  · have : xs = [] := by cases xs <;> simp_all
    subst this; simp
  · have a := inB_iff.1 h2; have b := inB_iff.1 h3
    intro x hx
    have := rise_all hr a.1 b.2 x hx
    omega
theorem hasL_in {r : Rk} {xs : List Int} (hr : xs.Pairwise (· < ·)) (h : ∀ x ∈ xs, 0 ≤ x ∧ x < pinsN r.rows) : hasL r xs = true := by
  unfold hasL
  simp only [Bool.and_eq_true, Bool.or_eq_true]
  refine ⟨by unfold riseB; simpa using hr, ?_⟩
  by_cases hx : xs = []
  · left; simp [hx]
  · right
    have hpos := List.length_pos_iff.2 hx
    have e1 : xs.headD 0 = xs[0] := by cases xs with
      | nil => simp at hx
      | cons a t => rfl
    have e2 : xs.getLastD 0 = xs[xs.length - 1] := by rw [List.getLastD_eq_getLast?, List.getLast?_eq_getElem?, List.getElem?_eq_getElem (by omega)]; rfl
    have a := h xs[0] (List.getElem_mem _)
    have b := h xs[xs.length - 1] (List.getElem_mem _)
    rw [e1, e2]
    exact ⟨inB_iff.2 ⟨a.1, by omega⟩, inB_iff.2 ⟨b.1, by omega⟩⟩

theorem faultN_ok {r : Rk} (h : faultN r = 0) : r.Ok ∧ r.ls.length ≤ 12 ∧ unsureN r.ls ≤ 6 ∧ ∀ l ∈ r.ls, wrongB r l = false := by
  unfold faultN at h
  split at h
  · rename_i hf
    split at h
    · rename_i hv
      unfold fewB at hf; unfold validB at hv
      simp only [Bool.and_eq_true, decide_eq_true_eq, Bool.not_eq_true'] at hf hv
      obtain ⟨v1, v2, v3, v4, v5⟩ := hv
      have a := inB_iff.1 v1; have b := inB_iff.1 v2; have c := inB_iff.1 v3; have d := inB_iff.1 v4
      refine ⟨⟨a.1, a.2, b.1, b.2, c.1, c.2, d.1, d.2⟩, hf.1, hf.2, fun l hl => ?_⟩
      rw [List.any_eq_false] at v5
      simpa using v5 l hl
    · cases h
  · cases h

def chkE (r : Rk) (xs : List Int) : Int := if faultN r = 0 then (if hasL r xs then 0 else 2) else faultN r
def chkN (r : Rk) (xs : List Int) : Nat := if chkE r xs = 0 then setN xs else 0
theorem chk_ok {r : Rk} {xs : List Int} (h : chkE r xs = 0) : faultN r = 0 ∧ hasL r xs = true := by
  unfold chkE at h
  split at h
  · split at h
    · exact ⟨by assumption, by assumption⟩
    · cases h
  · contradiction
theorem faultN_val (r : Rk) : faultN r = 0 ∨ faultN r = 1 ∨ faultN r = 3 := by unfold faultN; split <;> (try split) <;> simp

set_option maxRecDepth 100000 in
set_option maxHeartbeats 4000000 in
theorem check_any (r : Rk) (xs : List Int) (a : Option Addr) (c : Nat) (w : World) (hL : LinksAt w r.la r.ls) (hn : r.ls.length ≤ 1000) (hX : IntsAt w a xs) (hm : xs.length ≤ 1000) :
    Calls Tryd.prog 55 #[r.val, .slice a xs.length c] w fun e w' => e = .returned (.tuple #[.int .u16 (chkN r xs : Nat), .int .i64 (chkE r xs)]) ∧ Below w.heap.size w w' := by
  have CR := Lib.hid (fun W (hb : Below w.heap.size w W) => checkRack_any r W (hL.lo hb) hn)
  have HL := Lib.hid (fun W (hb : Below w.heap.size w W) (h : faultN r = 0) => hasL_any r xs a c W (faultN_ok h).1.r1 (faultN_ok h).1.r2 (hX.lo hb) hm)
  have SO := Lib.hid (fun W (hb : Below w.heap.size w W) (h : hasL r xs = true) => setOf_any xs a c W (hX.lo hb) hm (fun x hx => by have := (hasL_out h).2 x hx; have := (@pinsN_bd r).2; omega))
  have HE := Lib.hid (show chkE r xs = if faultN r = 0 then (if hasL r xs then 0 else 2) else faultN r from rfl)
  have HN := Lib.hid (show chkN r xs = if chkE r xs = 0 then setN xs else 0 from rfl)
  generalize chkN r xs = N at *
  generalize chkE r xs = E at *
  generalize hasL r xs = H at *
  generalize setN xs = S at *
  have hv := faultN_val r
  generalize faultN r = F at *
  obtain ⟨rows, mid, gap, reach, la, lc, L⟩ := r
  unfold Rk.val at *
  simp only at *
  clear hL hX hn hm
  have C0 : Hid (∀ i v, (#[Value.int .i64 rows, .int .i64 mid, .int .i64 gap, .int .i64 reach, .slice la L.length lc] : Array Value)[i]? = some v → (w.alloc (.cells #[.int .i64 rows, .int .i64 mid, .int .i64 gap, .int .i64 reach, .slice la L.length lc] 32)).cell? ⟨w.heap.size, i, none⟩ = some v) := Lib.hid (fun i v h => new_cell w h)
  have B0 := Lib.hid (below_al w (.cells #[.int .i64 rows, .int .i64 mid, .int .i64 gap, .int .i64 reach, .slice la L.length lc] 32))
  have Z0 := Lib.hid (show w.heap.size < (w.alloc (.cells #[.int .i64 rows, .int .i64 mid, .int .i64 gap, .int .i64 reach, .slice la L.length lc] 32)).heap.size by simp)
  by_cases hF : F = 0
  · subst hF
    have HH := Lib.hid (fun W hb => HL.out W hb rfl)
    clear HL hv
    go_enter Tryd.func55, Tryd.ntmps55
    go_wp2_with fail
    refine (CR.out _ B0.out).mono ?_
    rintro e w1 ⟨rfl, hb⟩
    have B1 := Lib.hid (below_go B0.out hb)
    have q0 := lo_cell hb w.heap.size 0 Z0.out
    have q1 := lo_cell hb w.heap.size 1 Z0.out
    have q2 := lo_cell hb w.heap.size 2 Z0.out
    have q3 := lo_cell hb w.heap.size 3 Z0.out
    have q4 := lo_cell hb w.heap.size 4 Z0.out
    clear hb
    go_wp2_with fail
    refine (HH.out _ B1.out).mono ?_
    rintro e w2 ⟨rfl, hb⟩
    have B2 := Lib.hid (below_go B1.out hb)
    clear hb q0 q1 q2 q3 q4
    cases H
    · go_wp2_with fail
      go_ret2
      exact ⟨by rw [HN.out, HE.out]; rfl, B2.out⟩
    · have SS := Lib.hid (fun W hb => SO.out W hb rfl)
      clear SO
      go_wp2_with fail
      refine (SS.out _ B2.out).mono ?_
      rintro e w3 ⟨rfl, rfl⟩
      go_wp2_with fail
      go_ret2
      exact ⟨by rw [HN.out, HE.out]; rfl, B2.out⟩
  · have hF' : (F == 0) = false := by simpa using hF
    have HE2 := Lib.hid (show E = F from by rw [HE.out, if_neg hF])
    have HN2 := Lib.hid (show N = 0 from by rw [HN.out, HE2.out, if_neg hF])
    clear HL hv HE HN hF SO
    go_enter Tryd.func55, Tryd.ntmps55
    go_wp2_with fail
    refine (CR.out _ B0.out).mono ?_
    rintro e w1 ⟨rfl, hb⟩
    have B1 := Lib.hid (below_go B0.out hb)
    clear hb
    go_wp2_with fail
    go_ret2
    exact ⟨by rw [HN2.out, HE2.out]; rfl, B1.out⟩

/-- A range of boards. -/
structure Rg where
  lo : Int
  hi : Int
def Rg.val (b : Rg) : Value := .agg #[.int .i64 b.lo, .int .i64 b.hi]
def RgsAt (w : World) (a : Option Addr) (L : List Rg) : Prop := ∀ i l, L[i]? = some l → ∃ g o, a = some ⟨g, o, none⟩ ∧ w.cell? ⟨g, o + i * 2, none⟩ = some (.int .i64 l.lo) ∧ w.cell? ⟨g, o + i * 2 + 1, none⟩ = some (.int .i64 l.hi)
theorem RgsAt.lower {w W : World} {a : Option Addr} {L : List Rg} (h : RgsAt w a L) (hb : Below w.heap.size w W) : RgsAt W a L := by
  intro i l hl
  obtain ⟨g, o, e, h1, h2⟩ := h i l hl
  exact ⟨g, o, e, cell_lo hb h1, cell_lo hb h2⟩
theorem RgsAt.alt {w W : World} {a : Option Addr} {L : List Rg} {p : Nat → Prop} (h : RgsAt w a L) (hb : Alt p w W) (hp : ∀ g o, a = some ⟨g, o, none⟩ → ¬ p g) : RgsAt W a L := by
  intro i l hl
  obtain ⟨g, o, e, h1, h2⟩ := h i l hl
  have hg := hb.blk g (cell_lt h1) (hp g o e)
  exact ⟨g, o, e, (World.cell?_of_block hg).trans h1, (World.cell?_of_block hg).trans h2⟩

def wrongG (b : Rg) : Bool := decide (b.lo < 0) || (decide (60 < b.hi) || (decide (b.hi < b.lo) || decide (8 < b.hi - b.lo)))

set_option maxHeartbeats 1000000 in
theorem wrongG_any (b : Rg) (w : World) : Calls Tryd.prog 93 #[b.val] w fun e w' => e = .returned (.bool (wrongG b)) ∧ Below w.heap.size w w' := by
  obtain ⟨lo, hi⟩ := b
  have hR := Lib.hid (show wrongG ⟨lo, hi⟩ = (decide (lo < 0) || (decide (60 < hi) || (decide (hi < lo) || decide (8 < hi - lo)))) from rfl)
  unfold Rg.val
  simp only at *
  have B0 := Lib.hid (below_al w (.cells #[.int .i64 lo, .int .i64 hi] 63))
  by_cases h1 : lo < 0
  · have hR2 := Lib.hid (show wrongG ⟨lo, hi⟩ = true from by rw [hR.out]; simp [h1])
    go_enter Tryd.func93, Tryd.ntmps93
    go_wp2_with fail
    go_ret
    exact ⟨by rw [hR2.out]; rfl, B0.out⟩
  · have h1' : 0 ≤ lo := by omega
    by_cases h2 : 60 < hi
    · have hR2 := Lib.hid (show wrongG ⟨lo, hi⟩ = true from by rw [hR.out]; simp [h2])
      clear h1
      go_enter Tryd.func93, Tryd.ntmps93
      go_wp2_with fail
      go_ret
      exact ⟨by rw [hR2.out]; rfl, B0.out⟩
    · have h2' : hi ≤ 60 := by omega
      by_cases h3 : hi < lo
      · have hR2 := Lib.hid (show wrongG ⟨lo, hi⟩ = true from by rw [hR.out]; simp [h3])
        clear h1 h2
        go_enter Tryd.func93, Tryd.ntmps93
        go_wp2_with fail
        go_ret
        exact ⟨by rw [hR2.out]; rfl, B0.out⟩
      · have h3' : lo ≤ hi := by omega
        have hR2 := Lib.hid (show wrongG ⟨lo, hi⟩ = decide (8 < hi - lo) from by rw [hR.out]; simp [h1, h2, h3])
        clear h1 h2 h3
        go_enter Tryd.func93, Tryd.ntmps93
        go_wp2_with fail
        go_ret
        exact ⟨by rw [hR.out, ← Bool.or_assoc, ← Bool.or_assoc]; rfl, B0.out⟩

set_option maxRecDepth 100000 in
set_option maxHeartbeats 4000000 in
theorem idxG_any (a : Option Addr) (L : List Rg) (c : Nat) (w : World) (hL : RgsAt w a L) (hn : L.length ≤ 1000) :
    Calls Tryd.prog 108 #[.slice a L.length c, .func (.func 93) #[] #[]] w (IdxIs (L.any wrongG) w) := by
  have HL := Lib.hid hL
  have CL := Lib.hid (fun l w => wrongG_any l w)
  clear hL
  go_enter Tryd.func108, Tryd.ntmps108
  go_wp2_with fail
  go_loopg [8] L.length (fun g s8 wx => ∃ (i : Nat), i ≤ L.length ∧ g = L.length - i ∧ s8 = .int .i64 (i : Int) ∧ Hid ((L.take i).any wrongG = false) ∧ Hid (Below w.heap.size w wx))
  case atStart => exact ⟨0, by omega, rfl, rfl, Lib.hid (by simp), Lib.hid (Below.refl _ _)⟩
  case round =>
    obtain ⟨i, hi, rfl, rfl, hA, hB⟩ := hrel
    by_cases hlt : i < L.length
    · have hz0 : (0 : Int) ≤ (i : Int) := by omega
      have hz1 : (i : Int) < (L.length : Int) := by omega
      obtain ⟨l, hl⟩ : ∃ l, L[i]? = some l := ⟨L[i]'hlt, List.getElem?_eq_getElem _⟩
      obtain ⟨g, o, rfl, k1, k2⟩ := HL.out i _ hl
      have c1 : wr.cell? ⟨g, o + i * 2, none⟩ = some (.int .i64 l.lo) := cell_lo hB.out k1
      have c2 : wr.cell? ⟨g, o + i * 2 + 1, none⟩ = some (.int .i64 l.hi) := cell_lo hB.out k2
      have hT := Lib.hid (show (L.take (i + 1)).any wrongG = ((L.take i).any wrongG || wrongG l) from by rw [List.take_add_one, hl]; simp)
      clear k1 k2 hl
      go_wp2_with fail
      refine (CL.out l _).mono ?_
      rintro e w2 ⟨rfl, hb⟩
      have B3 := Lib.hid (below_go hB.out hb)
      clear hb c1 c2
      cases hq : wrongG l
      · have hT2 := Lib.hid (show (L.take (i + 1)).any wrongG = false from by rw [hT.out, hA.out, hq]; rfl)
        clear hq
        go_wp2_with fail
        go_roundg (L.length - (i + 1))
        case measure => omega
        case rel => exact ⟨i + 1, by omega, rfl, by simp, hT2, B3⟩
      · have hT2 := Lib.hid (show L.any wrongG = true from by
          have h1 : (L.take (i + 1)).any wrongG = true := by rw [hT.out, hA.out, hq]; rfl
          rw [← List.take_append_drop (i + 1) L, List.any_append, h1]; rfl)
        clear hq
        go_wp2_with fail
        go_returns
        exact ⟨_, rfl, by rw [hT2.out]; simp, B3.out⟩
    · have hE := Lib.hid (show L.any wrongG = false from by
        have h1 := hA.out
        rwa [List.take_of_length_le (by omega)] at h1)
      have hz1 : ¬ (i : Int) < (L.length : Int) := by omega
      clear hlt
      go_wp2_with fail
      go_returns
      exact ⟨_, rfl, by rw [hE.out]; rfl, hB.out⟩

set_option maxHeartbeats 1000000 in
theorem containsG_any (a : Option Addr) (L : List Rg) (c : Nat) (w : World) (hL : RgsAt w a L) (hn : L.length ≤ 1000) :
    Calls Tryd.prog 92 #[.slice a L.length c, .func (.func 93) #[] #[]] w fun e w' => e = .returned (.bool (L.any wrongG)) ∧ Below w.heap.size w w' := by
  have CL := Lib.hid (idxG_any a L c w hL hn)
  clear hL hn
  generalize L.any wrongG = R at *
  go_enter Tryd.func92, Tryd.ntmps92
  go_wp2_with fail
  refine CL.out.mono ?_
  rintro e w1 ⟨k, rfl, hk, hb⟩
  have HK := Lib.hid hk; have HB := Lib.hid hb
  clear hk hb
  go_wp2_with fail
  go_ret
  exact ⟨by rw [← HK.out]; rfl, HB.out⟩

def isBallB (r : Rk) (ball : List Rg) : Bool := ((ball.length : Int) == r.rows) && !(ball.any wrongG)
def balE (r : Rk) (xs : List Int) (ball : List Rg) : Int := if chkE r xs = 0 then (if isBallB r ball then 0 else 2) else chkE r xs
def balN (r : Rk) (xs : List Int) (ball : List Rg) : Nat := if balE r xs ball = 0 then setN xs else 0
theorem chkE_val (r : Rk) (xs : List Int) : chkE r xs = 0 ∨ chkE r xs = 1 ∨ chkE r xs = 2 ∨ chkE r xs = 3 := by
  have := faultN_val r
  unfold chkE; split
  · split <;> simp
  · omega

set_option maxRecDepth 100000 in
set_option maxHeartbeats 4000000 in
theorem checkBall_any (r : Rk) (xs : List Int) (a : Option Addr) (c : Nat) (ball : List Rg) (a2 : Option Addr) (c2 : Nat) (w : World) (hL : LinksAt w r.la r.ls) (hn : r.ls.length ≤ 1000) (hX : IntsAt w a xs) (hm : xs.length ≤ 1000) (hG : RgsAt w a2 ball) (hg : ball.length ≤ 1000) :
    Calls Tryd.prog 61 #[r.val, .slice a xs.length c, .slice a2 ball.length c2] w fun e w' => e = .returned (.tuple #[.int .u16 (balN r xs ball : Nat), .int .i64 (balE r xs ball)]) ∧ Below w.heap.size w w' := by
  have CR := Lib.hid (fun W (hb : Below w.heap.size w W) => check_any r xs a c W (hL.lo hb) hn (hX.lo hb) hm)
  have CG := Lib.hid (fun W (hb : Below w.heap.size w W) => containsG_any a2 ball c2 W (hG.lower hb) hg)
  have HE := Lib.hid (show balE r xs ball = if chkE r xs = 0 then (if isBallB r ball then 0 else 2) else chkE r xs from rfl)
  have HN := Lib.hid (show balN r xs ball = if balE r xs ball = 0 then setN xs else 0 from rfl)
  have HC := Lib.hid (show chkN r xs = if chkE r xs = 0 then setN xs else 0 from rfl)
  have HB := Lib.hid (show isBallB r ball = (((ball.length : Int) == r.rows) && !(ball.any wrongG)) from rfl)
  generalize balN r xs ball = N at *
  generalize balE r xs ball = E at *
  generalize isBallB r ball = I at *
  generalize ball.any wrongG = G at *
  generalize chkN r xs = M at *
  generalize chkE r xs = F at *
  generalize setN xs = S at *
  obtain ⟨rows, mid, gap, reach, la, lc, L⟩ := r
  unfold Rk.val at *
  simp only at *
  clear hL hX hn hm hG
  have B0 := Lib.hid (below_al w (.cells #[.int .i64 rows, .int .i64 mid, .int .i64 gap, .int .i64 reach, .slice la L.length lc] 32))
  have Z0 := Lib.hid (show w.heap.size < (w.alloc (.cells #[.int .i64 rows, .int .i64 mid, .int .i64 gap, .int .i64 reach, .slice la L.length lc] 32)).heap.size by simp)
  by_cases hF : F = 0
  · subst hF
    have HM := Lib.hid (show M = S from by rw [HC.out]; rfl)
    by_cases hr : (ball.length : Int) = rows
    · have hr' : ((ball.length : Int) == rows) = true := by simpa using hr
      have hr2 : ((ball.length : Int) != rows) = false := by simpa using hr
      have HR := Lib.hid (show I = !G from by rw [HB.out, hr']; rfl)
      clear hr
      go_enter Tryd.func61, Tryd.ntmps61
      go_wp2_with fail
      refine (CR.out _ B0.out).mono ?_
      rintro e w1 ⟨rfl, hb⟩
      have B1 := Lib.hid (below_go B0.out hb)
      have q0 := lo_cell hb w.heap.size 0 Z0.out
      clear hb
      go_wp2_with fail
      refine (CG.out _ B1.out).mono ?_
      rintro e w2 ⟨rfl, hb⟩
      have B2 := Lib.hid (below_go B1.out hb)
      clear hb q0
      cases G
      · go_wp2_with fail
        go_ret2
        exact ⟨by rw [HN.out, HE.out, HR.out, HM.out]; rfl, B2.out⟩
      · go_wp2_with fail
        go_ret2
        exact ⟨by rw [HN.out, HE.out, HR.out]; rfl, B2.out⟩
    · have hr' : ((ball.length : Int) == rows) = false := by simpa using hr
      have hr2 : ((ball.length : Int) != rows) = true := by simpa using hr
      have HR := Lib.hid (show I = false from by rw [HB.out, hr']; rfl)
      clear hr
      go_enter Tryd.func61, Tryd.ntmps61
      go_wp2_with fail
      refine (CR.out _ B0.out).mono ?_
      rintro e w1 ⟨rfl, hb⟩
      have B1 := Lib.hid (below_go B0.out hb)
      have q0 := lo_cell hb w.heap.size 0 Z0.out
      clear hb
      go_wp2_with fail
      go_ret2
      exact ⟨by rw [HN.out, HE.out, HR.out]; rfl, B1.out⟩
  · have hF' : (F == 0) = false := by simpa using hF
    have HE2 := Lib.hid (show E = F from by rw [HE.out, if_neg hF])
    have HN2 := Lib.hid (show N = 0 from by rw [HN.out, HE2.out, if_neg hF])
    clear HE HN hF
    go_enter Tryd.func61, Tryd.ntmps61
    go_wp2_with fail
    refine (CR.out _ B0.out).mono ?_
    rintro e w1 ⟨rfl, hb⟩
    have B1 := Lib.hid (below_go B0.out hb)
    clear hb
    go_wp2_with fail
    go_ret2
    exact ⟨by rw [HN2.out, HE2.out]; rfl, B1.out⟩

end Go.Proofs.YtaloffdkadhhnaaDoor
