/- The contracts of what tells whether a lane is valid. -/
import Derived.Test.YtbbndcfnpfedpaaBs
set_option linter.unusedVariables false
set_option linter.unusedSimpArgs false
namespace Go.Proofs.Ytbbndcfnpfedpaa
open Go.RowKit

attribute [local go_sem] Oper.semAt_some

/-- A word, and a lane: its frames, and the slice of its words. -/
structure Wd where
  fr : Int
  ba : Int
  te : Int
  le : Int
  mo : Int
structure Lan where
  fs : Int
  wa : Option Addr
  wc : Nat
  ws : List Wd
def Wd.val (x : Wd) : Value := .agg #[.int .i64 x.fr, .int .i64 x.ba, .int .i64 x.te, .int .i64 x.le, .int .i64 x.mo]
def Lan.val (l : Lan) : Value := .agg #[.int .i64 l.fs, .slice l.wa l.ws.length l.wc]
/-- The words lie in the lane's slice, five cells each. -/
def WdsAt (w : World) (a : Option Addr) (L : List Wd) : Prop := ∀ (i : Nat) (x : Wd), L[i]? = some x → ∃ (g o : Nat), a = some ⟨g, o, none⟩ ∧ w.cell? ⟨g, o + i * 5, none⟩ = some (.int .i64 x.fr) ∧ w.cell? ⟨g, o + i * 5 + 1, none⟩ = some (.int .i64 x.ba) ∧
  w.cell? ⟨g, o + i * 5 + 2, none⟩ = some (.int .i64 x.te) ∧ w.cell? ⟨g, o + i * 5 + 3, none⟩ = some (.int .i64 x.le) ∧ w.cell? ⟨g, o + i * 5 + 4, none⟩ = some (.int .i64 x.mo)
theorem WdsAt.lo {w W : World} {a : Option Addr} {L : List Wd} (h : WdsAt w a L) (hb : Below w.heap.size w W) : WdsAt W a L := by
  intro i x hx
  obtain ⟨g, o, e, h1, h2, h3, h4, h5⟩ := h i x hx
  exact ⟨g, o, e, cell_lo hb h1, cell_lo hb h2, cell_lo hb h3, cell_lo hb h4, cell_lo hb h5⟩

set_option maxHeartbeats 1000000 in
theorem within_any (n lo hi : Int) (w : World) :
    Calls Try.prog 71 #[.int .i64 n, .int .i64 lo, .int .i64 hi] w fun e w' => e = .returned (.bool (inB n lo hi)) ∧ w = w' := by
  have HV := Lib.hid (show inB n lo hi = (decide (lo ≤ n) && decide (n ≤ hi)) from rfl)
  by_cases h1 : lo ≤ n
  · go_enter Try.func71, Try.ntmps71
    go_wp2_with fail
    go_returns
    exact ⟨by rw [HV.out]; first | (simp [h1]; done) | (simp [h1]; intro h; omega) | (simp [h1]; omega), rfl⟩
  · go_enter Try.func71, Try.ntmps71
    go_wp2_with fail
    go_returns
    exact ⟨by rw [HV.out]; first | (simp [h1]; done) | (simp [h1]; intro h; omega) | (simp [h1]; omega), rfl⟩
set_option maxHeartbeats 1000000 in
theorem refIn_any (n lo hi : Int) (w : World) :
    Calls Try.prog 66 #[.int .i64 n, .int .i64 lo, .int .i64 hi] w fun e w' => e = .returned (.bool (inB n lo hi)) ∧ w = w' := by
  have HV := Lib.hid (show inB n lo hi = (decide (lo ≤ n) && decide (n ≤ hi)) from rfl)
  by_cases h1 : lo ≤ n
  · go_enter Try.func66, Try.ntmps66
    go_wp2_with fail
    go_returns
    exact ⟨by rw [HV.out]; first | (simp [h1]; done) | (simp [h1]; intro h; omega) | (simp [h1]; omega), rfl⟩
  · go_enter Try.func66, Try.ntmps66
    go_wp2_with fail
    go_returns
    exact ⟨by rw [HV.out]; first | (simp [h1]; done) | (simp [h1]; intro h; omega) | (simp [h1]; omega), rfl⟩

def wrongW (fs : Int) (x : Wd) : Bool := !(inB x.fr 0 (fs - 1)) || (!(inB x.ba 0 1) || (!(inB x.te 0 3) || (!(inB x.le 0 x.mo) || decide (10 < x.mo))))

set_option maxRecDepth 100000 in
set_option maxHeartbeats 4000000 in
theorem wrong_any (l : Lan) (x : Wd) (w : World) (h1 : 1 ≤ l.fs) (h2 : l.fs ≤ 5) :
    Calls Try.prog 73 #[l.val, x.val] w fun e w' => e = .returned (.bool (wrongW l.fs x)) ∧ Below w.heap.size w w' := by
  have WI := Lib.hid (fun n a b W => within_any n a b W)
  obtain ⟨fr, ba, te, le, mo⟩ := x
  have HR := Lib.hid (show wrongW l.fs ⟨fr, ba, te, le, mo⟩ = (!(inB fr 0 (l.fs - 1)) || (!(inB ba 0 1) || (!(inB te 0 3) || (!(inB le 0 mo) || decide (10 < mo))))) from rfl)
  generalize wrongW l.fs ⟨fr, ba, te, le, mo⟩ = R at *
  obtain ⟨fs, wa, wc, ws⟩ := l
  unfold Lan.val Wd.val
  simp only at *
  have ew : IntKind.i64.wrap (fs - 1) = fs - 1 := IntWalk.i64_in _ (by omega)
  have B0 := Lib.hid (below_al2 (below_al w (.cells #[.int .i64 fs, .slice wa ws.length wc] 32)) (.cells #[.int .i64 fr, .int .i64 ba, .int .i64 te, .int .i64 le, .int .i64 mo] 70))
  clear h1 h2
  go_enter Try.func73, Try.ntmps73
  go_wp2_with fail
  refine (WI.out _ _ _ _).mono ?_
  rintro e w1 ⟨rfl, rfl⟩
  generalize inB fr 0 (fs - 1) = A at *
  cases A
  · go_wp2_with fail
    go_returns
    exact ⟨by rw [HR.out]; rfl, B0.out⟩
  · go_wp2_with fail
    refine (WI.out _ _ _ _).mono ?_
    rintro e w1 ⟨rfl, rfl⟩
    generalize inB ba 0 1 = B at *
    cases B
    · go_wp2_with fail
      go_returns
      exact ⟨by rw [HR.out]; rfl, B0.out⟩
    · go_wp2_with fail
      refine (WI.out _ _ _ _).mono ?_
      rintro e w1 ⟨rfl, rfl⟩
      generalize inB te 0 3 = C at *
      cases C
      · go_wp2_with fail
        go_returns
        exact ⟨by rw [HR.out]; rfl, B0.out⟩
      · go_wp2_with fail
        refine (WI.out _ _ _ _).mono ?_
        rintro e w1 ⟨rfl, rfl⟩
        generalize inB le 0 mo = D at *
        cases D
        · go_wp2_with fail
          go_returns
          exact ⟨by rw [HR.out]; rfl, B0.out⟩
        · go_wp2_with fail
          go_returns
          exact ⟨by rw [HR.out]; rfl, B0.out⟩

def IdxIs (b : Bool) (w : World) (e : Ending) (w' : World) : Prop := ∃ k : Int, e = .returned (.int .i64 k) ∧ decide (0 ≤ k) = b ∧ Below w.heap.size w w'

set_option maxRecDepth 100000 in
set_option maxHeartbeats 4000000 in
theorem idxW_any (l : Lan) (a : Option Addr) (L : List Wd) (c : Nat) (w : World) (h1 : 1 ≤ l.fs) (h2 : l.fs ≤ 5) (hL : WdsAt w a L) (hn : L.length ≤ 1000) :
    Calls Try.prog 84 #[.slice a L.length c, .func (.func 73) #[l.val] #[]] w (IdxIs (L.any (wrongW l.fs)) w) := by
  have HL := Lib.hid hL
  have CL := Lib.hid (fun x w => wrong_any l x w h1 h2)
  clear hL h1 h2
  obtain ⟨V, hV⟩ : ∃ V, V = l.val := ⟨_, rfl⟩
  rw [← hV] at CL ⊢
  clear hV
  unfold Wd.val at CL
  go_enter Try.func84, Try.ntmps84
  go_wp2_with fail
  go_loopg [8] L.length (fun g s8 wx => ∃ (i : Nat), i ≤ L.length ∧ g = L.length - i ∧ s8 = .int .i64 (i : Int) ∧ Hid ((L.take i).any (wrongW l.fs) = false) ∧ Hid (Below w.heap.size w wx))
  case atStart => exact ⟨0, by omega, rfl, rfl, Lib.hid (by simp), Lib.hid (Below.refl _ _)⟩
  case round =>
    obtain ⟨i, hi, rfl, rfl, hA, hB⟩ := hrel
    by_cases hlt : i < L.length
    · have hz0 : (0 : Int) ≤ (i : Int) := by omega
      have hz1 : (i : Int) < (L.length : Int) := by omega
      obtain ⟨x, hl⟩ : ∃ x, L[i]? = some x := ⟨L[i]'hlt, List.getElem?_eq_getElem _⟩
      obtain ⟨g, o, rfl, k1, k2, k3, k4, k5⟩ := HL.out i _ hl
      have c1 := cell_lo hB.out k1
      have c2 := cell_lo hB.out k2
      have c3 := cell_lo hB.out k3
      have c4 := cell_lo hB.out k4
      have c5 := cell_lo hB.out k5
      have hT := Lib.hid (show (L.take (i + 1)).any (wrongW l.fs) = ((L.take i).any (wrongW l.fs) || wrongW l.fs x) from by rw [List.take_add_one, hl]; simp)
      clear k1 k2 k3 k4 k5 hl
      go_wp2_with fail
      refine (CL.out x _).mono ?_
      rintro e w2 ⟨rfl, hb⟩
      have B3 := Lib.hid (below_go hB.out hb)
      clear hb c1 c2 c3 c4 c5
      cases hq : wrongW l.fs x
      · have hT2 := Lib.hid (show (L.take (i + 1)).any (wrongW l.fs) = false from by rw [hT.out, hA.out, hq]; rfl)
        clear hq
        go_wp2_with fail
        go_roundg (L.length - (i + 1))
        case measure => omega
        case rel => exact ⟨i + 1, by omega, rfl, by simp, hT2, B3⟩
      · have hT2 := Lib.hid (show L.any (wrongW l.fs) = true from by
          have h1 : (L.take (i + 1)).any (wrongW l.fs) = true := by rw [hT.out, hA.out, hq]; rfl
          rw [← List.take_append_drop (i + 1) L, List.any_append, h1]; rfl)
        clear hq
        go_wp2_with fail
        go_returns
        exact ⟨_, rfl, by rw [hT2.out]; simp, B3.out⟩
    · have hE := Lib.hid (show L.any (wrongW l.fs) = false from by
        have h1 := hA.out
        rwa [List.take_of_length_le (by omega)] at h1)
      have hz1 : ¬ (i : Int) < (L.length : Int) := by omega
      clear hlt
      go_wp2_with fail
      go_returns
      exact ⟨_, rfl, by rw [hE.out]; rfl, hB.out⟩

set_option maxHeartbeats 1000000 in
theorem containsW_any (l : Lan) (a : Option Addr) (L : List Wd) (c : Nat) (w : World) (h1 : 1 ≤ l.fs) (h2 : l.fs ≤ 5) (hL : WdsAt w a L) (hn : L.length ≤ 1000) :
    Calls Try.prog 72 #[.slice a L.length c, .func (.func 73) #[l.val] #[]] w fun e w' => e = .returned (.bool (L.any (wrongW l.fs))) ∧ Below w.heap.size w w' := by
  have CL := Lib.hid (idxW_any l a L c w h1 h2 hL hn)
  clear hL hn h1 h2
  generalize L.any (wrongW l.fs) = R at *
  generalize l.val = V at *
  go_enter Try.func72, Try.ntmps72
  go_wp2_with fail
  refine CL.out.mono ?_
  rintro e w1 ⟨k, rfl, hk, hb⟩
  have HK := Lib.hid hk; have HB := Lib.hid hb
  clear hk hb
  go_wp2_with fail
  go_ret
  exact ⟨by rw [← HK.out]; rfl, HB.out⟩

def validW (l : Lan) : Bool := inB l.fs 1 5 && !(l.ws.any (wrongW l.fs))
/-- The error of a lane. -/
def faultW (l : Lan) : Int := if 30 < l.ws.length then 3 else if validW l = true then 0 else 1

set_option maxRecDepth 100000 in
set_option maxHeartbeats 4000000 in
theorem validW_any (l : Lan) (w : World) (hL : WdsAt w l.wa l.ws) (hn : l.ws.length ≤ 1000) :
    Calls Try.prog 51 #[l.val] w fun e w' => e = .returned (.bool (validW l)) ∧ Below w.heap.size w w' := by
  have WI := Lib.hid (fun n a b W => within_any n a b W)
  have HR := Lib.hid (show validW l = (inB l.fs 1 5 && !(l.ws.any (wrongW l.fs))) from rfl)
  have HC := Lib.hid (fun W (hr : inB l.fs 1 5 = true) (hb : Below w.heap.size w W) => containsW_any l l.wa l.ws l.wc W (inB_iff.1 hr).1 (inB_iff.1 hr).2 (hL.lo hb) hn)
  generalize validW l = R at *
  generalize l.ws.any (wrongW l.fs) = X at *
  clear hL
  obtain ⟨fs, wa, wc, ws⟩ := l
  unfold Lan.val at *
  simp only at *
  have B0 := Lib.hid (below_al w (.cells #[.int .i64 fs, .slice wa ws.length wc] 32))
  go_enter Try.func51, Try.ntmps51
  go_wp2_with fail
  refine (WI.out _ _ _ _).mono ?_
  rintro e w1 ⟨rfl, rfl⟩
  have HA := HC.out
  generalize inB fs 1 5 = A at *
  cases A
  · clear HA
    go_wp2_with fail
    go_returns
    exact ⟨by rw [HR.out]; rfl, B0.out⟩
  · have HX := Lib.hid (fun W hb => HA W rfl hb)
    clear HA HC
    go_wp2_with fail
    refine (HX.out _ B0.out).mono ?_
    rintro e w1 ⟨rfl, hb⟩
    have B1 := Lib.hid (below_go B0.out hb)
    clear hb
    go_wp2_with fail
    go_returns
    exact ⟨by rw [HR.out]; first | done | rfl, B1.out⟩

set_option maxRecDepth 100000 in
set_option maxHeartbeats 4000000 in
theorem checkLane_any (l : Lan) (w : World) (hL : WdsAt w l.wa l.ws) (hn : l.ws.length ≤ 1000) :
    Calls Try.prog 19 #[l.val] w fun e w' => e = .returned (.int .i64 (faultW l)) ∧ Below w.heap.size w w' := by
  have HV := Lib.hid (fun W (hb : Below w.heap.size w W) => validW_any l W (hL.lo hb) hn)
  have HR := Lib.hid (show faultW l = if 30 < l.ws.length then 3 else if validW l = true then 0 else 1 from rfl)
  generalize faultW l = R at *
  generalize validW l = X at *
  clear hL
  obtain ⟨fs, wa, wc, ws⟩ := l
  unfold Lan.val at *
  simp only at *
  have B0 := Lib.hid (below_al w (.cells #[.int .i64 fs, .slice wa ws.length wc] 32))
  by_cases h30 : 30 < ws.length
  · have hz : (30 : Int) < (ws.length : Int) := by omega
    have HR := Lib.hid (show R = 3 by rw [HR.out, if_pos h30])
    clear h30 HV
    go_enter Try.func19, Try.ntmps19
    go_wp2_with fail
    go_returns
    exact ⟨by rw [HR.out]; first | done | rfl, B0.out⟩
  · have hz : ¬ (30 : Int) < (ws.length : Int) := by omega
    have HR := Lib.hid (show R = if X = true then 0 else 1 by rw [HR.out, if_neg h30])
    clear h30
    go_enter Try.func19, Try.ntmps19
    go_wp2_with fail
    refine (HV.out _ B0.out).mono ?_
    rintro e w1 ⟨rfl, hb⟩
    have B1 := Lib.hid (below_go B0.out hb)
    clear hb
    cases X
    · go_wp2_with fail
      go_returns
      exact ⟨by rw [HR.out]; first | done | rfl, B1.out⟩
    · go_wp2_with fail
      go_returns
      exact ⟨by rw [HR.out]; first | done | rfl, B1.out⟩

end Go.Proofs.Ytbbndcfnpfedpaa
