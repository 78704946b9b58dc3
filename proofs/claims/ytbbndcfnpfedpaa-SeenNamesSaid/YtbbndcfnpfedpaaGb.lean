/- The contracts of what tells whether a lane is valid. The contracts of what reads lists: the law's list and ints, the reference's Has and Rising, the program's rises. The contracts of the reference's Rising and Has. The contract of the reference's Fault: it is faultW. The contract of the law's Lane: the lane made anew. The contract of with: a set of tellers, some more put in. The contracts of balls, and of how many pins stood. -/
import Derived.Test.YtbbndcfnpfedpaaGa
set_option linter.unusedVariables false
set_option linter.unusedSimpArgs false

namespace Go.Proofs.Ytbbndcfnpfedpaa
open Go.RowKit

attribute [local go_sem] Oper.semAt_some

/-- A word, and a lane: its frames, and the slice of its words. -/
structure Wd where
  fr : Int
  ba : Int
  te : Int
  le : Int
  mo : Int
structure Lan where
  fs : Int
  wa : Option Addr
  wc : Nat
  ws : List Wd
def Wd.val (x : Wd) : Value := .agg #[.int .i64 x.fr, .int .i64 x.ba, .int .i64 x.te, .int .i64 x.le, .int .i64 x.mo]
def Lan.val (l : Lan) : Value := .agg #[.int .i64 l.fs, .slice l.wa l.ws.length l.wc]
/-- The words lie in the lane's slice, five cells each. -/
def WdsAt (w : World) (a : Option Addr) (L : List Wd) : Prop := ∀ (i : Nat) (x : Wd), L[i]? = some x → ∃ (g o : Nat), a = some ⟨g, o, none⟩ ∧ w.cell? ⟨g, o + i * 5, none⟩ = some (.int .i64 x.fr) ∧ w.cell? ⟨g, o + i * 5 + 1, none⟩ = some (.int .i64 x.ba) ∧
  w.cell? ⟨g, o + i * 5 + 2, none⟩ = some (.int .i64 x.te) ∧ w.cell? ⟨g, o + i * 5 + 3, none⟩ = some (.int .i64 x.le) ∧ w.cell? ⟨g, o + i * 5 + 4, none⟩ = some (.int .i64 x.mo)
theorem WdsAt.lo {w W : World} {a : Option Addr} {L : List Wd} (h : WdsAt w a L) (hb : Below w.heap.size w W) : WdsAt W a L := by
  intro i x hx
  obtain ⟨g, o, e, h1, h2, h3, h4, h5⟩ := h i x hx
  exact ⟨g, o, e, cell_lo hb h1, cell_lo hb h2, cell_lo hb h3, cell_lo hb h4, cell_lo hb h5⟩

set_option maxHeartbeats 1000000 in
theorem within_any (n lo hi : Int) (w : World) :
    Calls Try.prog 71 #[.int .i64 n, .int .i64 lo, .int .i64 hi] w fun e w' => e = .returned (.bool (inB n lo hi)) ∧ w = w' := by
  have HV := Lib.hid (show inB n lo hi = (decide (lo ≤ n) && decide (n ≤ hi)) from rfl)
  by_cases h1 : lo ≤ n
  · go_enter Try.func71, Try.ntmps71
    go_wp2_with fail
    go_returns
    exact ⟨by rw [HV.out]; first | (simp [h1]; done) | (simp [h1]; intro h; omega) | (simp [h1]; omega), rfl⟩
  · go_enter Try.func71, Try.ntmps71
    go_wp2_with fail
    go_returns
    exact ⟨by rw [HV.out]; first | (simp [h1]; done) | (simp [h1]; intro h; omega) | (simp [h1]; omega), rfl⟩
set_option maxHeartbeats 1000000 in
theorem refIn_any (n lo hi : Int) (w : World) :
    Calls Try.prog 66 #[.int .i64 n, .int .i64 lo, .int .i64 hi] w fun e w' => e = .returned (.bool (inB n lo hi)) ∧ w = w' := by
  have HV := Lib.hid (show inB n lo hi = (decide (lo ≤ n) && decide (n ≤ hi)) from rfl)
  by_cases h1 : lo ≤ n
  · go_enter Try.func66, Try.ntmps66
    go_wp2_with fail
    go_returns
    exact ⟨by rw [HV.out]; first | (simp [h1]; done) | (simp [h1]; intro h; omega) | (simp [h1]; omega), rfl⟩
  · go_enter Try.func66, Try.ntmps66
    go_wp2_with fail
    go_returns
    exact ⟨by rw [HV.out]; first | (simp [h1]; done) | (simp [h1]; intro h; omega) | (simp [h1]; omega), rfl⟩

def wrongW (fs : Int) (x : Wd) : Bool := !(inB x.fr 0 (fs - 1)) || (!(inB x.ba 0 1) || (!(inB x.te 0 3) || (!(inB x.le 0 x.mo) || decide (10 < x.mo))))

set_option maxRecDepth 100000 in
set_option maxHeartbeats 4000000 in
theorem wrong_any (l : Lan) (x : Wd) (w : World) (h1 : 1 ≤ l.fs) (h2 : l.fs ≤ 5) :
    Calls Try.prog 73 #[l.val, x.val] w fun e w' => e = .returned (.bool (wrongW l.fs x)) ∧ Below w.heap.size w w' := by
  have WI := Lib.hid (fun n a b W => within_any n a b W)
  obtain ⟨fr, ba, te, le, mo⟩ := x
  have HR := Lib.hid (show wrongW l.fs ⟨fr, ba, te, le, mo⟩ = (!(inB fr 0 (l.fs - 1)) || (!(inB ba 0 1) || (!(inB te 0 3) || (!(inB le 0 mo) || decide (10 < mo))))) from rfl)
  generalize wrongW l.fs ⟨fr, ba, te, le, mo⟩ = R at *
  obtain ⟨fs, wa, wc, ws⟩ := l
  unfold Lan.val Wd.val
  simp only at *
  have ew : IntKind.i64.wrap (fs - 1) = fs - 1 := IntWalk.i64_in _ (by omega)
  have B0 := Lib.hid (below_al2 (below_al w (.cells #[.int .i64 fs, .slice wa ws.length wc] 32)) (.cells #[.int .i64 fr, .int .i64 ba, .int .i64 te, .int .i64 le, .int .i64 mo] 70))
  clear h1 h2
  go_enter Try.func73, Try.ntmps73
  go_wp2_with fail
  refine (WI.out _ _ _ _).mono ?_
  rintro e w1 ⟨rfl, rfl⟩
  generalize inB fr 0 (fs - 1) = A at *
  cases A
  · go_wp2_with fail
    go_returns
    exact ⟨by rw [HR.out]; rfl, B0.out⟩
  · go_wp2_with fail
    refine (WI.out _ _ _ _).mono ?_
    rintro e w1 ⟨rfl, rfl⟩
    generalize inB ba 0 1 = B at *
    cases B
    · go_wp2_with fail
      go_returns
      exact ⟨by rw [HR.out]; rfl, B0.out⟩
    · go_wp2_with fail
      refine (WI.out _ _ _ _).mono ?_
      rintro e w1 ⟨rfl, rfl⟩
      generalize inB te 0 3 = C at *
      cases C
      · go_wp2_with fail
        go_returns
        exact ⟨by rw [HR.out]; rfl, B0.out⟩
      · go_wp2_with fail
        refine (WI.out _ _ _ _).mono ?_
        rintro e w1 ⟨rfl, rfl⟩
        generalize inB le 0 mo = D at *
        cases D
        · go_wp2_with fail
          go_returns
          exact ⟨by rw [HR.out]; rfl, B0.out⟩
        · go_wp2_with fail
          go_returns
          exact ⟨by rw [HR.out]; rfl, B0.out⟩

def IdxIs (b : Bool) (w : World) (e : Ending) (w' : World) : Prop := ∃ k : Int, e = .returned (.int .i64 k) ∧ decide (0 ≤ k) = b ∧ Below w.heap.size w w'

set_option maxRecDepth 100000 in
set_option maxHeartbeats 4000000 in
theorem idxW_any (l : Lan) (a : Option Addr) (L : List Wd) (c : Nat) (w : World) (h1 : 1 ≤ l.fs) (h2 : l.fs ≤ 5) (hL : WdsAt w a L) (hn : L.length ≤ 1000) :
    Calls Try.prog 84 #[.slice a L.length c, .func (.func 73) #[l.val] #[]] w (IdxIs (L.any (wrongW l.fs)) w) := by
  have HL := Lib.hid hL
  have CL := Lib.hid (fun x w => wrong_any l x w h1 h2)
  clear hL h1 h2
  obtain ⟨V, hV⟩ : ∃ V, V = l.val := ⟨_, rfl⟩
  rw [← hV] at CL ⊢
  clear hV
  unfold Wd.val at CL
  go_enter Try.func84, Try.ntmps84
  go_wp2_with fail
  go_loopg [8] L.length (fun g s8 wx => ∃ (i : Nat), i ≤ L.length ∧ g = L.length - i ∧ s8 = .int .i64 (i : Int) ∧ Hid ((L.take i).any (wrongW l.fs) = false) ∧ Hid (Below w.heap.size w wx))
  case atStart => exact ⟨0, by omega, rfl, rfl, Lib.hid (by simp), Lib.hid (Below.refl _ _)⟩
  case round =>
    obtain ⟨i, hi, rfl, rfl, hA, hB⟩ := hrel
    by_cases hlt : i < L.length
    · have hz0 : (0 : Int) ≤ (i : Int) := by omega
      have hz1 : (i : Int) < (L.length : Int) := by omega
      obtain ⟨x, hl⟩ : ∃ x, L[i]? = some x := ⟨L[i]'hlt, List.getElem?_eq_getElem _⟩
      obtain ⟨g, o, rfl, k1, k2, k3, k4, k5⟩ := HL.out i _ hl
      have c1 := cell_lo hB.out k1
      have c2 := cell_lo hB.out k2
      have c3 := cell_lo hB.out k3
      have c4 := cell_lo hB.out k4
      have c5 := cell_lo hB.out k5
      have hT := Lib.hid (show (L.take (i + 1)).any (wrongW l.fs) = ((L.take i).any (wrongW l.fs) || wrongW l.fs x) from by rw [List.take_add_one, hl]; simp)
      clear k1 k2 k3 k4 k5 hl
      go_wp2_with fail
      refine (CL.out x _).mono ?_
      rintro e w2 ⟨rfl, hb⟩
      have B3 := Lib.hid (below_go hB.out hb)
      clear hb c1 c2 c3 c4 c5
      cases hq : wrongW l.fs x
      · have hT2 := Lib.hid (show (L.take (i + 1)).any (wrongW l.fs) = false from by rw [hT.out, hA.out, hq]; rfl)
        clear hq
        go_wp2_with fail
        go_roundg (L.length - (i + 1))
        case measure => omega
        case rel => exact ⟨i + 1, by omega, rfl, by simp, hT2, B3⟩
      · have hT2 := Lib.hid (show L.any (wrongW l.fs) = true from by
          have h1 : (L.take (i + 1)).any (wrongW l.fs) = true := by rw [hT.out, hA.out, hq]; rfl
          rw [← List.take_append_drop (i + 1) L, List.any_append, h1]; rfl)
        clear hq
        go_wp2_with fail
        go_returns
        exact ⟨_, rfl, by rw [hT2.out]; simp, B3.out⟩
    · have hE := Lib.hid (show L.any (wrongW l.fs) = false from by
        have h1 := hA.out
        rwa [List.take_of_length_le (by omega)] at h1)
      have hz1 : ¬ (i : Int) < (L.length : Int) := by omega
      clear hlt
      go_wp2_with fail
      go_returns
      exact ⟨_, rfl, by rw [hE.out]; rfl, hB.out⟩

set_option maxHeartbeats 1000000 in
theorem containsW_any (l : Lan) (a : Option Addr) (L : List Wd) (c : Nat) (w : World) (h1 : 1 ≤ l.fs) (h2 : l.fs ≤ 5) (hL : WdsAt w a L) (hn : L.length ≤ 1000) :
    Calls Try.prog 72 #[.slice a L.length c, .func (.func 73) #[l.val] #[]] w fun e w' => e = .returned (.bool (L.any (wrongW l.fs))) ∧ Below w.heap.size w w' := by
  have CL := Lib.hid (idxW_any l a L c w h1 h2 hL hn)
  clear hL hn h1 h2
  generalize L.any (wrongW l.fs) = R at *
  generalize l.val = V at *
  go_enter Try.func72, Try.ntmps72
  go_wp2_with fail
  refine CL.out.mono ?_
  rintro e w1 ⟨k, rfl, hk, hb⟩
  have HK := Lib.hid hk; have HB := Lib.hid hb
  clear hk hb
  go_wp2_with fail
  go_ret
  exact ⟨by rw [← HK.out]; rfl, HB.out⟩

def validW (l : Lan) : Bool := inB l.fs 1 5 && !(l.ws.any (wrongW l.fs))
/-- The error of a lane. -/
def faultW (l : Lan) : Int := if 30 < l.ws.length then 3 else if validW l = true then 0 else 1

set_option maxRecDepth 100000 in
set_option maxHeartbeats 4000000 in
theorem validW_any (l : Lan) (w : World) (hL : WdsAt w l.wa l.ws) (hn : l.ws.length ≤ 1000) :
    Calls Try.prog 51 #[l.val] w fun e w' => e = .returned (.bool (validW l)) ∧ Below w.heap.size w w' := by
  have WI := Lib.hid (fun n a b W => within_any n a b W)
  have HR := Lib.hid (show validW l = (inB l.fs 1 5 && !(l.ws.any (wrongW l.fs))) from rfl)
  have HC := Lib.hid (fun W (hr : inB l.fs 1 5 = true) (hb : Below w.heap.size w W) => containsW_any l l.wa l.ws l.wc W (inB_iff.1 hr).1 (inB_iff.1 hr).2 (hL.lo hb) hn)
  generalize validW l = R at *
  generalize l.ws.any (wrongW l.fs) = X at *
  clear hL
  obtain ⟨fs, wa, wc, ws⟩ := l
  unfold Lan.val at *
  simp only at *
  have B0 := Lib.hid (below_al w (.cells #[.int .i64 fs, .slice wa ws.length wc] 32))
  go_enter Try.func51, Try.ntmps51
  go_wp2_with fail
  refine (WI.out _ _ _ _).mono ?_
  rintro e w1 ⟨rfl, rfl⟩
  have HA := HC.out
  generalize inB fs 1 5 = A at *
  cases A
  · clear HA
    go_wp2_with fail
    go_returns
    exact ⟨by rw [HR.out]; rfl, B0.out⟩
  · have HX := Lib.hid (fun W hb => HA W rfl hb)
    clear HA HC
    go_wp2_with fail
    refine (HX.out _ B0.out).mono ?_
    rintro e w1 ⟨rfl, hb⟩
    have B1 := Lib.hid (below_go B0.out hb)
    clear hb
    go_wp2_with fail
    go_returns
    exact ⟨by rw [HR.out]; first | done | rfl, B1.out⟩

set_option maxRecDepth 100000 in
set_option maxHeartbeats 4000000 in
theorem checkLane_any (l : Lan) (w : World) (hL : WdsAt w l.wa l.ws) (hn : l.ws.length ≤ 1000) :
    Calls Try.prog 19 #[l.val] w fun e w' => e = .returned (.int .i64 (faultW l)) ∧ Below w.heap.size w w' := by
  have HV := Lib.hid (fun W (hb : Below w.heap.size w W) => validW_any l W (hL.lo hb) hn)
  have HR := Lib.hid (show faultW l = if 30 < l.ws.length then 3 else if validW l = true then 0 else 1 from rfl)
  generalize faultW l = R at *
  generalize validW l = X at *
  clear hL
  obtain ⟨fs, wa, wc, ws⟩ := l
  unfold Lan.val at *
  simp only at *
  have B0 := Lib.hid (below_al w (.cells #[.int .i64 fs, .slice wa ws.length wc] 32))
  by_cases h30 : 30 < ws.length
  · have hz : (30 : Int) < (ws.length : Int) := by omega
    have HR := Lib.hid (show R = 3 by rw [HR.out, if_pos h30])
    clear h30 HV
    go_enter Try.func19, Try.ntmps19
    go_wp2_with fail
    go_returns
    exact ⟨by rw [HR.out]; first | done | rfl, B0.out⟩
  · have hz : ¬ (30 : Int) < (ws.length : Int) := by omega
    have HR := Lib.hid (show R = if X = true then 0 else 1 by rw [HR.out, if_neg h30])
    clear h30
    go_enter Try.func19, Try.ntmps19
    go_wp2_with fail
    refine (HV.out _ B0.out).mono ?_
    rintro e w1 ⟨rfl, hb⟩
    have B1 := Lib.hid (below_go B0.out hb)
    clear hb
    cases X
    · go_wp2_with fail
      go_returns
      exact ⟨by rw [HR.out]; first | done | rfl, B1.out⟩
    · go_wp2_with fail
      go_returns
      exact ⟨by rw [HR.out]; first | done | rfl, B1.out⟩

end Go.Proofs.Ytbbndcfnpfedpaa

namespace Go.Proofs.Ytbbndcfnpfedpaa
open Go.RowKit

attribute [local go_sem] Oper.semAt_some

def riseB (xs : List Int) : Bool := decide (xs.Pairwise (· < ·))

theorem rise_step {xs : List Int} {j : Nat} {x y : Int} (hp : (xs.take (j + 1)).Pairwise (· < ·)) (hx : xs[j]? = some x) (hy : xs[j + 1]? = some y) (h : x < y) : (xs.take (j + 2)).Pairwise (· < ·) := by
  have e1 : xs.take (j + 2) = xs.take (j + 1) ++ [y] := by rw [List.take_add_one, hy]; rfl
  have e2 : xs.take (j + 1) = xs.take j ++ [x] := by rw [List.take_add_one, hx]; rfl
  rw [e1, List.pairwise_append]
  refine ⟨hp, by simp, fun a ha b hb => ?_⟩
  obtain rfl : b = y := by simpa using hb
  rw [e2] at hp ha
  rw [List.pairwise_append] at hp
  rcases List.mem_append.1 ha with h1 | h1
  · have := hp.2.2 a h1 x (by simp); omega
  · obtain rfl : a = x := by simpa using h1
    exact h
theorem rise_not {xs : List Int} {j : Nat} {x y : Int} (hx : xs[j]? = some x) (hy : xs[j + 1]? = some y) (h : ¬ x < y) : riseB xs = false := by
  unfold riseB
  rw [decide_eq_false]
  intro hp
  rw [List.pairwise_iff_getElem] at hp
  obtain ⟨h1, e1⟩ := List.getElem?_eq_some_iff.1 hx
  obtain ⟨h2, e2⟩ := List.getElem?_eq_some_iff.1 hy
  have := hp j (j + 1) h1 h2 (by omega)
  rw [e1, e2] at this
  exact h this

theorem dN_ex (w : World) (n m : Nat) : ∃ k, (w.drewN n).drewN m = w.drewN k := ⟨n + m, by simp [World.drewN, Nat.add_assoc]⟩


theorem info3 : (Try.prog.info? 3).map (fun i => (i.zero, i.size, i.bytes)) = some (some (.int .i64 0), 1, 8) := by kernel_rfl
theorem own_new0 (w : World) : (w.alloc (.cells #[] 3)).ownsRow w.heap.size 3 1 (.slice (some ⟨w.heap.size, 0, none⟩) 0 0) 0 [] :=
  ⟨rfl, .inr ⟨w.heap.size, 0, #[], rfl, Nat.le_refl _, Blk.new w #[] 3, Nat.le_refl _, by unfold maxLen; omega, rfl, rfl⟩⟩

set_option maxRecDepth 100000 in
set_option maxHeartbeats 2000000 in
theorem lawlist_any (bs : List Int) (a : Option Addr) (c : Nat) (w : World) (hs : IntsAt w a bs) (h0 : a = none → bs = [] ∧ c = 0) (hn : bs.length ≤ 1000) :
    Calls Try.prog 22 #[.slice a bs.length c] w fun e w' => ∃ v, e = .returned v ∧ w'.ownsRow w.heap.size 3 1 v bs.length (bs.map (Value.int .i64)) ∧ Below w.heap.size w w' := by
  have HS := Lib.hid hs
  have H0 := Lib.hid h0
  clear hs h0
  obtain ⟨i3, hi3, hy0, hy1, hy2⟩ := info_parts info3
  have O1 := Lib.hid (own_new0 w)
  have B1 := Lib.hid (below_al w (.cells #[] 3))
  cases a with
  | none =>
    obtain ⟨rfl, rfl⟩ := H0.out rfl
    simp only [List.length_nil]
    go_enter Try.func22, Try.ntmps22
    go_wp2_with (at_builtin; refine wpList_append_none _ rfl _ _ 25 rfl w.heap.size 3 i3 1 Try.underlying25 hi3 _ _ _ rfl O1.out rfl ?_)
    go_returns
    exact ⟨_, rfl, O1.out, B1.out⟩
  | some ad =>
    have hnews : ∀ j u, (bs.map (Value.int .i64))[j]? = some u → (w.alloc (.cells #[] 3)).cell? (ad.add j) = some u := by
      intro j u hj
      rw [List.getElem?_map] at hj
      cases hx : bs[j]? with
      | none => rw [hx] at hj; cases hj
      | some x =>
        rw [hx] at hj
        cases hj
        obtain ⟨g', o', e, hc⟩ := HS.out j x hx
        cases e
        have e : (⟨g', o', none⟩ : Addr).add j = ⟨g', o' + j, none⟩ := by unfold Addr.add; split <;> simp_all
        rw [e]
        exact cell_lo B1.out hc
    go_enter Try.func22, Try.ntmps22
    go_wp2_with (at_builtin; go_must (refine wpList_append_own_at _ rfl _ _ 25 rfl w.heap.size 3 i3 (.int .i64 0) 1 8 Try.underlying25 hi3 hy0 hy1 hy2 rfl (by decide) _ _ _ rfl O1.out ad bs.length c (bs.map (Value.int .i64)) rfl (by simp) hnews (by simp [Value.oneCell']) (by unfold maxLen; omega) (by omega) (by simp) ?_); intro v' w1 hown' hgrow hnil hloc; have ho1 := Lib.hid hown'; have hB1 := Lib.hid (below_own B1.out O1.out hgrow); clear hown' hgrow hnil hloc)
    go_returns
    exact ⟨v', rfl, by have := ho1.out; rwa [Nat.zero_add, List.nil_append] at this, hB1.out⟩


theorem grown_drewN {w w' : World} {row : Option Nat} (h : w.grownBy w' row) (n : Nat) : w.grownBy (w'.drewN n) row := by
  cases n <;> exact ⟨h.os, h.tape, h.output, h.size, h.block⟩

set_option maxRecDepth 100000 in
set_option maxHeartbeats 2000000 in
theorem ints_any (xs ys : List Int) (a b : Option Addr) (c d : Nat) (w : World) (hs : IntsAt w a xs) (ht : IntsAt w b ys) (hn : xs.length ≤ 1000) (hm : ys.length ≤ 1000) :
    Calls Try.prog 34 #[.slice a xs.length c, .slice b ys.length d] w fun e w' => e = .returned (.bool (decide (xs = ys))) ∧ Hid (w.grownBy w' none) := by
  have HS := Lib.hid hs
  have HT := Lib.hid ht
  clear hs ht
  by_cases hl : xs.length = ys.length
  · have hl1 : ((xs.length : Int) == (ys.length : Int)) = true := by simp [hl]
    have HL := Lib.hid hl
    clear hl
    go_enter Try.func34, Try.ntmps34
    go_wp2_with fail
    have hne : ((xs.length : Int) != (ys.length : Int)) = false := by simp [HL.out]
    simp only [hne]
    clear hl1
    go_loopw [5] (fun i wr => ∃ k : Nat, k ≤ xs.length ∧ i = .int .i64 k ∧ Hid (xs.take k = ys.take k) ∧ Hid (w.grownBy wr none)) (fun i _ => xs.length - (intOf i).toNat)
    case atStart => exact ⟨0, by omega, rfl, Lib.hid (by simp), Lib.hid (World.grownBy.refl w none)⟩
    case round =>
      obtain ⟨k, hk, rfl, hE, hg⟩ := hrel
      by_cases hlt : k < xs.length
      · obtain ⟨x, hx⟩ : ∃ x, Hid (xs[k]? = some x) := ⟨xs[k]'hlt, Lib.hid (List.getElem?_eq_getElem _)⟩
        obtain ⟨y, hy⟩ : ∃ y, Hid (ys[k]? = some y) := ⟨ys[k]'(by have := HL.out; omega), Lib.hid (List.getElem?_eq_getElem _)⟩
        obtain ⟨g, o, rfl, hc⟩ := HS.out k x hx.out
        obtain ⟨g', o', rfl, hc'⟩ := HT.out k y hy.out
        have cA := hg.out.cell hc (fun e => by cases e)
        have cB := hg.out.cell hc' (fun e => by cases e)
        have hlt1 : (k : Int) < (xs.length : Int) := by omega
        have hlt2 : (k : Int) < (ys.length : Int) := by have := HL.out; omega
        have hk0 : (0 : Int) ≤ (k : Int) := by omega
        have e2 : IntKind.i64.wrap ((k : Int) + 1) = (k : Int) + 1 := IntWalk.i64_in _ (by omega)
        clear hc hc'
        by_cases hxy : x = y
        · have hb : (x == y) = true := by simpa using hxy
          go_wp2
          go_still_tail 8, (by kernel_rfl)
          go_wp2_with fail
          have hn := Lib.hid (show xs.take (k + 1) = ys.take (k + 1) from by rw [List.take_add_one, List.take_add_one, hx.out, hy.out, hE.out, hxy])
          have hg2 := Lib.hid (grown_drewN hg.out 1)
          go_roundw
          case rel => first | exact ⟨k + 1, by omega, by simp, hn, hg2⟩ | ((repeat apply Exists.intro); exact ⟨⟨k + 1, by omega, by simp, hn, hg2⟩, rfl⟩)
          case measure => simp [intOf]; omega
        · have hb : (x == y) = false := by simpa using hxy
          have hD := Lib.hid (show decide (xs = ys) = false from by simp; intro h; apply hxy; have h1 := hx.out; have h2 := hy.out; rw [h, h2] at h1; cases h1; rfl)
          have hg2 := Lib.hid (grown_drewN hg.out 1)
          clear hxy
          go_wp2
          go_still_tail 8, (by kernel_rfl)
          go_wp2_with fail
          go_returns
          exact ⟨by rw [hD.out]; first | done | rfl, hg2⟩
      · have hD := Lib.hid (show decide (xs = ys) = true from by
          have h1 := hE.out
          have h2 := HL.out
          rw [show k = xs.length from by omega, List.take_length, h2, List.take_length] at h1
          simp [h1])
        have hlt1 : ¬ (k : Int) < (xs.length : Int) := by omega
        clear hlt
        go_wp2_with fail
        go_returns
        exact ⟨by rw [hD.out]; first | done | rfl, hg⟩
  · have hl1 : ((xs.length : Int) == (ys.length : Int)) = false := by simpa using fun h => hl (by omega)
    have hE := Lib.hid (show decide (xs = ys) = false from by simp; intro h; exact hl (by rw [h]))
    clear hl
    go_enter Try.func34, Try.ntmps34
    go_wp2_with fail
    go_returns
    exact ⟨by rw [hE.out]; first | done | rfl, Lib.hid (World.grownBy.refl w none)⟩

theorem ints_lo {w w' : World} (h : w.grownBy w' none) : Below w.heap.size w w' := ((Alt.refl (fun k => w.heap.size ≤ k) w).grown h (fun k e => by cases e)).below (Nat.le_refl _) fun _ h => h


/-- A rising list of numbers within bounds. -/
def riseIn (lo hi : Int) (xs : List Int) : Bool := riseB xs && xs.all fun x => inB x lo hi
theorem riseIn_step {lo hi : Int} {xs : List Int} (h1 : xs.Pairwise (· < ·)) (h2 : ∀ x ∈ xs, inB x lo hi = true) : riseIn lo hi xs = true := by
  unfold riseIn riseB
  simp only [h1, decide_true, Bool.true_and, List.all_eq_true]
  exact h2
theorem riseIn_not {lo hi : Int} {xs : List Int} (h : riseB xs = false) : riseIn lo hi xs = false := by unfold riseIn; rw [h]; rfl
theorem riseIn_out {lo hi : Int} {xs : List Int} {x : Int} (hx : x ∈ xs) (h : inB x lo hi = false) : riseIn lo hi xs = false := by
  unfold riseIn
  cases hr : riseB xs
  · rfl
  · simp only [Bool.true_and, List.all_eq_false]
    exact ⟨x, hx, by simp [h]⟩

set_option maxRecDepth 100000 in
set_option maxHeartbeats 4000000 in
theorem rises_any (xs : List Int) (lo hi : Int) (a : Option Addr) (c : Nat) (w : World) (hX : IntsAt w a xs) (hn : xs.length ≤ 1000) :
    Calls Try.prog 74 #[.slice a xs.length c, .int .i64 lo, .int .i64 hi] w fun e w' => e = .returned (.bool (riseIn lo hi xs)) ∧ Below w.heap.size w w' := by
  have HIN : Hid (xs.Pairwise (· < ·) → (∀ x ∈ xs, inB x lo hi = true) → riseIn lo hi xs = true) := Lib.hid riseIn_step
  have HOUT : Hid (∀ x ∈ xs, inB x lo hi = false → riseIn lo hi xs = false) := Lib.hid fun x => riseIn_out
  have HR : Hid (riseB xs = false → riseIn lo hi xs = false) := Lib.hid riseIn_not
  have HX := Lib.hid hX
  have B0 := Lib.hid (Below.refl w.heap.size w)
  generalize riseIn lo hi xs = RES at *
  clear hX
  go_enter Try.func74, Try.ntmps74
  go_wp2_with fail
  go_loopg [11] xs.length (fun g s5 wx => ∃ (i : Nat), i ≤ xs.length ∧ g = xs.length - i ∧ s5 = .int .i64 (i : Int) ∧ Hid ((xs.take i).Pairwise (· < ·) ∧ ∀ x ∈ xs.take i, inB x lo hi = true) ∧ Hid (Below w.heap.size w wx))
  case atStart => exact ⟨0, by omega, by omega, rfl, Lib.hid (by simp), B0⟩
  case round =>
    obtain ⟨i, hi', rfl, rfl, hP, hB⟩ := hrel
    clear B0
    by_cases hlt : i < xs.length
    · obtain ⟨x, hx⟩ : ∃ x, xs[i]? = some x := ⟨xs[i]'hlt, List.getElem?_eq_getElem _⟩
      obtain ⟨g, o, rfl, k1⟩ := HX.out _ _ hx
      have hz0 : (0 : Int) ≤ (i : Int) := by omega
      have hz1 : (i : Int) < (xs.length : Int) := by omega
      have q0 := cell_lo hB.out k1
      have HXI := Lib.hid hx
      clear hx k1
      cases hq : inB x lo hi
      · have HF := Lib.hid (HOUT.out x (List.mem_of_getElem? HXI.out) hq)
        unfold inB at hq
        by_cases hlo : x < lo
        · clear hq
          go_wp2_with fail
          go_returns
          exact ⟨by rw [HF.out]; first | done | rfl, hB.out⟩
        · have hhi : hi < x := by
            simp only [Bool.and_eq_false_iff, decide_eq_false_iff_not] at hq
            omega
          clear hq
          go_wp2_with fail
          go_returns
          exact ⟨by rw [HF.out]; first | done | rfl, hB.out⟩
      · have hxb := inB_iff.1 hq
        have hlo : ¬ x < lo := by omega
        have hhi : ¬ hi < x := by omega
        have HQ := Lib.hid hq
        clear hq hxb
        cases i with
        | zero =>
          have P2 : Hid ((xs.take (0 + 1)).Pairwise (· < ·) ∧ ∀ x ∈ xs.take (0 + 1), inB x lo hi = true) := Lib.hid (by
            rw [List.take_add_one, HXI.out]
            refine ⟨by simp, fun y hy => ?_⟩
            obtain rfl : y = x := by simpa using hy
            exact HQ.out)
          have z00 : ((0 : Nat) : Int) = 0 := rfl
          rw [z00] at hz1 ⊢
          simp only [Nat.add_zero] at q0
          clear hz0 z00
          go_wp2_with fail
          go_roundg (xs.length - 1)
          case measure => omega
          case rel => exact ⟨1, by omega, by omega, by first | rfl | simp, P2, hB⟩
        | succ j =>
          obtain ⟨y, hy⟩ : ∃ y, xs[j]? = some y := ⟨xs[j]'(by omega), List.getElem?_eq_getElem _⟩
          obtain ⟨g', o', he, k2⟩ := HX.out _ _ hy
          obtain ⟨rfl, rfl⟩ : g = g' ∧ o = o' := by simpa using he
          have y0 := cell_lo hB.out k2
          have HYI := Lib.hid hy
          have cj : ((j + 1 : Nat) : Int) = (j : Int) + 1 := by omega
          rw [cj] at hz0 hz1 ⊢
          have hj0 : (0 : Int) ≤ (j : Int) := by omega
          have hj1 : (j : Int) < (xs.length : Int) := by omega
          have hjp : (0 : Int) < (j : Int) + 1 := by omega
          have ewj : IntKind.i64.wrap ((j : Int) + 1 - 1) = (j : Int) := by rw [IntWalk.i64_in _ (by omega)]; omega
          have et : ((j : Int) + 1).toNat = j + 1 := by omega
          have ew2 : IntKind.i64.wrap ((j : Int) + 1 + 1) = (j : Int) + 1 + 1 := IntWalk.i64_in _ (by omega)
          clear hy he k2 cj
          by_cases hxy : y < x
          · have hle : decide (x ≤ y) = false := by simpa using hxy
            have P2 : Hid ((xs.take (j + 1 + 1)).Pairwise (· < ·) ∧ ∀ x ∈ xs.take (j + 1 + 1), inB x lo hi = true) := Lib.hid ⟨rise_step hP.out.1 HYI.out HXI.out hxy, fun z hz => by
              rw [List.take_add_one, HXI.out] at hz
              rcases List.mem_append.1 hz with h | h
              · exact hP.out.2 z h
              · obtain rfl : z = x := by simpa using h
                exact HQ.out⟩
            clear hP
            go_wp2_with fail
            go_roundg (xs.length - (j + 1 + 1))
            case measure => omega
            case rel => exact ⟨j + 1 + 1, by omega, rfl, by simp, P2, hB⟩
          · have hle : decide (x ≤ y) = true := by simpa using hxy
            have HF := Lib.hid (HR.out (rise_not HYI.out HXI.out hxy))
            clear hP
            go_wp2_with fail
            go_returns
            exact ⟨by rw [HF.out]; first | done | rfl, hB.out⟩
    · have hz1 : ¬ (i : Int) < (xs.length : Int) := by omega
      have HF : Hid (RES = true) := Lib.hid (by
        have := hP.out
        rw [List.take_of_length_le (by omega)] at this
        exact HIN.out this.1 this.2)
      clear hP hlt
      go_wp2_with fail
      go_returns
      exact ⟨by rw [HF.out]; first | done | rfl, hB.out⟩

end Go.Proofs.Ytbbndcfnpfedpaa

namespace Go.Proofs.Ytbbndcfnpfedpaa
open Go.RowKit

attribute [local go_sem] Oper.semAt_some

set_option maxRecDepth 100000 in
set_option maxHeartbeats 4000000 in
theorem refRising_any (xs : List Int) (a : Option Addr) (c : Nat) (w : World) (hX : IntsAt w a xs) (hn : xs.length ≤ 1000) :
    Calls Try.prog 55 #[.slice a xs.length c] w fun e w' => e = .returned (.bool (riseIn 0 3 xs)) ∧ Below w.heap.size w w' := by
  have HIN : Hid (xs.Pairwise (· < ·) → (∀ x ∈ xs, inB x 0 3 = true) → riseIn 0 3 xs = true) := Lib.hid riseIn_step
  have HOUT : Hid (∀ x ∈ xs, inB x 0 3 = false → riseIn 0 3 xs = false) := Lib.hid fun x => riseIn_out
  have HR : Hid (riseB xs = false → riseIn 0 3 xs = false) := Lib.hid riseIn_not
  have HX := Lib.hid hX
  have IN := Lib.hid (fun x W => refIn_any x 0 3 W)
  have B0 := Lib.hid (Below.refl w.heap.size w)
  generalize riseIn 0 3 xs = RES at *
  clear hX
  go_enter Try.func55, Try.ntmps55
  go_wp2_with fail
  go_loopg [3] xs.length (fun g s5 wx => ∃ (i : Nat), i ≤ xs.length ∧ g = xs.length - i ∧ s5 = .int .i64 (i : Int) ∧ Hid ((xs.take i).Pairwise (· < ·) ∧ ∀ x ∈ xs.take i, inB x 0 3 = true) ∧ Hid (Below w.heap.size w wx))
  case atStart => exact ⟨0, by omega, by omega, rfl, Lib.hid (by simp), B0⟩
  case round =>
    obtain ⟨i, hi', rfl, rfl, hP, hB⟩ := hrel
    clear B0
    by_cases hlt : i < xs.length
    · obtain ⟨x, hx⟩ : ∃ x, xs[i]? = some x := ⟨xs[i]'hlt, List.getElem?_eq_getElem _⟩
      obtain ⟨g, o, rfl, k1⟩ := HX.out _ _ hx
      have hz0 : (0 : Int) ≤ (i : Int) := by omega
      have hz1 : (i : Int) < (xs.length : Int) := by omega
      have q0 := fun u : Late wr => u.cell (cell_lo hB.out k1) (cell_lt (cell_lo hB.out k1))
      have INx := Lib.hid (IN.out x)
      have HXI := Lib.hid hx
      clear hx k1
      cases hq : inB x 0 3
      · have HF := Lib.hid (HOUT.out x (List.mem_of_getElem? HXI.out) hq)
        rw [hq] at INx
        clear hq
        go_wp2_with fail
        refine wp_region_late wr (Below.refl _ _) (by kernel_rfl) (by kernel_rfl) ?_
        repeat (go_big_quiet_step ((go_at_call 66; exact Calls.late_same (INx.out _))))
        refine wpQuiet_nil ?_
        intro _ hw'
        obtain ⟨uq, hw''⟩ := hw'
        subst hw''
        have BU := Lib.hid (below_go hB.out uq.b)
        clear q0
        go_wp2_with fail
        go_returns
        exact ⟨by rw [HF.out]; first | done | rfl, BU.out⟩
      · have hxb := inB_iff.1 hq
        have HQ := Lib.hid hq
        rw [hq] at INx
        clear hq hxb
        cases i with
        | zero =>
          have P2 : Hid ((xs.take (0 + 1)).Pairwise (· < ·) ∧ ∀ x ∈ xs.take (0 + 1), inB x 0 3 = true) := Lib.hid (by
            rw [List.take_add_one, HXI.out]
            refine ⟨by simp, fun y hy => ?_⟩
            obtain rfl : y = x := by simpa using hy
            exact HQ.out)
          have z00 : ((0 : Nat) : Int) = 0 := rfl
          rw [z00] at hz1 ⊢
          simp only [Nat.add_zero] at q0
          clear hz0 z00
          go_wp2_with fail
          refine wp_region_late wr (Below.refl _ _) (by kernel_rfl) (by kernel_rfl) ?_
          repeat (go_big_quiet_step ((go_at_call 66; exact Calls.late_same (INx.out _))))
          refine wpQuiet_nil ?_
          intro _ hw'
          obtain ⟨uq, hw''⟩ := hw'
          subst hw''
          have BU := Lib.hid (below_go hB.out uq.b)
          clear q0
          go_wp2_with fail
          go_roundg (xs.length - 1)
          case measure => omega
          case rel => exact ⟨1, by omega, by omega, by first | rfl | simp, P2, BU⟩
        | succ j =>
          obtain ⟨y, hy⟩ : ∃ y, xs[j]? = some y := ⟨xs[j]'(by omega), List.getElem?_eq_getElem _⟩
          obtain ⟨g', o', he, k2⟩ := HX.out _ _ hy
          obtain ⟨rfl, rfl⟩ : g = g' ∧ o = o' := by simpa using he
          have y0 := fun u : Late wr => u.cell (cell_lo hB.out k2) (cell_lt (cell_lo hB.out k2))
          have HYI := Lib.hid hy
          have cj : ((j + 1 : Nat) : Int) = (j : Int) + 1 := by omega
          rw [cj] at hz0 hz1 ⊢
          have hj0 : (0 : Int) ≤ (j : Int) := by omega
          have hj1 : (j : Int) < (xs.length : Int) := by omega
          have hjp : (0 : Int) < (j : Int) + 1 := by omega
          have ewj : IntKind.i64.wrap ((j : Int) + 1 - 1) = (j : Int) := by rw [IntWalk.i64_in _ (by omega)]; omega
          have et : ((j : Int) + 1).toNat = j + 1 := by omega
          have ew2 : IntKind.i64.wrap ((j : Int) + 1 + 1) = (j : Int) + 1 + 1 := IntWalk.i64_in _ (by omega)
          clear hy he k2 cj
          by_cases hxy : y < x
          · have hle : decide (x ≤ y) = false := by simpa using hxy
            have P2 : Hid ((xs.take (j + 1 + 1)).Pairwise (· < ·) ∧ ∀ x ∈ xs.take (j + 1 + 1), inB x 0 3 = true) := Lib.hid ⟨rise_step hP.out.1 HYI.out HXI.out hxy, fun z hz => by
              rw [List.take_add_one, HXI.out] at hz
              rcases List.mem_append.1 hz with h | h
              · exact hP.out.2 z h
              · obtain rfl : z = x := by simpa using h
                exact HQ.out⟩
            clear hP
            go_wp2_with fail
            refine wp_region_late wr (Below.refl _ _) (by kernel_rfl) (by kernel_rfl) ?_
            repeat (go_big_quiet_step ((go_at_call 66; exact Calls.late_same (INx.out _))))
            refine wpQuiet_nil ?_
            intro _ hw'
            obtain ⟨uq, hw''⟩ := hw'
            subst hw''
            have BU := Lib.hid (below_go hB.out uq.b)
            clear q0 y0
            go_wp2_with fail
            go_roundg (xs.length - (j + 1 + 1))
            case measure => omega
            case rel => exact ⟨j + 1 + 1, by omega, rfl, by simp, P2, BU⟩
          · have hle : decide (x ≤ y) = true := by simpa using hxy
            have HF := Lib.hid (HR.out (rise_not HYI.out HXI.out hxy))
            clear hP
            go_wp2_with fail
            refine wp_region_late wr (Below.refl _ _) (by kernel_rfl) (by kernel_rfl) ?_
            repeat (go_big_quiet_step ((go_at_call 66; exact Calls.late_same (INx.out _))))
            refine wpQuiet_nil ?_
            intro _ hw'
            obtain ⟨uq, hw''⟩ := hw'
            subst hw''
            have BU := Lib.hid (below_go hB.out uq.b)
            clear q0 y0
            go_wp2_with fail
            go_returns
            exact ⟨by rw [HF.out]; first | done | rfl, BU.out⟩
    · have hz1 : ¬ (i : Int) < (xs.length : Int) := by omega
      have HF : Hid (RES = true) := Lib.hid (by
        have := hP.out
        rw [List.take_of_length_le (by omega)] at this
        exact HIN.out this.1 this.2)
      clear hP hlt
      go_wp2_with fail
      go_returns
      exact ⟨by rw [HF.out]; first | done | rfl, hB.out⟩


set_option maxRecDepth 100000 in
set_option maxHeartbeats 4000000 in
theorem refHas_any (xs : List Int) (n : Int) (a : Option Addr) (c : Nat) (w : World) (hX : IntsAt w a xs) (hn : xs.length ≤ 1000) :
    Calls Try.prog 50 #[.slice a xs.length c, .int .i64 n] w fun e w' => e = .returned (.bool (hasI xs n)) ∧ Below w.heap.size w w' := by
  have HIN : Hid (n ∈ xs → hasI xs n = true) := Lib.hid hasI_iff.2
  have HOUT : Hid ((∀ x ∈ xs, x ≠ n) → hasI xs n = false) := Lib.hid fun h => by
    cases e : hasI xs n
    · rfl
    · exact absurd rfl (h n (hasI_iff.1 e))
  have HX := Lib.hid hX
  have B0 := Lib.hid (Below.refl w.heap.size w)
  generalize hasI xs n = RES at *
  clear hX
  go_enter Try.func50, Try.ntmps50
  go_wp2_with fail
  go_loopg [5] xs.length (fun g s5 wx => ∃ (i : Nat), i ≤ xs.length ∧ g = xs.length - i ∧ s5 = .int .i64 (i : Int) ∧ Hid (∀ x ∈ xs.take i, x ≠ n) ∧ Hid (Below w.heap.size w wx))
  case atStart => exact ⟨0, by omega, by omega, rfl, Lib.hid (by simp), B0⟩
  case round =>
    obtain ⟨i, hi', rfl, rfl, hP, hB⟩ := hrel
    clear B0
    by_cases hlt : i < xs.length
    · obtain ⟨x, hx⟩ : ∃ x, xs[i]? = some x := ⟨xs[i]'hlt, List.getElem?_eq_getElem _⟩
      obtain ⟨g, o, rfl, k1⟩ := HX.out _ _ hx
      have hz0 : (0 : Int) ≤ (i : Int) := by omega
      have hz1 : (i : Int) < (xs.length : Int) := by omega
      have q0 := cell_lo hB.out k1
      have ew2 : IntKind.i64.wrap ((i : Int) + 1) = (i : Int) + 1 := IntWalk.i64_in _ (by omega)
      have HXI := Lib.hid hx
      clear hx k1
      by_cases hq : x = n
      · have HF := Lib.hid (HIN.out (by rw [← hq]; exact List.mem_of_getElem? HXI.out))
        have hb : (x == n) = true := by simpa using hq
        clear hq
        go_wp2_with fail
        go_returns
        exact ⟨by rw [HF.out]; first | done | rfl, hB.out⟩
      · have P2 : Hid (∀ x ∈ xs.take (i + 1), x ≠ n) := Lib.hid (by
          rw [take_next HXI.out]
          intro y hy
          rcases List.mem_append.1 hy with h | h
          · exact hP.out y h
          · obtain rfl : y = x := by simpa using h
            exact hq)
        have hb : (x == n) = false := by simpa using hq
        clear hq
        go_wp2_with fail
        go_roundg (xs.length - (i + 1))
        case measure => omega
        case rel => exact ⟨i + 1, by omega, rfl, by simp, P2, hB⟩
    · have hz1 : ¬ (i : Int) < (xs.length : Int) := by omega
      have HF : Hid (RES = false) := Lib.hid (by
        have := hP.out
        rw [List.take_of_length_le (by omega)] at this
        exact HOUT.out this)
      clear hP hlt
      go_wp2_with fail
      go_returns
      exact ⟨by rw [HF.out]; first | done | rfl, hB.out⟩

end Go.Proofs.Ytbbndcfnpfedpaa

namespace Go.Proofs.Ytbbndcfnpfedpaa
open Go.RowKit

attribute [local go_sem] Oper.semAt_some

theorem faultW_out {l : Lan} {x : Wd} (hn : ¬ 30 < l.ws.length) (hx : x ∈ l.ws) (h : wrongW l.fs x = true) : faultW l = 1 := by
  have h1 : validW l = false := by
    unfold validW
    rw [List.any_eq_true.2 ⟨x, hx, h⟩]
    simp
  unfold faultW
  rw [if_neg hn, if_neg (by rw [h1]; decide)]
theorem faultW_in {l : Lan} (hn : ¬ 30 < l.ws.length) (hf : inB l.fs 1 5 = true) (h : ∀ x ∈ l.ws, wrongW l.fs x = false) : faultW l = 0 := by
  have h1 : validW l = true := by
    unfold validW
    rw [hf, show l.ws.any (wrongW l.fs) = false from List.any_eq_false.2 fun x hx => by simp [h x hx]]
    rfl
  unfold faultW
  rw [if_neg hn, if_pos h1]

set_option maxRecDepth 100000 in
set_option maxHeartbeats 8000000 in
theorem refFault_any (l : Lan) (w : World) (hL : WdsAt w l.wa l.ws) (hn : l.ws.length ≤ 1000) :
    Calls Try.prog 54 #[l.val] w fun e w' => e = .returned (.int .i64 (faultW l)) ∧ Below w.heap.size w w' := by
  have WI := Lib.hid (fun n a b W => refIn_any n a b W)
  have HL := Lib.hid hL
  have HO := Lib.hid (fun x => @faultW_out l x)
  have HI := Lib.hid (@faultW_in l)
  have H3 := Lib.hid (show 30 < l.ws.length → faultW l = 3 from fun h => by unfold faultW; rw [if_pos h])
  have H1 := Lib.hid (show ¬ 30 < l.ws.length → inB l.fs 1 5 = false → faultW l = 1 from fun h h2 => by unfold faultW validW; rw [if_neg h, h2]; rfl)
  generalize faultW l = R at *
  clear hL
  obtain ⟨fs, wa, wc, ws⟩ := l
  unfold Lan.val at *
  simp only at *
  have B0 := Lib.hid (below_al w (.cells #[.int .i64 fs, .slice wa ws.length wc] 24))
  have K0 := Lib.hid (Blk.new w #[.int .i64 fs, .slice wa ws.length wc] 24)
  by_cases h30 : 30 < ws.length
  · have hz : (30 : Int) < (ws.length : Int) := by omega
    have HR := Lib.hid (H3.out h30)
    clear h30
    go_enter Try.func54, Try.ntmps54
    go_wp2_with fail
    go_returns
    exact ⟨by rw [HR.out]; first | done | rfl, B0.out⟩
  · have hz : ¬ (30 : Int) < (ws.length : Int) := by omega
    have H30 := Lib.hid h30
    clear h30
    go_enter Try.func54, Try.ntmps54
    go_wp2_with fail
    refine (WI.out _ _ _ _).mono ?_
    rintro e w1 ⟨rfl, rfl⟩
    cases hf : inB fs 1 5
    · have HR := Lib.hid (H1.out H30.out hf)
      clear hf
      go_wp2_with fail
      go_returns
      exact ⟨by rw [HR.out]; first | done | rfl, B0.out⟩
    · have HF := Lib.hid hf
      have hfb := inB_iff.1 hf
      have ew : IntKind.i64.wrap (fs - 1) = fs - 1 := IntWalk.i64_in _ (by omega)
      clear hf hfb hz
      go_wp2_with fail
      go_loopg [3] ws.length (fun g s3 wx => ∃ (i : Nat), i ≤ ws.length ∧ g = ws.length - i ∧ s3 = .int .i64 (i : Int) ∧ Hid (∀ x ∈ ws.take i, wrongW fs x = false) ∧ Hid (Below w.heap.size w wx) ∧ Hid (Blk wx w.heap.size #[.int .i64 fs, .slice wa ws.length wc] 24))
      case atStart => exact ⟨0, by omega, by omega, rfl, Lib.hid (by simp), B0, K0⟩
      case round =>
        obtain ⟨i, hi', rfl, rfl, hP, hB, hK⟩ := hrel
        clear B0 K0
        have p0 := hK.out.cell 0 (show _ = some (Value.int .i64 fs) from rfl)
        have p1 := hK.out.cell 1 (show _ = some (Value.slice wa ws.length wc) from rfl)
        by_cases hlt : i < ws.length
        · obtain ⟨x, hx⟩ : ∃ x, ws[i]? = some x := ⟨ws[i]'hlt, List.getElem?_eq_getElem _⟩
          obtain ⟨g, o, rfl, k1, k2, k3, k4, k5⟩ := HL.out _ _ hx
          have hz0 : (0 : Int) ≤ (i : Int) := by omega
          have hz1 : (i : Int) < (ws.length : Int) := by omega
          have c1 := cell_lo hB.out k1
          have c2 := cell_lo hB.out k2
          have c3 := cell_lo hB.out k3
          have c4 := cell_lo hB.out k4
          have c5 := cell_lo hB.out k5
          have HXI := Lib.hid hx
          have HW := Lib.hid (show wrongW fs x = (!(inB x.fr 0 (fs - 1)) || (!(inB x.ba 0 1) || (!(inB x.te 0 3) || (!(inB x.le 0 x.mo) || decide (10 < x.mo))))) from rfl)
          have HQ1 := Lib.hid (fun h => HO.out x H30.out (List.mem_of_getElem? HXI.out) h)
          have HQ0 : Hid (wrongW fs x = false → ∀ x ∈ ws.take (i + 1), wrongW fs x = false) := Lib.hid fun h => by
            rw [take_next HXI.out]
            intro y hy
            rcases List.mem_append.1 hy with h' | h'
            · exact hP.out y h'
            · obtain rfl : y = x := by simpa using h'
              exact h
          clear hx k1 k2 k3 k4 k5 hP
          obtain ⟨fr, ba, te, le, mo⟩ := x
          simp only at c1 c2 c3 c4 c5 HW
          generalize wrongW fs ⟨fr, ba, te, le, mo⟩ = WR at *
          have BR := Lib.hid (below_al2 hB.out (.cells #[.int .i64 fr, .int .i64 ba, .int .i64 te, .int .i64 le, .int .i64 mo] 81))
          have KR := Lib.hid (Blk.alt (p := fun _ => False) hK.out ((Alt.refl _ _).alloc (.cells #[.int .i64 fr, .int .i64 ba, .int .i64 te, .int .i64 le, .int .i64 mo] 81)) id)
          have p2 := KR.out.cell 0 (show _ = some (Value.int .i64 fs) from rfl)
          go_wp2_with fail
          refine (WI.out _ _ _ _).mono ?_
          rintro e w1 ⟨rfl, rfl⟩
          generalize inB fr 0 (fs - 1) = A at *
          clear p0
          cases A
          · have HR := Lib.hid (HQ1.out (by rw [HW.out]; rfl))
            clear c1 c2 c3 c4 c5 p1
            go_wp2_with fail
            go_returns
            exact ⟨by rw [HR.out]; first | done | rfl, BR.out⟩
          · go_wp2_with fail
            refine (WI.out _ _ _ _).mono ?_
            rintro e w1 ⟨rfl, rfl⟩
            generalize inB ba 0 1 = B at *
            cases B
            · have HR := Lib.hid (HQ1.out (by rw [HW.out]; rfl))
              go_wp2_with fail
              go_returns
              exact ⟨by rw [HR.out]; first | done | rfl, BR.out⟩
            · go_wp2_with fail
              refine (WI.out _ _ _ _).mono ?_
              rintro e w1 ⟨rfl, rfl⟩
              generalize inB te 0 3 = C at *
              cases C
              · have HR := Lib.hid (HQ1.out (by rw [HW.out]; rfl))
                go_wp2_with fail
                go_returns
                exact ⟨by rw [HR.out]; first | done | rfl, BR.out⟩
              · go_wp2_with fail
                refine (WI.out _ _ _ _).mono ?_
                rintro e w1 ⟨rfl, rfl⟩
                generalize inB le 0 mo = D at *
                cases D
                · have HR := Lib.hid (HQ1.out (by rw [HW.out]; rfl))
                  go_wp2_with fail
                  go_returns
                  exact ⟨by rw [HR.out]; first | done | rfl, BR.out⟩
                · by_cases hmo : 10 < mo
                  · have HR := Lib.hid (HQ1.out (by rw [HW.out]; simp [hmo]))
                    go_wp2_with fail
                    go_returns
                    exact ⟨by rw [HR.out]; first | done | rfl, BR.out⟩
                  · have P2 := Lib.hid (HQ0.out (by rw [HW.out]; simp [hmo]))
                    clear c1 c2 c3 c4 c5 p2 p1
                    go_wp2_with fail
                    go_roundg (ws.length - (i + 1))
                    case measure => omega
                    case rel => exact ⟨i + 1, by omega, rfl, by simp, P2, BR, KR⟩
        · have hz1 : ¬ (i : Int) < (ws.length : Int) := by omega
          have HR := Lib.hid (HI.out H30.out HF.out (by
            have := hP.out
            rwa [List.take_of_length_le (by omega)] at this))
          clear hP hlt
          go_wp2_with fail
          go_returns
          exact ⟨by rw [HR.out]; first | done | rfl, hB.out⟩

end Go.Proofs.Ytbbndcfnpfedpaa

namespace Go.Proofs.Ytbbndcfnpfedpaa
open Go.RowKit

attribute [local go_sem] Oper.semAt_some

theorem info70 : (Try.prog.info? 70).map (fun i => (i.zero, i.size, i.bytes)) = some (some (.agg #[.int .i64 0, .int .i64 0, .int .i64 0, .int .i64 0, .int .i64 0]), 5, 40) := by kernel_rfl

def Wd.cells (x : Wd) : List Value := [.int .i64 x.fr, .int .i64 x.ba, .int .i64 x.te, .int .i64 x.le, .int .i64 x.mo]
def wdCells (L : List Wd) : List Value := L.flatMap Wd.cells
theorem wdCells_snoc (L : List Wd) (x : Wd) : wdCells (L ++ [x]) = wdCells L ++ x.cells := by unfold wdCells; simp
theorem wdCells_at : ∀ (L : List Wd) (i : Nat) (b : Wd), L[i]? = some b → (wdCells L)[i * 5]? = some (.int .i64 b.fr) ∧ (wdCells L)[i * 5 + 1]? = some (.int .i64 b.ba) ∧ (wdCells L)[i * 5 + 2]? = some (.int .i64 b.te) ∧ (wdCells L)[i * 5 + 3]? = some (.int .i64 b.le) ∧ (wdCells L)[i * 5 + 4]? = some (.int .i64 b.mo)
  | x :: L, 0, b, h => by simp at h; subst h; exact ⟨rfl, rfl, rfl, rfl, rfl⟩
  | x :: L, i + 1, b, h => by
    have := wdCells_at L i b (by simpa using h)
    have e : wdCells (x :: L) = .int .i64 x.fr :: .int .i64 x.ba :: .int .i64 x.te :: .int .i64 x.le :: .int .i64 x.mo :: wdCells L := rfl
    rw [e, show (i + 1) * 5 = i * 5 + 1 + 1 + 1 + 1 + 1 by omega]
    exact this
theorem wds_new (w : World) (L : List Wd) (t : TypeId) : WdsAt (w.alloc (.cells (wdCells L).toArray t)) (some ⟨w.heap.size, 0, none⟩) L := fun i b hb => by
  obtain ⟨h1, h2, h3, h4, h5⟩ := wdCells_at L i b hb
  exact ⟨w.heap.size, 0, rfl, new_cell w (by rw [Nat.zero_add, List.getElem?_toArray]; exact h1), new_cell w (by rw [Nat.zero_add, List.getElem?_toArray]; exact h2), new_cell w (by rw [Nat.zero_add, List.getElem?_toArray]; exact h3), new_cell w (by rw [Nat.zero_add, List.getElem?_toArray]; exact h4), new_cell w (by rw [Nat.zero_add, List.getElem?_toArray]; exact h5)⟩

theorem WdsAt.alt {w W : World} {a : Option Addr} {L : List Wd} {p : Nat → Prop} (h : WdsAt w a L) (hb : Alt p w W) (hp : ∀ g o, a = some ⟨g, o, none⟩ → ¬ p g) : WdsAt W a L := by
  intro i x hx
  obtain ⟨g, o, e, h1, h2, h3, h4, h5⟩ := h i x hx
  exact ⟨g, o, e, alt_cell hb h1 (hp g o e), alt_cell hb h2 (hp g o e), alt_cell hb h3 (hp g o e), alt_cell hb h4 (hp g o e), alt_cell hb h5 (hp g o e)⟩

/-- A list of words in a row of the call's own reads as such. -/
theorem own_wds {W : World} {base : Nat} {v : Value} {L : List Wd} (h : W.ownsRow base 70 5 v L.length (wdCells L)) : ∃ a c, v = .slice a L.length c ∧ WdsAt W a L ∧ ∀ g o, a = some ⟨g, o, none⟩ → base ≤ g ∧ g < W.heap.size := by
  by_cases h0 : 0 < L.length
  · obtain ⟨g, cap, rfl, hb, hl⟩ := h.form h0
    refine ⟨some ⟨g, 0, none⟩, cap, rfl, ?_, fun g' o e => by cases e; exact ⟨hb, hl⟩⟩
    intro i l hi
    obtain ⟨k1, k2, k3, k4, k5⟩ := wdCells_at L i l hi
    have hc : ∀ j u, (wdCells L)[j]? = some u → W.cell? ⟨g, j, none⟩ = some u := fun j u hj => (h.cellAt j (by have := (List.getElem?_eq_some_iff.1 hj).1; have := h.1; omega)).trans hj
    exact ⟨g, 0, rfl, by rw [Nat.zero_add]; exact hc _ _ k1, by rw [Nat.zero_add]; exact hc _ _ k2, by rw [Nat.zero_add]; exact hc _ _ k3, by rw [Nat.zero_add]; exact hc _ _ k4, by rw [Nat.zero_add]; exact hc _ _ k5⟩
  · have : L = [] := List.eq_nil_of_length_eq_zero (by omega)
    subst this
    rcases h.2 with ⟨rfl, _⟩ | ⟨g, cap, cur, rfl, hb, hg, _⟩
    · exact ⟨none, 0, rfl, fun i l h => by simp at h, fun g o e => by cases e⟩
    · refine ⟨some ⟨g, 0, none⟩, cap, rfl, fun i l h => by simp at h, fun g' o e => by cases e; exact ⟨hb, (Array.getElem?_eq_some_iff.1 hg).1⟩⟩

/-- A lane that the law has made anew. -/
def NewLan (l : Lan) (w : World) (e : Ending) (w' : World) : Prop :=
  ∃ a c, e = .returned (Lan.val { l with wa := a, wc := c }) ∧ WdsAt w' a l.ws ∧ (∀ g o, a = some ⟨g, o, none⟩ → g < w'.heap.size) ∧ Below w.heap.size w w'

/-- What the round stands on: N the box of the argument, N + 1 the result, N + 2 the lane that grows. -/
structure WL (l : Lan) (w W : World) (v : Value) (i : Nat) : Prop where
  bK : Blk W w.heap.size #[.int .i64 l.fs, .slice l.wa l.ws.length l.wc] 24
  bR : Blk W (w.heap.size + 1) #[.int .i64 0, .slice none 0 0] 32
  bO : Blk W (w.heap.size + 1 + 1) #[.int .i64 l.fs, v] 32
  ow : W.ownsRow (w.heap.size + 3) 70 5 v i (wdCells (l.ws.take i))
  bl : Below w.heap.size w W
  sz : w.heap.size + 3 ≤ W.heap.size
theorem WL.step {l : Lan} {w W W1 : World} {v v' : Value} {i : Nat} {o o2 : Obj} {x : Wd} (h : WL l w W v i) (hl : l.ws[i]? = some x)
    (hg : ((W.alloc o).alloc o2).grownBy W1 v.ownBlock) (ho : W1.ownsRow (w.heap.size + 3) 70 5 v' (i + 1) (wdCells (l.ws.take i) ++ x.cells)) :
    WL l w (W1.setCell ⟨w.heap.size + 1 + 1, 1, none⟩ v') v' (i + 1) := by
  have hA : Alt (fun k => w.heap.size + 3 ≤ k) W W1 := (((Alt.refl _ W).alloc o).alloc o2).grown hg fun k e => own_base h.ow e
  have hS : Alt (fun k => k = w.heap.size + 1 + 1) W1 (W1.setCell ⟨w.heap.size + 1 + 1, 1, none⟩ v') := (Alt.refl (fun k => k = w.heap.size + 1 + 1) W1).setCell (q := ⟨w.heap.size + 1 + 1, 1, none⟩) rfl _
  have e : l.ws.take (i + 1) = l.ws.take i ++ [x] := take_next hl
  refine ⟨(h.bK.alt hA (by omega)).alt hS (by omega), (h.bR.alt hA (by omega)).alt hS (by omega), ?_, ?_, ?_, ?_⟩
  · exact Blk.setAt (h.bO.alt hA (by omega)) 1 _
  · rw [e, wdCells_snoc]
    exact ownsRow_alt ho hS (fun g hg e => by omega)
  · exact ((Alt.of_below (p := fun k => w.heap.size ≤ k) h.bl (fun k _ e => e)).trans ((hA.mono fun k _ e => by omega).trans (hS.mono fun k _ e => by omega))).below (Nat.le_refl _) fun _ e => e
  · have := h.sz
    have := hA.size
    have := hS.size
    omega

set_option maxRecDepth 100000 in
set_option maxHeartbeats 4000000 in
theorem lawLane_any (l : Lan) (w : World) (hL : WdsAt w l.wa l.ws) (hn : l.ws.length ≤ 1000) :
    Calls Try.prog 20 #[l.val] w (NewLan l w) := by
  have HL := Lib.hid hL
  obtain ⟨i0, hi0, hy0, hy1, hy2⟩ := info_parts info70
  have K0 := Lib.hid (show WL l w (((w.alloc (.cells #[.int .i64 l.fs, .slice l.wa l.ws.length l.wc] 24)).alloc (.cells #[.int .i64 0, .slice none 0 0] 32)).alloc (.cells #[.int .i64 l.fs, .slice none 0 0] 32)) (.slice none 0 0) 0 from
    ⟨Blk.alt (p := fun _ => False) (Blk.new w _ _) (((Alt.refl _ _).alloc _).alloc _) id, by
      have := Blk.alt (p := fun _ => False) (Blk.new (w.alloc (.cells #[.int .i64 l.fs, .slice l.wa l.ws.length l.wc] 24)) #[.int .i64 0, .slice none 0 0] 32) ((Alt.refl _ _).alloc (.cells #[.int .i64 l.fs, .slice none 0 0] 32)) id
      rwa [World.size_alloc] at this, by
      have := Blk.new ((w.alloc (.cells #[.int .i64 l.fs, .slice l.wa l.ws.length l.wc] 24)).alloc (.cells #[.int .i64 0, .slice none 0 0] 32)) #[.int .i64 l.fs, .slice none 0 0] 32
      rwa [World.size_alloc, World.size_alloc] at this, ⟨rfl, .inl ⟨rfl, rfl⟩⟩, below_al2 (below_al2 (below_al _ _) _) _, by simp⟩)
  unfold Lan.val
  clear hL
  go_enter Try.func20, Try.ntmps20
  go_wp2_with fail
  generalize ((w.alloc _).alloc _).alloc _ = W0 at K0 ⊢
  go_loopg [4] l.ws.length (fun g s4 wx => ∃ (i : Nat) (v : Value), i ≤ l.ws.length ∧ g = l.ws.length - i ∧ s4 = .int .i64 (i : Int) ∧ Hid (WL l w wx v i))
  case atStart => exact ⟨0, _, by omega, by omega, rfl, K0⟩
  case round =>
    obtain ⟨i, v, hi, rfl, rfl, hK⟩ := hrel
    clear K0
    have k4 : wr.cell? ⟨w.heap.size, 1, none⟩ = some (.slice l.wa l.ws.length l.wc) := hK.out.bK.cell 1 rfl
    by_cases hlt : i < l.ws.length
    · have hz0 : (0 : Int) ≤ (i : Int) := by omega
      have hz1 : (i : Int) < (l.ws.length : Int) := by omega
      obtain ⟨x, hl⟩ : ∃ x, l.ws[i]? = some x := ⟨l.ws[i]'hlt, List.getElem?_eq_getElem _⟩
      obtain ⟨g, o, hla, k1, k2, k3, k5, k6⟩ := HL.out i _ hl
      have c1 := cell_lo hK.out.bl k1
      have c2 := cell_lo hK.out.bl k2
      have c3 := cell_lo hK.out.bl k3
      have c4 := cell_lo hK.out.bl k5
      have c5 := cell_lo hK.out.bl k6
      have HLl := Lib.hid hl
      rw [hla] at k4
      have HSZ := Lib.hid hK.out.sz
      have HNC : Hid (2 * 1000 ≤ maxLen) := Lib.hid (by unfold maxLen; omega)
      have HOW := Lib.hid hK.out.ow
      have HOB := Lib.hid (show ∀ k, v.ownBlock = some k → w.heap.size + 3 ≤ k from fun k e => own_base hK.out.ow e)
      have e2 : IntKind.i64.wrap ((i : Int) + 1) = (i : Int) + 1 := IntWalk.i64_in _ (by omega)
      have o4 : (wr.alloc (.cells #[.int .i64 x.fr, .int .i64 x.ba, .int .i64 x.te, .int .i64 x.le, .int .i64 x.mo] 81)).cell? ⟨w.heap.size + 1 + 1, 1, none⟩ = some v := alt_cell (p := fun _ => False) ((Alt.refl _ wr).alloc _) (hK.out.bO.cell 1 rfl) id
      have ST := Lib.hid (fun W1 v' (hg : ((wr.alloc (.cells #[.int .i64 x.fr, .int .i64 x.ba, .int .i64 x.te, .int .i64 x.le, .int .i64 x.mo] 81)).alloc (.cells #[.int .i64 x.fr, .int .i64 x.ba, .int .i64 x.te, .int .i64 x.le, .int .i64 x.mo] 70)).grownBy W1 v.ownBlock) ho => hK.out.step (x := x) (v' := v') hl hg ho)
      have SA := Lib.hid (fun W1 (hg : ((wr.alloc (.cells #[.int .i64 x.fr, .int .i64 x.ba, .int .i64 x.te, .int .i64 x.le, .int .i64 x.mo] 81)).alloc (.cells #[.int .i64 x.fr, .int .i64 x.ba, .int .i64 x.te, .int .i64 x.le, .int .i64 x.mo] 70)).grownBy W1 v.ownBlock) => (⟨(hK.out.bO.alt ((((Alt.refl (fun k => w.heap.size + 3 ≤ k) wr).alloc _).alloc _).grown hg fun k e => own_base hK.out.ow e) (by omega)).fr 1, (hK.out.bO.alt ((((Alt.refl (fun k => w.heap.size + 3 ≤ k) wr).alloc _).alloc _).grown hg fun k e => own_base hK.out.ow e) (by omega)).cell 1 rfl⟩ : W1.frozen? ⟨w.heap.size + 1 + 1, 1, none⟩ = false ∧ W1.cell? ⟨w.heap.size + 1 + 1, 1, none⟩ = some v))
      clear k1 k2 k3 k5 k6 hl hla
      obtain ⟨fr, ba, te, le, mo⟩ := x
      simp only at c1 c2 c3 c4 c5
      go_wp2_with (at_builtin; go_must (refine wpList_append_own_at _ rfl _ _ 30 rfl (w.heap.size + 3) 70 i0 _ 5 40 Try.underlying30 hi0 hy0 hy1 hy2 rfl (by decide) v i (wdCells (l.ws.take i)) rfl ((HOW.out.alloc _).alloc _) ⟨wr.heap.size + 1, 0, none⟩ 1 1 (Wd.cells ⟨fr, ba, te, le, mo⟩) rfl (by rfl) (by first | exact World.news_of_block (cs := #[.int .i64 fr, .int .i64 ba, .int .i64 te, .int .i64 le, .int .i64 mo]) (t := 70) (fr := (0, 0)) (by simpa using heap_alloc_new (wr.alloc _) _) | fail "news") (by simp [Value.oneCell', Wd.cells]) (by have := HNC.out; omega) (by omega) (by have := HSZ.out; simp; omega) ?_); intro v' w1 hown' hgrow hnil hloc; obtain ⟨gA, capA, hvA, _, _⟩ := hown'.form (by omega); subst hvA; have KN := Lib.hid (ST.out w1 _ hgrow hown'); have zA := (SA.out w1 hgrow).1; have cA := (SA.out w1 hgrow).2; clear hown' hgrow hnil hloc)
      generalize World.setCell _ _ _ = w2 at KN ⊢
      clear zA cA c1 c2 c3 c4 c5 k4 o4 hK HOW
      go_wp2_with fail
      go_roundg (l.ws.length - (i + 1))
      case measure => omega
      case rel => exact ⟨i + 1, _, by omega, rfl, by simp, KN⟩
    · have hz1 : ¬ (i : Int) < (l.ws.length : Int) := by omega
      have KE := hK.out
      obtain rfl : i = l.ws.length := by omega
      have ow := KE.ow
      rw [List.take_length] at ow
      obtain ⟨a, c, rfl, hLL, hg⟩ := own_wds ow
      have BL := Lib.hid KE.bl
      have HLL := Lib.hid hLL
      have HG := Lib.hid hg
      have bR := KE.bR
      have bO := KE.bO
      have q0 : wr.cell? ⟨w.heap.size + 1 + 1, 0, none⟩ = some (.int .i64 l.fs) := bO.cell 0 rfl
      have q1 : wr.cell? ⟨w.heap.size + 1 + 1, 1, none⟩ = some (.slice a l.ws.length c) := bO.cell 1 rfl
      have t0 : wr.cell? ⟨w.heap.size + 1, 0, none⟩ = some (.int .i64 0) := bR.cell 0 rfl
      have f0 := bR.fr 0
      have t1 : wr.cell? ⟨w.heap.size + 1, 1, none⟩ = some (.slice none 0 0) := bR.cell 1 rfl
      have f1 := bR.fr 1
      have AX := Lib.hid (((Alt.refl (fun k => k = w.heap.size + 1) wr).setCell (q := ⟨w.heap.size + 1, 0, none⟩) rfl (.int .i64 l.fs)).setCell (q := ⟨w.heap.size + 1, 1, none⟩) rfl (.slice a l.ws.length c))
      have TX := Lib.hid (Blk.setAt (Blk.setAt bR 0 (.int .i64 l.fs)) 1 (.slice a l.ws.length c))
      clear hK KE ow hLL hg bR bO hlt
      go_wp2_with fail
      have tx := TX.out
      have ax := AX.out
      generalize World.setCell _ _ _ = X at tx ax ⊢
      have h0 : X.cell? ⟨w.heap.size + 1, 0, none⟩ = some (.int .i64 l.fs) := tx.cell 0 rfl
      have h1 : X.cell? ⟨w.heap.size + 1, 1, none⟩ = some (.slice a l.ws.length c) := tx.cell 1 rfl
      clear tx
      refine bodyPost_ret (v := .agg #[.int .i64 l.fs, .slice a l.ws.length c]) (by simp [results, Try.results20, go_sem, h0, h1]) rfl ⟨a, c, rfl, ?_, ?_, ?_⟩
      · exact HLL.out.alt ax fun g o e h => by have := (HG.out g o e).1; omega
      · intro g o e
        exact Nat.lt_of_lt_of_le (HG.out g o e).2 ax.size
      · exact ((Alt.of_below (p := fun k => w.heap.size ≤ k) BL.out (fun k _ e => e)).trans (ax.mono fun k _ e => by omega)).below (Nat.le_refl _) fun _ e => e

end Go.Proofs.Ytbbndcfnpfedpaa

namespace Go.Proofs.Ytbbndcfnpfedpaa
open Go.RowKit

attribute [local go_sem] Oper.semAt_some

/-- A set of tellers, in memory and as a value. -/
def fCells (s : Int → Bool) : Array Value := #[.bool (s 0), .bool (s 1), .bool (s 2), .bool (s 3)]
def fVal (s : Int → Bool) : Value := .agg (fCells s)
def withS (s : Int → Bool) (ts : List Int) : Int → Bool := fun t => s t || hasI ts t
theorem withS_nil (s : Int → Bool) : withS s [] = s := by funext t; simp [withS, hasI]
theorem withS_snoc (s : Int → Bool) (ts : List Int) (x : Int) : withS s (ts ++ [x]) = fun t => withS s ts t || (x == t) := by funext t; unfold withS; rw [hasI_snoc]; simp [Bool.or_assoc]

theorem fSet {W : World} {b : Nat} {s : Int → Bool} {x : Int} (h : Blk W b (fCells s) 88) (h0 : 0 ≤ x) (h3 : x ≤ 3) : Blk (W.setCell ⟨b, x.toNat, none⟩ (.bool true)) b (fCells fun t => s t || (x == t)) 88 := by
  have := Blk.setAt h x.toNat (.bool true)
  have e : (fCells s).setIfInBounds x.toNat (.bool true) = fCells (fun t => s t || (x == t)) := by
    obtain rfl | rfl | rfl | rfl : x = 0 ∨ x = 1 ∨ x = 2 ∨ x = 3 := by omega
    all_goals (unfold fCells; simp)
  rwa [e] at this

set_option maxRecDepth 100000 in
set_option maxHeartbeats 4000000 in
theorem with_any (s : Int → Bool) (ts : List Int) (a : Option Addr) (c : Nat) (w : World) (hT : IntsAt w a ts) (hB : ∀ x ∈ ts, 0 ≤ x ∧ x ≤ 3) (hn : ts.length ≤ 1000) :
    Calls Try.prog 64 #[fVal s, .slice a ts.length c] w fun e w' => e = .returned (fVal (withS s ts)) ∧ Below w.heap.size w w' := by
  have HT := Lib.hid hT
  have HB := Lib.hid hB
  have K0 := Lib.hid (show Blk ((w.alloc (.cells (fCells s) 88)).alloc (.cells #[.bool false, .bool false, .bool false, .bool false] 88)) w.heap.size (fCells s) 88 from Blk.alt (p := fun _ => False) (Blk.new w _ _) ((Alt.refl _ _).alloc _) id)
  have R0 := Lib.hid (show Blk ((w.alloc (.cells (fCells s) 88)).alloc (.cells #[.bool false, .bool false, .bool false, .bool false] 88)) (w.heap.size + 1) #[.bool false, .bool false, .bool false, .bool false] 88 from by
    have := Blk.new (w.alloc (.cells (fCells s) 88)) #[.bool false, .bool false, .bool false, .bool false] 88
    rwa [World.size_alloc] at this)
  have B0 := Lib.hid (below_al2 (below_al w (.cells (fCells s) 88)) (.cells #[.bool false, .bool false, .bool false, .bool false] 88))
  unfold fVal
  unfold fCells at B0 K0 R0 ⊢
  clear hT hB
  go_enter Try.func64, Try.ntmps64
  go_wp2_with fail
  generalize (w.alloc _).alloc _ = W0 at K0 B0 R0 ⊢
  go_loopg [9] ts.length (fun g s9 wx => ∃ (i : Nat), i ≤ ts.length ∧ g = ts.length - i ∧ s9 = .int .i64 (i : Int) ∧ Hid (Blk wx w.heap.size (fCells (withS s (ts.take i))) 88) ∧ Hid (Blk wx (w.heap.size + 1) #[.bool false, .bool false, .bool false, .bool false] 88) ∧ Hid (Below w.heap.size w wx))
  case atStart => exact ⟨0, by omega, by omega, rfl, by rw [List.take_zero, withS_nil]; exact K0, R0, B0⟩
  case round =>
    obtain ⟨i, hi', rfl, rfl, hK, hR, hB⟩ := hrel
    clear K0 R0 B0
    by_cases hlt : i < ts.length
    · have hz0 : (0 : Int) ≤ (i : Int) := by omega
      have hz1 : (i : Int) < (ts.length : Int) := by omega
      obtain ⟨x, hx⟩ : ∃ x, ts[i]? = some x := ⟨ts[i]'hlt, List.getElem?_eq_getElem _⟩
      obtain ⟨g, o, rfl, k1⟩ := HT.out _ _ hx
      have c1 := cell_lo hB.out k1
      have hx0 := (HB.out x (List.mem_of_getElem? hx)).1
      have hx3 := (HB.out x (List.mem_of_getElem? hx)).2
      have hx4 : x < 4 := by omega
      have AX := Lib.hid ((Alt.refl (fun k => k = w.heap.size) wr).setCell (q := ⟨w.heap.size, x.toNat, none⟩) rfl (.bool true))
      have KN := Lib.hid (show Blk (wr.setCell ⟨w.heap.size, x.toNat, none⟩ (.bool true)) w.heap.size (fCells (withS s (ts.take (i + 1)))) 88 from by
        rw [take_next hx, withS_snoc]; exact fSet hK.out hx0 hx3)
      have RN := Lib.hid (hR.out.alt AX.out (by omega))
      have BN := Lib.hid (show Below w.heap.size w (wr.setCell ⟨w.heap.size, x.toNat, none⟩ (.bool true)) from ((Alt.of_below (p := fun k => w.heap.size ≤ k) hB.out (fun k _ e => e)).trans (AX.out.mono fun k _ e => by omega)).below (Nat.le_refl _) fun _ e => e)
      have fx := hK.out.fr x.toNat
      have lx : x.toNat < (fCells (withS s (ts.take i))).size := by unfold fCells; simp; omega
      obtain ⟨u, hu⟩ : ∃ u, (fCells (withS s (ts.take i)))[x.toNat]? = some (.bool u) := ⟨withS s (ts.take i) x, by
        obtain rfl | rfl | rfl | rfl : x = 0 ∨ x = 1 ∨ x = 2 ∨ x = 3 := by omega
        all_goals rfl⟩
      have cx := hK.out.cell x.toNat hu
      clear hu lx hx k1 hK AX
      go_wp2_with fail
      generalize World.setCell _ _ _ = w2 at KN RN BN ⊢
      clear c1 cx fx
      go_wp2_with fail
      go_roundg (ts.length - (i + 1))
      case measure => omega
      case rel => exact ⟨i + 1, by omega, rfl, by simp, KN, RN, BN⟩
    · have hz1 : ¬ (i : Int) < (ts.length : Int) := by omega
      have hK2 := hK.out
      rw [List.take_of_length_le (by omega)] at hK2
      have HK := Lib.hid hK2
      clear hK hK2 hlt
      obtain ⟨S, hS⟩ : ∃ S, S = withS s ts := ⟨_, rfl⟩
      rw [← hS] at HK
      have HSS := Lib.hid hS
      clear hS
      have q0 := HK.out.cell 0 (show _ = some (Value.bool (S 0)) from rfl)
      have q1 := HK.out.cell 1 (show _ = some (Value.bool (S 1)) from rfl)
      have q2 := HK.out.cell 2 (show _ = some (Value.bool (S 2)) from rfl)
      have q3 := HK.out.cell 3 (show _ = some (Value.bool (S 3)) from rfl)
      have t0 := hR.out.cell 0 (show _ = some (Value.bool false) from rfl)
      have t1 := hR.out.cell 1 (show _ = some (Value.bool false) from rfl)
      have t2 := hR.out.cell 2 (show _ = some (Value.bool false) from rfl)
      have t3 := hR.out.cell 3 (show _ = some (Value.bool false) from rfl)
      have f0 := hR.out.fr 0
      have f1 := hR.out.fr 1
      have f2 := hR.out.fr 2
      have f3 := hR.out.fr 3
      have AX := Lib.hid (((((Alt.refl (fun k => k = w.heap.size + 1) wr).setCell (q := ⟨w.heap.size + 1, 0, none⟩) rfl (.bool (S 0))).setCell (q := ⟨w.heap.size + 1, 1, none⟩) rfl (.bool (S 1))).setCell (q := ⟨w.heap.size + 1, 2, none⟩) rfl (.bool (S 2))).setCell (q := ⟨w.heap.size + 1, 3, none⟩) rfl (.bool (S 3)))
      have TX := Lib.hid (Blk.setAt (Blk.setAt (Blk.setAt (Blk.setAt hR.out 0 (.bool (S 0))) 1 (.bool (S 1))) 2 (.bool (S 2))) 3 (.bool (S 3)))
      clear hR
      go_wp2_with fail
      have tx := TX.out
      have ax := AX.out
      generalize World.setCell _ _ _ = X at tx ax ⊢
      have h0 : X.cell? ⟨w.heap.size + 1, 0, none⟩ = some (.bool (S 0)) := tx.cell 0 rfl
      have h1 : X.cell? ⟨w.heap.size + 1, 1, none⟩ = some (.bool (S 1)) := tx.cell 1 rfl
      have h2 : X.cell? ⟨w.heap.size + 1, 2, none⟩ = some (.bool (S 2)) := tx.cell 2 rfl
      have h3 : X.cell? ⟨w.heap.size + 1, 3, none⟩ = some (.bool (S 3)) := tx.cell 3 rfl
      clear tx
      refine bodyPost_ret (v := .agg #[.bool (S 0), .bool (S 1), .bool (S 2), .bool (S 3)]) (by simp [results, Try.results64, go_sem, h0, h1, h2, h3]) rfl ⟨by rw [HSS.out], ?_⟩
      exact ((Alt.of_below (p := fun k => w.heap.size ≤ k) hB.out (fun k _ e => e)).trans (ax.mono fun k _ e => by omega)).below (Nat.le_refl _) fun _ e => e

end Go.Proofs.Ytbbndcfnpfedpaa

namespace Go.Proofs.Ytbbndcfnpfedpaa
open Go.RowKit

attribute [local go_sem] Oper.semAt_some

set_option maxHeartbeats 1000000 in
theorem behind1_any (a b : Int) (w : World) : Calls Try.prog 88 #[.agg #[.int .i64 a, .int .i64 b]] w fun e w' => e = .returned (.int .i64 a) ∧ Below w.heap.size w w' := by
  have B0 := Lib.hid (below_al w (.cells #[.int .i64 a, .int .i64 b] 105))
  go_enter Try.func88, Try.ntmps88
  go_wp2_with fail
  go_returns
  exact ⟨rfl, B0.out⟩
set_option maxHeartbeats 1000000 in
theorem behind2_any (a b : Int) (w : World) : Calls Try.prog 89 #[.agg #[.int .i64 a, .int .i64 b]] w fun e w' => e = .returned (.int .i64 b) ∧ Below w.heap.size w w' := by
  have B0 := Lib.hid (below_al w (.cells #[.int .i64 a, .int .i64 b] 105))
  go_enter Try.func89, Try.ntmps89
  go_wp2_with fail
  go_returns
  exact ⟨rfl, B0.out⟩
def ballsV : Value := .agg #[.int .i64 0, .func (.func 88) #[] #[], .int .i64 1, .func (.func 89) #[] #[]]
set_option maxHeartbeats 1000000 in
theorem balls_any (w : World) : Calls Try.prog 79 #[] w fun e w' => e = .returned ballsV ∧ Below w.heap.size w w' := by
  have R0 := Lib.hid (fun o => below_al w o)
  have HV := Lib.hid (show ballsV = .agg #[.int .i64 0, .func (.func 88) #[] #[], .int .i64 1, .func (.func 89) #[] #[]] from rfl)
  go_enter Try.func79, Try.ntmps79
  go_wp2_with fail
  go_returns
  exact ⟨rfl, R0.out _⟩


end Go.Proofs.Ytbbndcfnpfedpaa
