/- The contracts of what reads lists: the law's list and ints, the reference's Has and Rising, the program's rises. -/
import Derived.Test.YtbbndcfnpfedpaaSa
set_option linter.unusedVariables false
set_option linter.unusedSimpArgs false
namespace Go.Proofs.Ytbbndcfnpfedpaa
open Go.RowKit

attribute [local go_sem] Oper.semAt_some

def riseB (xs : List Int) : Bool := decide (xs.Pairwise (· < ·))

theorem rise_step {xs : List Int} {j : Nat} {x y : Int} (hp : (xs.take (j + 1)).Pairwise (· < ·)) (hx : xs[j]? = some x) (hy : xs[j + 1]? = some y) (h : x < y) : (xs.take (j + 2)).Pairwise (· < ·) := by
  have e1 : xs.take (j + 2) = xs.take (j + 1) ++ [y] := by rw [List.take_add_one, hy]; rfl
  have e2 : xs.take (j + 1) = xs.take j ++ [x] := by rw [List.take_add_one, hx]; rfl
  rw [e1, List.pairwise_append]
  refine ⟨hp, by simp, fun a ha b hb => ?_⟩
  obtain rfl : b = y := by simpa using hb
  rw [e2] at hp ha
  rw [List.pairwise_append] at hp
  rcases List.mem_append.1 ha with h1 | h1
  · have := hp.2.2 a h1 x (by simp); omega
  · obtain rfl : a = x := by simpa using h1
    exact h
theorem rise_not {xs : List Int} {j : Nat} {x y : Int} (hx : xs[j]? = some x) (hy : xs[j + 1]? = some y) (h : ¬ x < y) : riseB xs = false := by
  unfold riseB
  rw [decide_eq_false]
  intro hp
  rw [List.pairwise_iff_getElem] at hp
  obtain ⟨h1, e1⟩ := List.getElem?_eq_some_iff.1 hx
  obtain ⟨h2, e2⟩ := List.getElem?_eq_some_iff.1 hy
  have := hp j (j + 1) h1 h2 (by omega)
  rw [e1, e2] at this
  exact h this

theorem dN_ex (w : World) (n m : Nat) : ∃ k, (w.drewN n).drewN m = w.drewN k := ⟨n + m, by simp [World.drewN, Nat.add_assoc]⟩


theorem info3 : (Try.prog.info? 3).map (fun i => (i.zero, i.size, i.bytes)) = some (some (.int .i64 0), 1, 8) := by kernel_rfl
theorem own_new0 (w : World) : (w.alloc (.cells #[] 3)).ownsRow w.heap.size 3 1 (.slice (some ⟨w.heap.size, 0, none⟩) 0 0) 0 [] :=
  ⟨rfl, .inr ⟨w.heap.size, 0, #[], rfl, Nat.le_refl _, Blk.new w #[] 3, Nat.le_refl _, by unfold maxLen; omega, rfl, rfl⟩⟩

set_option maxRecDepth 100000 in
set_option maxHeartbeats 2000000 in
theorem lawlist_any (bs : List Int) (a : Option Addr) (c : Nat) (w : World) (hs : IntsAt w a bs) (h0 : a = none → bs = [] ∧ c = 0) (hn : bs.length ≤ 1000) :
    Calls Try.prog 22 #[.slice a bs.length c] w fun e w' => ∃ v, e = .returned v ∧ w'.ownsRow w.heap.size 3 1 v bs.length (bs.map (Value.int .i64)) ∧ Below w.heap.size w w' := by
  have HS := Lib.hid hs
  have H0 := Lib.hid h0
  clear hs h0
  obtain ⟨i3, hi3, hy0, hy1, hy2⟩ := info_parts info3
  have O1 := Lib.hid (own_new0 w)
  have B1 := Lib.hid (below_al w (.cells #[] 3))
  cases a with
  | none =>
    obtain ⟨rfl, rfl⟩ := H0.out rfl
    simp only [List.length_nil]
    go_enter Try.func22, Try.ntmps22
    go_wp2_with (at_builtin; refine wpList_append_none _ rfl _ _ 25 rfl w.heap.size 3 i3 1 Try.underlying25 hi3 _ _ _ rfl O1.out rfl ?_)
    go_returns
    exact ⟨_, rfl, O1.out, B1.out⟩
  | some ad =>
    have hnews : ∀ j u, (bs.map (Value.int .i64))[j]? = some u → (w.alloc (.cells #[] 3)).cell? (ad.add j) = some u := by
      intro j u hj
      rw [List.getElem?_map] at hj
      cases hx : bs[j]? with
      | none => rw [hx] at hj; cases hj
      | some x =>
        rw [hx] at hj
        cases hj
        obtain ⟨g', o', e, hc⟩ := HS.out j x hx
        cases e
        have e : (⟨g', o', none⟩ : Addr).add j = ⟨g', o' + j, none⟩ := by unfold Addr.add; split <;> simp_all
        rw [e]
        exact cell_lo B1.out hc
    go_enter Try.func22, Try.ntmps22
    go_wp2_with (at_builtin; go_must (refine wpList_append_own_at _ rfl _ _ 25 rfl w.heap.size 3 i3 (.int .i64 0) 1 8 Try.underlying25 hi3 hy0 hy1 hy2 rfl (by decide) _ _ _ rfl O1.out ad bs.length c (bs.map (Value.int .i64)) rfl (by simp) hnews (by simp [Value.oneCell']) (by unfold maxLen; omega) (by omega) (by simp) ?_); intro v' w1 hown' hgrow hnil hloc; have ho1 := Lib.hid hown'; have hB1 := Lib.hid (below_own B1.out O1.out hgrow); clear hown' hgrow hnil hloc)
    go_returns
    exact ⟨v', rfl, by have := ho1.out; rwa [Nat.zero_add, List.nil_append] at this, hB1.out⟩


theorem grown_drewN {w w' : World} {row : Option Nat} (h : w.grownBy w' row) (n : Nat) : w.grownBy (w'.drewN n) row := by
  cases n <;> exact ⟨h.os, h.tape, h.output, h.size, h.block⟩

set_option maxRecDepth 100000 in
set_option maxHeartbeats 2000000 in
theorem ints_any (xs ys : List Int) (a b : Option Addr) (c d : Nat) (w : World) (hs : IntsAt w a xs) (ht : IntsAt w b ys) (hn : xs.length ≤ 1000) (hm : ys.length ≤ 1000) :
    Calls Try.prog 34 #[.slice a xs.length c, .slice b ys.length d] w fun e w' => e = .returned (.bool (decide (xs = ys))) ∧ Hid (w.grownBy w' none) := by
  have HS := Lib.hid hs
  have HT := Lib.hid ht
  clear hs ht
  by_cases hl : xs.length = ys.length
  · have hl1 : ((xs.length : Int) == (ys.length : Int)) = true := by simp [hl]
    have HL := Lib.hid hl
    clear hl
    go_enter Try.func34, Try.ntmps34
    go_wp2_with fail
    have hne : ((xs.length : Int) != (ys.length : Int)) = false := by simp [HL.out]
    simp only [hne]
    clear hl1
    go_loopw [5] (fun i wr => ∃ k : Nat, k ≤ xs.length ∧ i = .int .i64 k ∧ Hid (xs.take k = ys.take k) ∧ Hid (w.grownBy wr none)) (fun i _ => xs.length - (intOf i).toNat)
    case atStart => exact ⟨0, by omega, rfl, Lib.hid (by simp), Lib.hid (World.grownBy.refl w none)⟩
    case round =>
      obtain ⟨k, hk, rfl, hE, hg⟩ := hrel
      by_cases hlt : k < xs.length
      · obtain ⟨x, hx⟩ : ∃ x, Hid (xs[k]? = some x) := ⟨xs[k]'hlt, Lib.hid (List.getElem?_eq_getElem _)⟩
        obtain ⟨y, hy⟩ : ∃ y, Hid (ys[k]? = some y) := ⟨ys[k]'(by have := HL.out; omega), Lib.hid (List.getElem?_eq_getElem _)⟩
        obtain ⟨g, o, rfl, hc⟩ := HS.out k x hx.out
        obtain ⟨g', o', rfl, hc'⟩ := HT.out k y hy.out
        have cA := hg.out.cell hc (fun e => by cases e)
        have cB := hg.out.cell hc' (fun e => by cases e)
        have hlt1 : (k : Int) < (xs.length : Int) := by omega
        have hlt2 : (k : Int) < (ys.length : Int) := by have := HL.out; omega
        have hk0 : (0 : Int) ≤ (k : Int) := by omega
        have e2 : IntKind.i64.wrap ((k : Int) + 1) = (k : Int) + 1 := IntWalk.i64_in _ (by omega)
        clear hc hc'
        by_cases hxy : x = y
        · have hb : (x == y) = true := by simpa using hxy
          go_wp2
          go_still_tail 8, (by kernel_rfl)
          go_wp2_with fail
          have hn := Lib.hid (show xs.take (k + 1) = ys.take (k + 1) from by rw [List.take_add_one, List.take_add_one, hx.out, hy.out, hE.out, hxy])
          have hg2 := Lib.hid (grown_drewN hg.out 1)
          go_roundw
          case rel => first | exact ⟨k + 1, by omega, by simp, hn, hg2⟩ | ((repeat apply Exists.intro); exact ⟨⟨k + 1, by omega, by simp, hn, hg2⟩, rfl⟩)
          case measure => simp [intOf]; omega
        · have hb : (x == y) = false := by simpa using hxy
          have hD := Lib.hid (show decide (xs = ys) = false from by simp; intro h; apply hxy; have h1 := hx.out; have h2 := hy.out; rw [h, h2] at h1; cases h1; rfl)
          have hg2 := Lib.hid (grown_drewN hg.out 1)
          clear hxy
          go_wp2
          go_still_tail 8, (by kernel_rfl)
          go_wp2_with fail
          go_returns
          exact ⟨by rw [hD.out]; first | done | rfl, hg2⟩
      · have hD := Lib.hid (show decide (xs = ys) = true from by
          have h1 := hE.out
          have h2 := HL.out
          rw [show k = xs.length from by omega, List.take_length, h2, List.take_length] at h1
          simp [h1])
        have hlt1 : ¬ (k : Int) < (xs.length : Int) := by omega
        clear hlt
        go_wp2_with fail
        go_returns
        exact ⟨by rw [hD.out]; first | done | rfl, hg⟩
  · have hl1 : ((xs.length : Int) == (ys.length : Int)) = false := by simpa using fun h => hl (by omega)
    have hE := Lib.hid (show decide (xs = ys) = false from by simp; intro h; exact hl (by rw [h]))
    clear hl
    go_enter Try.func34, Try.ntmps34
    go_wp2_with fail
    go_returns
    exact ⟨by rw [hE.out]; first | done | rfl, Lib.hid (World.grownBy.refl w none)⟩

theorem ints_lo {w w' : World} (h : w.grownBy w' none) : Below w.heap.size w w' := ((Alt.refl (fun k => w.heap.size ≤ k) w).grown h (fun k e => by cases e)).below (Nat.le_refl _) fun _ h => h


/-- A rising list of numbers within bounds. -/
def riseIn (lo hi : Int) (xs : List Int) : Bool := riseB xs && xs.all fun x => inB x lo hi
theorem riseIn_step {lo hi : Int} {xs : List Int} (h1 : xs.Pairwise (· < ·)) (h2 : ∀ x ∈ xs, inB x lo hi = true) : riseIn lo hi xs = true := by
  unfold riseIn riseB
  simp only [h1, decide_true, Bool.true_and, List.all_eq_true]
  exact h2
theorem riseIn_not {lo hi : Int} {xs : List Int} (h : riseB xs = false) : riseIn lo hi xs = false := by unfold riseIn; rw [h]; rfl
theorem riseIn_out {lo hi : Int} {xs : List Int} {x : Int} (hx : x ∈ xs) (h : inB x lo hi = false) : riseIn lo hi xs = false := by
  unfold riseIn
  cases hr : riseB xs
  · rfl
  · simp only [Bool.true_and, List.all_eq_false]
    exact ⟨x, hx, by simp [h]⟩

set_option maxRecDepth 100000 in
set_option maxHeartbeats 4000000 in
theorem rises_any (xs : List Int) (lo hi : Int) (a : Option Addr) (c : Nat) (w : World) (hX : IntsAt w a xs) (hn : xs.length ≤ 1000) :
    Calls Try.prog 74 #[.slice a xs.length c, .int .i64 lo, .int .i64 hi] w fun e w' => e = .returned (.bool (riseIn lo hi xs)) ∧ Below w.heap.size w w' := by
  have HIN : Hid (xs.Pairwise (· < ·) → (∀ x ∈ xs, inB x lo hi = true) → riseIn lo hi xs = true) := Lib.hid riseIn_step
  have HOUT : Hid (∀ x ∈ xs, inB x lo hi = false → riseIn lo hi xs = false) := Lib.hid fun x => riseIn_out
  have HR : Hid (riseB xs = false → riseIn lo hi xs = false) := Lib.hid riseIn_not
  have HX := Lib.hid hX
  have B0 := Lib.hid (Below.refl w.heap.size w)
  generalize riseIn lo hi xs = RES at *
  clear hX
  go_enter Try.func74, Try.ntmps74
  go_wp2_with fail
  go_loopg [11] xs.length (fun g s5 wx => ∃ (i : Nat), i ≤ xs.length ∧ g = xs.length - i ∧ s5 = .int .i64 (i : Int) ∧ Hid ((xs.take i).Pairwise (· < ·) ∧ ∀ x ∈ xs.take i, inB x lo hi = true) ∧ Hid (Below w.heap.size w wx))
  case atStart => exact ⟨0, by omega, by omega, rfl, Lib.hid (by simp), B0⟩
  case round =>
    obtain ⟨i, hi', rfl, rfl, hP, hB⟩ := hrel
    clear B0
    by_cases hlt : i < xs.length
    · obtain ⟨x, hx⟩ : ∃ x, xs[i]? = some x := ⟨xs[i]'hlt, List.getElem?_eq_getElem _⟩
      obtain ⟨g, o, rfl, k1⟩ := HX.out _ _ hx
      have hz0 : (0 : Int) ≤ (i : Int) := by omega
      have hz1 : (i : Int) < (xs.length : Int) := by omega
      have q0 := cell_lo hB.out k1
      have HXI := Lib.hid hx
      clear hx k1
      cases hq : inB x lo hi
      · have HF := Lib.hid (HOUT.out x (List.mem_of_getElem? HXI.out) hq)
        unfold inB at hq
        by_cases hlo : x < lo
        · clear hq
          go_wp2_with fail
          go_returns
          exact ⟨by rw [HF.out]; first | done | rfl, hB.out⟩
        · have hhi : hi < x := by
            simp only [Bool.and_eq_false_iff, decide_eq_false_iff_not] at hq
            omega
          clear hq
          go_wp2_with fail
          go_returns
          exact ⟨by rw [HF.out]; first | done | rfl, hB.out⟩
      · have hxb := inB_iff.1 hq
        have hlo : ¬ x < lo := by omega
        have hhi : ¬ hi < x := by omega
        have HQ := Lib.hid hq
        clear hq hxb
        cases i with
        | zero =>
          have P2 : Hid ((xs.take (0 + 1)).Pairwise (· < ·) ∧ ∀ x ∈ xs.take (0 + 1), inB x lo hi = true) := Lib.hid (by
            rw [List.take_add_one, HXI.out]
            refine ⟨by simp, fun y hy => ?_⟩
            obtain rfl : y = x := by simpa using hy
            exact HQ.out)
          have z00 : ((0 : Nat) : Int) = 0 := rfl
          rw [z00] at hz1 ⊢
          simp only [Nat.add_zero] at q0
          clear hz0 z00
          go_wp2_with fail
          go_roundg (xs.length - 1)
          case measure => omega
          case rel => exact ⟨1, by omega, by omega, by first | rfl | simp, P2, hB⟩
        | succ j =>
          obtain ⟨y, hy⟩ : ∃ y, xs[j]? = some y := ⟨xs[j]'(by omega), List.getElem?_eq_getElem _⟩
          obtain ⟨g', o', he, k2⟩ := HX.out _ _ hy
          obtain ⟨rfl, rfl⟩ : g = g' ∧ o = o' := by simpa using he
          have y0 := cell_lo hB.out k2
          have HYI := Lib.hid hy
          have cj : ((j + 1 : Nat) : Int) = (j : Int) + 1 := by omega
          rw [cj] at hz0 hz1 ⊢
          have hj0 : (0 : Int) ≤ (j : Int) := by omega
          have hj1 : (j : Int) < (xs.length : Int) := by omega
          have hjp : (0 : Int) < (j : Int) + 1 := by omega
          have ewj : IntKind.i64.wrap ((j : Int) + 1 - 1) = (j : Int) := by rw [IntWalk.i64_in _ (by omega)]; omega
          have et : ((j : Int) + 1).toNat = j + 1 := by omega
          have ew2 : IntKind.i64.wrap ((j : Int) + 1 + 1) = (j : Int) + 1 + 1 := IntWalk.i64_in _ (by omega)
          clear hy he k2 cj
          by_cases hxy : y < x
          · have hle : decide (x ≤ y) = false := by simpa using hxy
            have P2 : Hid ((xs.take (j + 1 + 1)).Pairwise (· < ·) ∧ ∀ x ∈ xs.take (j + 1 + 1), inB x lo hi = true) := Lib.hid ⟨rise_step hP.out.1 HYI.out HXI.out hxy, fun z hz => by
              rw [List.take_add_one, HXI.out] at hz
              rcases List.mem_append.1 hz with h | h
              · exact hP.out.2 z h
              · obtain rfl : z = x := by simpa using h
                exact HQ.out⟩
            clear hP
            go_wp2_with fail
            go_roundg (xs.length - (j + 1 + 1))
            case measure => omega
            case rel => exact ⟨j + 1 + 1, by omega, rfl, by simp, P2, hB⟩
          · have hle : decide (x ≤ y) = true := by simpa using hxy
            have HF := Lib.hid (HR.out (rise_not HYI.out HXI.out hxy))
            clear hP
            go_wp2_with fail
            go_returns
            exact ⟨by rw [HF.out]; first | done | rfl, hB.out⟩
    · have hz1 : ¬ (i : Int) < (xs.length : Int) := by omega
      have HF : Hid (RES = true) := Lib.hid (by
        have := hP.out
        rw [List.take_of_length_le (by omega)] at this
        exact HIN.out this.1 this.2)
      clear hP hlt
      go_wp2_with fail
      go_returns
      exact ⟨by rw [HF.out]; first | done | rfl, hB.out⟩

end Go.Proofs.Ytbbndcfnpfedpaa
