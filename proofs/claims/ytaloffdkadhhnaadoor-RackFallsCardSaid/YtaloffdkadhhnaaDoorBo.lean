/- The contract of the reference's Boards: all choices of boards, each a list of its own. -/
import Derived.Test.YtaloffdkadhhnaaDoorLl
set_option linter.unusedVariables false
set_option linter.unusedSimpArgs false
namespace Go.Proofs.YtaloffdkadhhnaaDoor
open Go.RowKit

attribute [local go_sem] Oper.semAt_some

/-- All boards that begin so. -/
def brdL (ball : List Rg) (p : List Int) (n : Nat) : List (List Value) := (choices (ball.drop n)).map fun q => (p ++ q).map (Value.int .i64)
theorem brdL_end (ball : List Rg) (p : List Int) : brdL ball p ball.length = [p.map (Value.int .i64)] := by unfold brdL; simp [choices]
theorem brdL_step {ball : List Rg} {b : Rg} {n : Nat} (p : List Int) (h : ball[n]? = some b) : brdL ball p n = (List.range (spanN b)).flatMap fun (j : Nat) => brdL ball (p ++ [b.lo + (j : Int)]) (n + 1) := by
  have hn := (List.getElem?_eq_some_iff.1 h).1
  have hd : ball.drop n = b :: ball.drop (n + 1) := by
    rw [List.drop_eq_getElem_cons hn]
    congr 1
    exact (List.getElem?_eq_some_iff.1 h).2
  unfold brdL
  rw [hd]
  show ((List.range (spanN b)).flatMap fun (j : Nat) => (choices (ball.drop (n + 1))).map fun q => (b.lo + (j : Int)) :: q).map _ = _
  rw [List.map_flatMap]
  congr 1
  funext j
  rw [List.map_map]
  congr 1
  funext q
  simp
theorem brdL_len {ball : List Rg} (hw : ∀ b ∈ ball, wrongG b = false) (h4 : ball.length ≤ 4) (p : List Int) (n : Nat) : (brdL ball p n).length ≤ 6561 ∧ brdL ball p n ≠ [] := by
  have hw' : ∀ b ∈ ball.drop n, wrongG b = false := fun b hb => hw b (List.mem_of_mem_drop hb)
  have h1 := choices_len _ hw'
  have h2 : (ball.drop n).length ≤ 4 := by rw [List.length_drop]; omega
  have h3 : 9 ^ (ball.drop n).length ≤ 9 ^ 4 := Nat.pow_le_pow_right (by omega) h2
  have h4 := choices_ne _ hw'
  unfold brdL
  refine ⟨by rw [List.length_map]; omega, ?_⟩
  intro h
  exact h4 (List.map_eq_nil_iff.1 h)
theorem flat_take {β : Type} (f : Nat → List β) (i : Nat) : (List.range (i + 1)).flatMap f = (List.range i).flatMap f ++ f i := by
  rw [List.range_succ, List.flatMap_append]; simp
theorem flat_le {β : Type} (f : Nat → List β) {i N : Nat} (h : i ≤ N) : ((List.range i).flatMap f).length ≤ ((List.range N).flatMap f).length := by
  obtain ⟨k, rfl⟩ : ∃ k, N = i + k := ⟨N - i, by omega⟩
  clear h
  induction k with
  | zero => exact Nat.le_refl _
  | succ k ih => rw [← Nat.add_assoc, flat_take, List.length_append]; omega

/-- What a function returns that makes lists of lists. -/
def RetLL (e : TypeId) (base : Nat) (L : List (List Value)) (w : World) (x : Ending) (w' : World) : Prop := ∃ v, x = .returned v ∧ OwnLL e w.heap.size base w' v L ∧ Below w.heap.size w w'

set_option maxRecDepth 100000 in
set_option maxHeartbeats 8000000 in
theorem boards_any (ball : List Rg) (a : Option Addr) (c : Nat) (hw : ∀ b ∈ ball, wrongG b = false) (h4 : ball.length ≤ 4) :
    ∀ (k : Nat) (p : List Int) (n : Nat) (a1 : Option Addr) (c1 base : Nat) (w : World), p.length = n → n + k = ball.length → RgsAt w a ball → RowV base w a1 (p.map (Value.int .i64)) → (∀ g o, a1 = some ⟨g, o, none⟩ → g < w.heap.size) → (a1 = none → p = [] ∧ c1 = 0) → base ≤ w.heap.size →
    Calls Tryd.prog 79 #[.slice a ball.length c, .slice a1 n c1] w (RetLL 25 base (brdL ball p n) w) := by
  intro k
  induction k with
  | zero =>
    intro p n a1 c1 base w hp hk hG hR hlt hN hb
    have hn : n = ball.length := by omega
    subst hn
    rw [brdL_end]
    have HO : Hid (OwnLL 25 w.heap.size base (w.alloc (.cells #[.slice a1 ball.length c1] 25)) (.slice (some ⟨w.heap.size, 0, none⟩) 1 1) [p.map (Value.int .i64)]) := Lib.hid (by
      refine ⟨[.slice a1 ball.length c1], ⟨rfl, .inr ⟨w.heap.size, 1, #[.slice a1 ball.length c1], rfl, Nat.le_refl _, Blk.new w _ _, Nat.le_refl _, by unfold maxLen; omega, rfl, rfl⟩⟩, ?_⟩
      have := RowsOk.one (ob := some w.heap.size) (c := c1) (hR.lo (below_al w (.cells #[.slice a1 ball.length c1] 25))) (fun k e g o e' => by cases e; have := hlt g o e'; omega)
      rw [List.length_map, hp] at this
      exact this)
    clear hG hR hlt hN
    go_enter Tryd.func79, Tryd.ntmps79
    go_wp2_with fail
    go_returns
    exact ⟨_, rfl, HO.out, below_al _ _⟩
  | succ k ih =>
    intro p n a1 c1 base w hp hk hG hR hlt hN hb
    have hnl : n < ball.length := by omega
    obtain ⟨b, hbn⟩ : ∃ b, ball[n]? = some b := ⟨ball[n]'hnl, List.getElem?_eq_getElem _⟩
    obtain ⟨g, o, rfl, k1, k2⟩ := hG _ _ hbn
    have HB := Lib.hid (brdL_step p hbn)
    have hbw := hw b (List.mem_of_getElem? hbn)
    unfold wrongG at hbw
    simp at hbw
    have hsp : (spanN b : Int) = b.hi + 1 - b.lo := by unfold spanN; omega
    have HLB := Lib.hid (fun (j : Nat) => brdL_len hw h4 (p ++ [b.lo + (j : Int)]) (n + 1))
    have HLT := Lib.hid (brdL_len hw h4 p n)
    rw [HB.out] at HLT ⊢
    have IH := Lib.hid (fun (j : Nat) a1 c1 w0 (W : World) (hb : Below w.heap.size w W) (hR : RowV w0 W a1 ((p.map (Value.int .i64)) ++ [.int .i64 (b.lo + (j : Int))])) (hlt : ∀ g o, a1 = some ⟨g, o, none⟩ → g < W.heap.size) (hne : a1 ≠ none) (hw0 : w0 ≤ W.heap.size) =>
      ih (p ++ [b.lo + (j : Int)]) (n + 1) a1 c1 w0 W (by simp [hp]) (by omega) (hG.lower hb) (by rw [List.map_append]; exact hR) hlt (fun e => absurd e hne) hw0)
    have HR := Lib.hid (hR.mono (Nat.zero_le _))
    have HN := Lib.hid hN
    have HK := Lib.hid (And.intro k1 k2)
    obtain ⟨i3, hi3, hy0, hy1, hy2⟩ := info_parts info3
    obtain ⟨i25, hi25, hz0, hz1, hz2⟩ := info_parts info25
    have HCO := Lib.hid (fun (x : Int) W (hb : Below w.heap.size w W) => copy_one 25 3 i3 (.int .i64 0) 8 Tryd.underlying25 hi3 hy0 hy1 hy2 (by decide) rfl (p.map (Value.int .i64)) (by intro u hu; obtain ⟨y, _, rfl⟩ := List.mem_map.1 hu; rfl) (.int .i64 x) rfl a1 c1 W (HR.out.lo hb) (fun e => by have := HN.out e; exact ⟨by rw [this.1]; rfl, this.2⟩) (by rw [List.length_map]; omega))
    have hzn0 : (0 : Int) ≤ (n : Int) := by omega
    have hzn1 : (n : Int) < (ball.length : Int) := by omega
    have hzn2 : ((n : Int) == (ball.length : Int)) = false := by simp; omega
    have HBW := Lib.hid hbw
    have Hb := Lib.hid hb
    have Hhp := Lib.hid (show (p.map (Value.int .i64)).length = n by rw [List.length_map, hp])
    generalize hF : (fun j : Nat => brdL ball (p ++ [b.lo + (j : Int)]) (n + 1)) = F at *
    have HF := Lib.hid (fun j : Nat => congrFun hF j)
    have HFT := Lib.hid (fun j (h : j ≤ spanN b) => flat_le F h)
    have HFS := Lib.hid (fun j => flat_take F j)
    have O0 := Lib.hid (OwnLL.nil 25 w.heap.size w.heap.size w)
    have BL0 := Lib.hid (Below.refl w.heap.size w)
    have kx1 : w.cell? ⟨g, o + n * 2, none⟩ = some (.int .i64 b.lo) := k1
    clear hF hbn hG hR hlt hN ih hw h4 k1 k2 hp hk hbw hb HB
    obtain ⟨lo, hi⟩ := b
    simp only at *
    generalize hS : spanN ⟨lo, hi⟩ = S at *
    clear hS
    go_enter Tryd.func79, Tryd.ntmps79
    go_wp2_with fail
    clear kx1
    go_loopg [5, 6] S (fun g' s5 s6 wx => ∃ (j : Nat), j ≤ S ∧ g' = S - j ∧ s6 = .int .i64 (lo + (j : Int)) ∧ Hid (OwnLL 25 w.heap.size w.heap.size wx s5 ((List.range j).flatMap F)) ∧ Hid (Below w.heap.size w wx))
    case atStart => exact ⟨0, by omega, by omega, by simp, O0, BL0⟩
    case round =>
      obtain ⟨j, hj, rfl, rfl, hO, hBl⟩ := hrel
      clear O0 BL0
      have kx2 : wr.cell? ⟨g, o + n * 2 + 1, none⟩ = some (.int .i64 hi) := cell_lo hBl.out HK.out.2
      by_cases hlj : j < S
      · have hzj : lo + (j : Int) ≤ hi := by omega
        have hw9 := HBW.out
        have hjb : (j : Int) ≤ 100 := by omega
        have e6 : IntKind.i64.wrap (lo + (j : Int) + 1) = lo + (j : Int) + 1 := IntWalk.i64_in _ (by omega)
        obtain ⟨v1, w1, g2, c2, w2, hr1, hr2, hRV, hB2, _⟩ := HCO.out (lo + (j : Int)) wr hBl.out
        rw [Hhp.out] at hr1 hr2
        have HRV := Lib.hid hRV
        have HB2 := Lib.hid hB2
        have hsz := hB2.size
        have IHj := Lib.hid (IH.out j (some ⟨g2, 0, none⟩) c2 wr.heap.size w2 (below_go hBl.out hB2) hRV (fun g o e => by cases e; obtain ⟨g', o', e', hc, _⟩ := hRV (p.map (Value.int .i64)).length (.int .i64 (lo + (j : Int))) (by rw [List.getElem?_append_right (Nat.le_refl _)]; simp); cases e'; exact cell_lt hc) (by simp) hB2.size)
        rw [HF.out j] at IHj
        clear hRV hB2 hw9 HCO
        go_wp2_with (at_builtin; first | refine wpList_run2 rfl _ _ 25 rfl _ _ _ _ rfl rfl hr1 ?_ | refine wpList_run2 rfl _ _ 25 rfl _ _ _ _ rfl rfl hr2 ?_)
        refine IHj.out.mono ?_
        rintro e w3 ⟨v3, rfl, hO3, hb⟩
        have hb3 := below_go HB2.out hb
        obtain ⟨hs, ho, hr⟩ := hO.out.lo hb3
        obtain ⟨hsW, hoW, _⟩ := hO.out
        obtain ⟨a3, c3, rfl, hL3, _⟩ := hO3.out
        have hne := (HLB.out j).2
        rw [HF.out j] at hne
        obtain ⟨l0, hl0⟩ : ∃ l, (F j)[0]? = some l := by
          cases hFj : F j with
          | nil => exact absurd hFj hne
          | cons x y => exact ⟨x, rfl⟩
        obtain ⟨g3, o3, _, _, rfl, _⟩ := hL3 0 l0 hl0
        obtain ⟨hs', x1, x2, x3, x4⟩ := hL3.heads u5.ownBlock (fun k hk e => by have := (hoW.lt k e).2; omega)
        have HX := Lib.hid (And.intro x1 (And.intro x2 x3))
        have hsz3 := hb3.size
        have hszw := hBl.out.size
        have hR' := Lib.hid (x4.mono (show w.heap.size ≤ wr.heap.size by omega))
        have HO := Lib.hid (And.intro ho hr)
        have hl1 := HFT.out (j + 1) (by omega)
        rw [HFS.out j, List.length_append] at hl1
        have HLN := Lib.hid (Nat.le_trans hl1 HLT.out.1)
        have HBl := Lib.hid (below_go hBl.out hb3)
        have HFj := Lib.hid (HFS.out j)
        generalize (List.range j).flatMap F = L0 at *
        generalize hL1 : (List.range (j + 1)).flatMap F = L1 at *
        generalize F j = Fj at *
        have HMX : Hid (L0.length + Fj.length ≤ maxLen) := Lib.hid (by have := HLN.out; unfold maxLen; omega)
        have HBY : Hid ((L0.length + Fj.length) * 24 ≤ 140737488355328) := Lib.hid (by have := HLN.out; omega)
        have HBS : Hid (w.heap.size ≤ w3.heap.size) := Lib.hid (by omega)
        clear hO hO3 hL3 hoW x1 x2 x3 x4 ho hr hl1 HLN hne hl0 hb hb3 hBl HFT HFS HLB HF IH
        go_wp2_with (at_builtin; go_must (refine wpList_append_own_at _ rfl _ _ 67 rfl w.heap.size 25 i25 (.slice none 0 0) 1 24 Tryd.underlying67 hi25 hz0 hz1 hz2 rfl (by decide) _ L0.length hs rfl HO.out.1 ⟨g3, o3, none⟩ Fj.length c3 hs' rfl HX.out.1 HX.out.2.1 HX.out.2.2 HMX.out HBY.out HBS.out ?_); intro v4 w4 hown hgrow hnil hat; have OP := Lib.hid (OwnLL.push HO.out.1 HO.out.2 hR'.out hgrow hown hat); have BP := Lib.hid (below_grow HBl.out hgrow (fun k e => (HO.out.1.lt k e).1)); clear hown hgrow hnil hat)
        go_roundg (S - (j + 1))
        case measure => omega
        case rel => exact ⟨j + 1, by omega, rfl, by first | (simp; done) | (simp; omega) | (congr 1; omega), by rw [hL1, HFj.out]; exact OP, BP⟩
      · have hzj : ¬ lo + (j : Int) ≤ hi := by omega
        obtain rfl : j = S := by omega
        clear HCO IH HFT HFS HLB HF
        go_wp2_with fail
        go_returns
        exact ⟨_, rfl, OwnLL.mono hO.out (Nat.le_refl _) Hb.out, hBl.out⟩

end Go.Proofs.YtaloffdkadhhnaaDoor
