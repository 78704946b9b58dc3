/- The contract of Falls. The contracts of least and greatest, of two numbers. The contract of Left. -/
import Derived.Test.YtaloffdkadhhnaaDoorGf
import Derived.Test.YtaloffdkadhhnaaDoorGe
import Derived.Deep.RegionWith
set_option linter.unusedVariables false
set_option linter.unusedSimpArgs false

namespace Go.Proofs.YtaloffdkadhhnaaDoor
open Go.RowKit Go.Shelf Go.Maps

attribute [local go_sem] Oper.semAt_some

/-- .. that held two of them. -/
theorem leave_ret2 {P : Program} {fn : Func} {R : Ending → World → Prop} {tmps : Array Value} {D2 D1 : Nat} {W : World} {v : Value} (hK : W.heap[D2]? = some (.deferred (some []))) (hK1 : W.heap[D1]? = some (.deferred (some []))) (hne : D1 ≠ D2)
    (hr : (results fn tmps).run P ((W.putObj D2 (.deferred none)).putObj D1 (.deferred none)) = .ok v ((W.putObj D2 (.deferred none)).putObj D1 (.deferred none))) (hR : R (.returned v) ((W.putObj D2 (.deferred none)).putObj D1 (.deferred none))) :
    bodyPostM Fence.wide 0 P fn R .ret { tmps := tmps, defers := [{ target := .collected D2, args := #[] }, { target := .collected D1, args := #[] }] } W :=
  ⟨by simp, .inl ⟨_, _, rfl, run_takeDeferred hK, ⟨by simp, .inl ⟨_, _, rfl, run_takeDeferred ((World.putObj_heap_other hne).trans hK1), ⟨v, hr, hR⟩⟩⟩⟩⟩

/-- .. that held none of them yet. -/
theorem bodyPostM_ret0 {P : Program} {fn : Func} {R : Ending → World → Prop} {tmps : Array Value} {W : World} {v : Value} (hr : (results fn tmps).run P W = .ok v W) (hR : R (.returned v) W) :
    bodyPostM Fence.wide 0 P fn R .ret { tmps := tmps, defers := [] } W := ⟨v, hr, hR⟩

theorem own_len {w : World} {base n : Nat} {e : TypeId} {v : Value} {xs : List Value} (h : w.ownsRow base e 1 v n xs) : ∃ a c, v = .slice a n c := by
  rcases h.2 with ⟨h1, h0⟩ | ⟨g, cap, cur, hv, hb, hg, hc, hm, _⟩
  · exact ⟨none, 0, by rw [h1, h0]⟩
  · exact ⟨_, _, hv⟩

/-- A list in memory. -/
def SlAt (w : World) (v : Value) (L : List Int) : Prop := ∃ a c, v = .slice a L.length c ∧ IntsAt w a L
theorem SlAt.lower {w W : World} {v : Value} {L : List Int} (h : SlAt w v L) (hb : Below w.heap.size w W) : SlAt W v L := by
  obtain ⟨a, c, e, h⟩ := h
  exact ⟨a, c, e, h.lo hb⟩
theorem SlAt.own {w : World} {base n : Nat} {v : Value} {L : List Int} (h : w.ownsRow base 3 1 v n (L.map (Value.int .i64))) : SlAt w v L := by
  obtain ⟨a, c, rfl⟩ := own_len h
  obtain ⟨h1, rfl⟩ := own_intsAt h
  exact ⟨a, c, rfl, h1⟩

theorem SlAt.ownAlt {w W : World} {base n : Nat} {v : Value} {L : List Int} {p : Nat → Prop} (h : w.ownsRow base 3 1 v n (L.map (Value.int .i64))) (ha : Alt p w W) (hp : ∀ k, base ≤ k → ¬ p k) : SlAt W v L := by
  obtain ⟨a, c, rfl⟩ := own_len h
  obtain ⟨h1, h2⟩ := own_intsAt h
  refine ⟨a, c, by rw [h2], h1.alt ha (fun g o e => hp g (own_base h (by rw [e]; rfl)))⟩

def leavesL (r : Rk) (ball : List Rg) (cb : Lk → Bool) (St : Nat) : List Nat := (choices ball).map fun x => hitN r (toCs x) cb St
def sureN (r : Rk) (ball : List Rg) (St : Nat) : Nat := (leavesL r ball (fun l => l.sr) St).foldl (fun m x => dif m x) St
def stayN (r : Rk) (ball : List Rg) (St : Nat) : Nat := (leavesL r ball (fun _ => true) St).foldl (fun m x => m &&& x) St

theorem bal_ok {r : Rk} {xs : List Int} {ball : List Rg} (h : balE r xs ball = 0) : chkE r xs = 0 ∧ ball.length ≤ 4 ∧ (∀ x ∈ ball, wrongG x = false) := by
  unfold balE at h
  split at h
  · next h1 =>
    split at h
    · next h2 =>
      unfold isBallB at h2
      simp only [Bool.and_eq_true, beq_iff_eq, Bool.not_eq_true', List.any_eq_false] at h2
      have := (faultN_ok (chk_ok h1).1).1.r2
      exact ⟨h1, by omega, fun x hx => by simpa using h2.2 x hx⟩
    · cases h
  · next h1 => exact absurd h h1

theorem RdL_in {r : Rk} {a : Option Addr} {b n0 k : Nat} (hla : ∀ g o, r.la = some ⟨g, o, none⟩ → g < n0) (hga : ∀ g o, a = some ⟨g, o, none⟩ → g < n0) (h0 : 0 < n0) (h : RdL r a (fun _ => False) (b + 2) b (b + 3) (b + 1) k) : (b ≤ k ∧ k < b + 4) ∨ k < n0 := by
  unfold RdL at h
  rcases h with rfl | rfl | rfl | rfl | ⟨o, e⟩ | ⟨o, e⟩ | rfl | h
  · omega
  · omega
  · omega
  · omega
  · exact .inr (hga _ _ e)
  · exact .inr (hla _ _ e)
  · exact .inr h0
  · exact h.elim

theorem _root_.Go.RowKit.Below.obj' {w W : World} {o : Obj} {k : Nat} (h : Below w.heap.size w W) (hk : w.heap[k]? = some o) (hl : k < w.heap.size) : W.heap[k]? = some o := (h.block k hl).trans hk

/-- Two lists made, one after the other. -/
structure FE (C : World) (N1 N2 : Nat) (W : World) (v1 v2 : Value) : Prop where
  b : Below C.heap.size C W
  o1 : ∃ W7 n, W7.ownsRow C.heap.size 3 1 v1 n ((els N1).map (Value.int .i64)) ∧ Below W7.heap.size W7 W
  o2 : ∃ n, W.ownsRow C.heap.size 3 1 v2 n ((els N2).map (Value.int .i64))
theorem FE.mk' {C w7 w8 : World} {N1 N2 n1 n2 b : Nat} {v1 v2 : Value} (h1 : w7.ownsRow b 3 1 v1 n1 ((els N1).map (Value.int .i64))) (h2 : w8.ownsRow w7.heap.size 3 1 v2 n2 ((els N2).map (Value.int .i64))) (hb : Below C.heap.size C w7) (h8 : Below w7.heap.size w7 w8) (hc : C.heap.size ≤ b := by exact Nat.le_refl _) : FE C N1 N2 w8 v1 v2 :=
  ⟨below_go hb h8, ⟨w7, n1, own_mono h1 hc, h8⟩, ⟨n2, own_mono h2 hb.size⟩⟩
theorem FE.s1 {C W : World} {N1 N2 : Nat} {v1 v2 : Value} (h : FE C N1 N2 W v1 v2) (D2 D1 : Nat) (hd2 : D2 < C.heap.size) (hd1 : D1 < C.heap.size) : SlAt ((W.putObj D2 (.deferred none)).putObj D1 (.deferred none)) v1 (els N1) := by
  obtain ⟨W7, n, ho, hb⟩ := h.o1
  exact SlAt.ownAlt ho (((Alt.of_below (p := fun k => k = D1 ∨ k = D2) hb (fun k hk e => by omega)).putObj (.inr rfl) _).putObj (.inl rfl) _) (fun k hk e => by omega)
theorem FE.s2 {C W : World} {N1 N2 : Nat} {v1 v2 : Value} (h : FE C N1 N2 W v1 v2) (D2 D1 : Nat) (hd2 : D2 < C.heap.size) (hd1 : D1 < C.heap.size) : SlAt ((W.putObj D2 (.deferred none)).putObj D1 (.deferred none)) v2 (els N2) := by
  obtain ⟨n, ho⟩ := h.o2
  exact SlAt.ownAlt ho (((Alt.refl (fun k => k = D1 ∨ k = D2) W).putObj (.inr rfl) _).putObj (.inl rfl) _) (fun k hk e => by omega)

structure FsPost (r : Rk) (xs : List Int) (ball : List Rg) (w : World) (e : Ending) (w' : World) (v1 v2 : Value) : Prop where
  e : e = .returned (.tuple #[v1, v2, .int .i64 (balE r xs ball)])
  s : SlAt w' v1 (if balE r xs ball = 0 then els (sureN r ball (setN xs)) else [])
  m : SlAt w' v2 (if balE r xs ball = 0 then els (dif (setN xs) (stayN r ball (setN xs))) else [])
  b : Below w.heap.size w w'

set_option maxRecDepth 100000 in
set_option maxHeartbeats 8000000 in
theorem Falls_any (r : Rk) (xs : List Int) (a : Option Addr) (c : Nat) (ball : List Rg) (a2 : Option Addr) (c2 : Nat) (w : World) (hL : LinksAt w r.la r.ls) (hn : r.ls.length ≤ 1000) (hla : ∀ g o, r.la = some ⟨g, o, none⟩ → g < w.heap.size) (hX : IntsAt w a xs) (hm : xs.length ≤ 1000)
    (hG : RgsAt w a2 ball) (hg : ball.length ≤ 1000) (hga : ∀ g o, a2 = some ⟨g, o, none⟩ → g < w.heap.size) (hT : TabOK w) :
    Calls Tryd.prog 35 #[r.val, .slice a xs.length c, .slice a2 ball.length c2] w fun e w' => ∃ v1 v2, FsPost r xs ball w e w' v1 v2 := by
  have CR := Lib.hid (fun W (hb : Below w.heap.size w W) => callsIn_wide (n := 0).2 (checkBall_any r xs a c ball a2 c2 W (hL.lo hb) hn (hX.lo hb) hm (hG.lower hb) hg))
  have hNc : balN r xs ball = if balE r xs ball = 0 then setN xs else 0 := rfl
  have B0 := Lib.hid (below_al w (.cells (rCells r) 32))
  have R0 : Hid (Blk (w.alloc (.cells (rCells r) 32)) w.heap.size (rCells r) 32) := Lib.hid (Blk.new w _ _)
  by_cases hE : balE r xs ball = 0
  · obtain ⟨hce, hbl, hwg⟩ := bal_ok hE
    have hfl := (chk_ok hce).1
    obtain ⟨hs1, hs2, _⟩ := chk_set hce
    have hok := (faultN_ok hfl).1
    have hlk := linksOk_of hfl
    have FIT := Lib.hid (fun W (hb : Below w.heap.size w W) => (⟨hok, hL.lo hb, fun g o e => Nat.lt_of_lt_of_le (hla g o e) hb.size, hlk, hn, hT.lo hb⟩ : r.Fit W))
    rw [if_pos hE] at hNc
    rw [hNc, hE] at CR
    have HPO : Hid (∀ v1 v2 w', SlAt w' v1 (els (sureN r ball (setN xs))) → SlAt w' v2 (els (dif (setN xs) (stayN r ball (setN xs)))) → Below w.heap.size w w' → FsPost r xs ball w (.returned (.tuple #[v1, v2, .int .i64 0])) w' v1 v2) := Lib.hid (fun v1 v2 w' h1 h2 h3 => ⟨by rw [hE], by rw [if_pos hE]; exact h1, by rw [if_pos hE]; exact h2, h3⟩)
    have HPQ : Hid (∀ e w', (∃ v1 v2, e = .returned (.tuple #[v1, v2, .int .i64 0]) ∧ SlAt w' v1 (els (sureN r ball (setN xs))) ∧ SlAt w' v2 (els (dif (setN xs) (stayN r ball (setN xs)))) ∧ Below w.heap.size w w') → ∃ v1 v2, FsPost r xs ball w e w' v1 v2) := Lib.hid (by
      rintro e w' ⟨v1, v2, rfl, h1, h2, h3⟩
      exact ⟨v1, v2, HPO.out v1 v2 w' h1 h2 h3⟩)
    obtain ⟨f1, hf1⟩ : ∃ f1 : List Int → Nat, Hid (f1 = fun x => hitN r (toCs x) (fun l => l.sr) (setN xs)) := ⟨_, Lib.hid rfl⟩
    obtain ⟨f2, hf2⟩ : ∃ f2 : List Int → Nat, Hid (f2 = fun x => hitN r (toCs x) (fun _ => true) (setN xs)) := ⟨_, Lib.hid rfl⟩
    have HS1 : Hid (sureN r ball (setN xs) = ((choices ball).map f1).foldl (fun m x => dif m x) (setN xs)) := Lib.hid (by rw [hf1.out]; rfl)
    have HS2 : Hid (stayN r ball (setN xs) = ((choices ball).map f2).foldl (fun m x => m &&& x) (setN xs)) := Lib.hid (by rw [hf2.out]; rfl)
    have LU1 := Lib.hid (fun W (hb : Below w.heap.size w W) => leaves_use r (setN xs) ball a2 c2 71 (fun l => l.sr) W (carry_sure _) (hG.lower hb) (fun g o e => Nat.lt_of_lt_of_le (hga g o e) hb.size) hbl hwg (FIT.out W hb) hs1 hs2)
    have LU2 := Lib.hid (fun W (hb : Below w.heap.size w W) => leaves_use r (setN xs) ball a2 c2 64 (fun _ => true) W (carry_may _) (hG.lower hb) (fun g o e => Nat.lt_of_lt_of_le (hga g o e) hb.size) hbl hwg (FIT.out W hb) hs1 hs2)
    rw [← hf1.out] at LU1
    rw [← hf2.out] at LU2
    have HF1 : Hid (∀ x, f1 x < 65536) := Lib.hid (fun x => by rw [hf1.out]; exact Sub.lt (leftN_le _ _ _ _) hs1)
    have HF2 : Hid (∀ x, f2 x < 65536) := Lib.hid (fun x => by rw [hf2.out]; exact Sub.lt (leftN_le _ _ _ _) hs1)
    have TAB := Lib.hid (fun W (hb : Below w.heap.size w W) => hT.lo hb)
    have LE := Lib.hid (fun St k W => callsIn_wide (n := 0).2 (leaves_any r St a2 ball.length c2 k #[] W))
    have HLA := Lib.hid hla
    have HGA := Lib.hid hga
    have HTP := Lib.hid (tab_pos hT)
    refine (callsIn_wide (n := 0)).1 ?_
    refine CallsIn.mono (R := fun e w' => ∃ v1 v2, e = .returned (.tuple #[v1, v2, .int .i64 0]) ∧ SlAt w' v1 (els (sureN r ball (setN xs))) ∧ SlAt w' v2 (els (dif (setN xs) (stayN r ball (setN xs)))) ∧ Below w.heap.size w w') ?_ HPQ.out
    clear HPO HPQ hNc hE hce hbl hwg hfl hs2 hok hlk FIT hf1 hf2 hL hla hX hm hG hga hT
    generalize sureN r ball (setN xs) = SU at *
    generalize stayN r ball (setN xs) = SY at *
    generalize setN xs = St at *
    obtain ⟨V, hV⟩ : ∃ V, Hid (V = r.val) := ⟨_, Lib.hid rfl⟩
    unfold rCells at B0 R0
    unfold Rk.val at CR LE
    unfold Rk.val
    clear hV
    refine callsIn_of_wp_marks Tryd.func35 rfl trivial ?_ rfl
    simp only [Tryd.ntmps35, List.size_toArray, List.length_cons, List.length_nil, Nat.reduceAdd, Nat.reduceSub, Array.replicate_succ, Array.replicate_zero, List.push_toArray, List.append_toArray, List.nil_append, List.cons_append]
    gi_wp2
    refine ⟨trivial, rfl, ?_⟩
    refine (CR.out _ B0.out).mono ?_
    rintro e w1 ⟨rfl, hb⟩
    have B1 := Lib.hid (below_go B0.out hb)
    have R1 := Lib.hid (Blk.alt R0.out (Alt.of_below (p := fun _ => False) hb (fun k hk h => by omega)) id)
    have Z1 := Lib.hid (show w.heap.size + 1 ≤ w1.heap.size by have := hb.size; simpa using this)
    clear hb R0 CR B0
    obtain ⟨W2, hW2⟩ : ∃ W2, Hid (W2 = (w1.alloc (.cells #[.int .u16 (St : Nat)] 100)).alloc (.cells #[.int .u16 (St : Nat)] 100)) := ⟨_, Lib.hid rfl⟩
    have XW2 : ∀ p, Alt p w1 W2 := fun p => by rw [hW2.out]; exact ((Alt.refl _ _).alloc _).alloc _
    have Z2 := Lib.hid (show W2.heap.size = w1.heap.size + 2 by rw [hW2.out]; simp)
    have R2 := Lib.hid (Blk.alt R1.out (XW2 fun _ => False) id)
    have B2 := Lib.hid (below_go B1.out ((XW2 fun k => w1.heap.size ≤ k).below (Nat.le_refl _) fun _ h => h))
    have F2 : Hid (Boxed W2 w1.heap.size 100 (.int .u16 (St : Nat))) := Lib.hid (by
      rw [hW2.out]; exact Boxed.alt (p := fun _ => False) (Boxed.new w1 100 _) ((Alt.refl _ _).alloc _) id)
    have Y2 : Hid (Boxed W2 (w1.heap.size + 1) 100 (.int .u16 (St : Nat))) := Lib.hid (by
      rw [hW2.out]
      have := Boxed.new (w1.alloc (.cells #[.int .u16 (St : Nat)] 100)) 100 (.int .u16 (St : Nat))
      rwa [World.size_alloc] at this)
    have r0 : W2.cell? ⟨w.heap.size, 0, none⟩ = some (.int .i64 r.rows) := R2.out.cell 0 rfl
    have r1 : W2.cell? ⟨w.heap.size, 1, none⟩ = some (.int .i64 r.mid) := R2.out.cell 1 rfl
    have r2 : W2.cell? ⟨w.heap.size, 2, none⟩ = some (.int .i64 r.gap) := R2.out.cell 2 rfl
    have r3 : W2.cell? ⟨w.heap.size, 3, none⟩ = some (.int .i64 r.reach) := R2.out.cell 3 rfl
    have r4 : W2.cell? ⟨w.heap.size, 4, none⟩ = some (.slice r.la r.ls.length r.lc) := R2.out.cell 4 rfl
    rw [hW2.out] at r0 r1 r2 r3 r4
    clear R1 XW2 B1
    gi_wp2
    have hWo := hW2.out
    rw [← hWo]
    clear hWo r0 r1 r2 r3 r4 hW2
    refine ⟨trivial, rfl, ?_⟩
    refine (LE.out _ _ _).mono ?_
    rintro e w2 ⟨rfl, rfl⟩
    have LU := Lib.hid (LU1.out W2 B2.out)
    have XL : ∀ p, Alt p W2 (lvW r St a2 ball.length c2 71 #[] W2) := lvW_alt
    have Z3 := Lib.hid (@lvW_size r St a2 ball.length c2 71 #[] W2)
    generalize lvW r St a2 ball.length c2 71 #[] W2 = W3 at *
    have R3 := Lib.hid (Blk.alt R2.out (XL fun _ => False) id)
    have F3 := Lib.hid (Boxed.alt F2.out (XL fun _ => False) id)
    have Y3 := Lib.hid (Boxed.alt Y2.out (XL fun _ => False) id)
    have B3 := Lib.hid (below_go B2.out ((XL fun k => W2.heap.size ≤ k).below (Nat.le_refl _) fun _ h => h))
    clear XL R2 F2 Y2 B2
    gi_wp2
    refine wp_iterA (gf := 98) (lb := #[.pointer (some ⟨W2.heap.size + 1 + 1, 0, none⟩), .pointer (some ⟨W2.heap.size, 0, none⟩), .pointer (some ⟨W2.heap.size + 1 + 1 + 1, 0, none⟩), .pointer (some ⟨W2.heap.size + 1, 0, none⟩)]) rfl eg98 LU.out (fun k h => ?rd) (fun _ => rfl)
      (fun k => k = w1.heap.size) (fun k h => ?hM)
      (fun pre A => Boxed A (w1.heap.size) 100 (.int .u16 (pre.foldl (fun m x => dif m x) St : Nat)) ∧ Alt (fun k => k = w1.heap.size) W3 A)
      (fun pre x a1 A => (Boxed A (w1.heap.size) 100 (.int .u16 (pre.foldl (fun m x => dif m x) St : Nat)) ∧ Alt (fun k => k = w1.heap.size) W3 A) ∧ a1 = { tmps := #[.agg #[.int .i64 r.rows, .int .i64 r.mid, .int .i64 r.gap, .int .i64 r.reach, .slice r.la r.ls.length r.lc], .slice a xs.length c, .slice a2 ball.length c2, .pointer (some ⟨w.heap.size, 0, none⟩), undef, undef, .slice none 0 0, .slice none 0 0, .int .i64 0, .int .u16 (St : Nat), .pointer (some ⟨w1.heap.size, 0, none⟩), .pointer (some ⟨w1.heap.size + 1, 0, none⟩), .int .u16 (x : Nat), undef, .tuple #[.int .u16 (St : Nat), .int .i64 0], .agg #[.int .i64 r.rows, .int .i64 r.mid, .int .i64 r.gap, .int .i64 r.reach, .slice r.la r.ls.length r.lc], .slice a xs.length c, .slice a2 ball.length c2, .tuple #[.int .u16 (St : Nat), .int .i64 0], .int .u16 (St : Nat), .int .i64 0, .int .i64 0, .bool false, undef, .int .u16 (St : Nat), .int .u16 (St : Nat), .agg #[.int .i64 r.rows, .int .i64 r.mid, .int .i64 r.gap, .int .i64 r.reach, .slice r.la r.ls.length r.lc], .int .u16 (St : Nat), .slice a2 ball.length c2, .func (.func 98) #[] #[.pointer (some ⟨W2.heap.size + 1 + 1, 0, none⟩), .pointer (some ⟨W2.heap.size, 0, none⟩), .pointer (some ⟨W2.heap.size + 1 + 1 + 1, 0, none⟩), .pointer (some ⟨W2.heap.size + 1, 0, none⟩)], .int .u16 (x : Nat), undef, undef, undef, undef, undef, undef, undef, undef, undef, undef, undef, undef, undef, undef, undef, undef, undef], defers := [] })
      (fun _ _ _ => False)
      (fun pre A B h hAB => ?stI) (fun pre x a A B h hAB => ?stM) (fun _ _ _ _ h _ => h) ⟨F3.out, Alt.refl _ _⟩ ?assign ?body ?done ?stop
    case rd => have := RdL_in HLA.out HGA.out HTP.out h; have e1 := Z1.out; have e2 := Z2.out; have e3 := Z3.out; omega
    case hM =>
      have e1 := Z1.out; have e2 := Z2.out; have e3 := Z3.out
      exact ⟨fun h2 => by have := RdL_in HLA.out HGA.out HTP.out h2; omega, fun h2 => by unfold Rng at h2; omega⟩
    case stI =>
      have e1 := Z1.out; have e2 := Z2.out; have e3 := Z3.out
      exact ⟨Boxed.alt h.1 hAB (fun e => by unfold Rng at e; omega), h.2.trans2 hAB (fun k hk e => by unfold Rng at e; omega)⟩
    case stM =>
      have e1 := Z1.out; have e2 := Z2.out; have e3 := Z3.out
      exact ⟨⟨Boxed.alt h.1.1 hAB (fun e => by unfold Rng at e; omega), h.1.2.trans2 hAB (fun k hk e => by unfold Rng at e; omega)⟩, h.2⟩
    case assign =>
      intro l2 pre x post A hx hz2 hl2 hr h
      have HH := Lib.hid h
      clear hx hz2 hl2 hr h
      gi_wp2
      exact ⟨Alt.refl _ _, HH.out, by first | trivial | rfl⟩
    case body =>
      rintro l2 pre x post a1 A hx hzA hl2 hr ⟨⟨h1, h2⟩, rfl⟩
      have hxl : x < 65536 := by
        have : x ∈ (choices ball).map f1 := by rw [hx]; simp
        obtain ⟨y, _, rfl⟩ := List.mem_map.1 this
        exact HF1.out y
      have hML : pre.foldl (fun m x => dif m x) St < 65536 := fold_inv (fun M => M < 65536) _ pre St hs1 (fun M q _ hM => dif_lt hM)
      have HSN := Lib.hid (fold_take_snoc (fun m x => dif m x) St pre x)
      generalize pre.foldl (fun m x => dif m x) St = M at *
      have E := bnot16 hML hxl
      have cc := h1.cell
      have cf := h1.frozen
      have H1 := Lib.hid h1
      have H2 := Lib.hid h2
      clear hx hl2 hr h1 h2
      gi_wp2
      exact ⟨(Alt.refl (fun k => k = w1.heap.size) A).setCell (q := ⟨w1.heap.size, 0, none⟩) rfl _, by rw [HSN.out]; exact Boxed.set _ H1.out, H2.out.setCell (q := ⟨w1.heap.size, 0, none⟩) rfl _⟩
    case stop =>
      intro c pre x post B hx h
      exact h.elim
    case done =>
      rintro B ⟨h1, h2⟩ hzB hK'
      rw [← HS1.out] at h1
      have FB := Lib.hid h1
      have AB := Lib.hid h2
      have HKB := Lib.hid hK'
      have RB := Lib.hid (Blk.alt R3.out h2 (by have := Z1.out; omega))
      have YB := Lib.hid (Boxed.alt Y3.out h2 (by omega))
      have BB := Lib.hid (((Alt.of_below (p := fun k => w.heap.size ≤ k) B3.out (fun k _ h => h)).trans (h2.mono fun k _ e => by have := Z1.out; omega)).below (Nat.le_refl _) fun _ h => h)
      have ZB := Lib.hid h2.size
      have r0 : B.cell? ⟨w.heap.size, 0, none⟩ = some (.int .i64 r.rows) := RB.out.cell 0 rfl
      have r1 : B.cell? ⟨w.heap.size, 1, none⟩ = some (.int .i64 r.mid) := RB.out.cell 1 rfl
      have r2 : B.cell? ⟨w.heap.size, 2, none⟩ = some (.int .i64 r.gap) := RB.out.cell 2 rfl
      have r3 : B.cell? ⟨w.heap.size, 3, none⟩ = some (.int .i64 r.reach) := RB.out.cell 3 rfl
      have r4 : B.cell? ⟨w.heap.size, 4, none⟩ = some (.slice r.la r.ls.length r.lc) := RB.out.cell 4 rfl
      clear h1 h2 hK' R3 Y3 B3 F3 LU LU1
      gi_wp2
      refine ⟨trivial, rfl, ?_⟩
      refine (LE.out _ _ _).mono ?_
      rintro e w2 ⟨rfl, rfl⟩
      have LU := Lib.hid (LU2.out B BB.out)
      have XL : ∀ p, Alt p B (lvW r St a2 ball.length c2 64 #[] B) := lvW_alt
      have Z4 := Lib.hid (@lvW_size r St a2 ball.length c2 64 #[] B)
      generalize lvW r St a2 ball.length c2 64 #[] B = W4 at *
      have F4 := Lib.hid (Boxed.alt FB.out (XL fun _ => False) id)
      have Y4 := Lib.hid (Boxed.alt YB.out (XL fun _ => False) id)
      have B4 := Lib.hid (below_go BB.out ((XL fun k => B.heap.size ≤ k).below (Nat.le_refl _) fun _ h => h))
      have K4 := Lib.hid (Alt.obj (XL fun _ => False) HKB.out id)
      clear XL FB YB BB HKB RB r0 r1 r2 r3 r4
      gi_wp2
      refine wp_iterA (gf := 98) (lb := #[.pointer (some ⟨B.heap.size + 1 + 1, 0, none⟩), .pointer (some ⟨B.heap.size, 0, none⟩), .pointer (some ⟨B.heap.size + 1 + 1 + 1, 0, none⟩), .pointer (some ⟨B.heap.size + 1, 0, none⟩)]) rfl eg98 LU.out (fun k h => ?rd) (fun _ => rfl)
        (fun k => k = w1.heap.size + 1) (fun k h => ?hM)
        (fun pre A => Boxed A (w1.heap.size + 1) 100 (.int .u16 (pre.foldl (fun m x => m &&& x) St : Nat)) ∧ Alt (fun k => k = w1.heap.size + 1) W4 A)
        (fun pre x a1 A => (Boxed A (w1.heap.size + 1) 100 (.int .u16 (pre.foldl (fun m x => m &&& x) St : Nat)) ∧ Alt (fun k => k = w1.heap.size + 1) W4 A) ∧ a1 = { tmps := #[.agg #[.int .i64 r.rows, .int .i64 r.mid, .int .i64 r.gap, .int .i64 r.reach, .slice r.la r.ls.length r.lc], .slice a xs.length c, .slice a2 ball.length c2, .pointer (some ⟨w.heap.size, 0, none⟩), undef, undef, .slice none 0 0, .slice none 0 0, .int .i64 0, .int .u16 (St : Nat), .pointer (some ⟨w1.heap.size, 0, none⟩), .pointer (some ⟨w1.heap.size + 1, 0, none⟩), undef, .int .u16 (x : Nat), .tuple #[.int .u16 (St : Nat), .int .i64 0], .agg #[.int .i64 r.rows, .int .i64 r.mid, .int .i64 r.gap, .int .i64 r.reach, .slice r.la r.ls.length r.lc], .slice a xs.length c, .slice a2 ball.length c2, .tuple #[.int .u16 (St : Nat), .int .i64 0], .int .u16 (St : Nat), .int .i64 0, .int .i64 0, .bool false, undef, .int .u16 (St : Nat), .int .u16 (St : Nat), .agg #[.int .i64 r.rows, .int .i64 r.mid, .int .i64 r.gap, .int .i64 r.reach, .slice r.la r.ls.length r.lc], .int .u16 (St : Nat), .slice a2 ball.length c2, .func (.func 98) #[] #[.pointer (some ⟨W2.heap.size + 1 + 1, 0, none⟩), .pointer (some ⟨W2.heap.size, 0, none⟩), .pointer (some ⟨W2.heap.size + 1 + 1 + 1, 0, none⟩), .pointer (some ⟨W2.heap.size + 1, 0, none⟩)], undef, undef, undef, undef, .agg #[.int .i64 r.rows, .int .i64 r.mid, .int .i64 r.gap, .int .i64 r.reach, .slice r.la r.ls.length r.lc], .int .u16 (St : Nat), .slice a2 ball.length c2, .func (.func 98) #[] #[.pointer (some ⟨B.heap.size + 1 + 1, 0, none⟩), .pointer (some ⟨B.heap.size, 0, none⟩), .pointer (some ⟨B.heap.size + 1 + 1 + 1, 0, none⟩), .pointer (some ⟨B.heap.size + 1, 0, none⟩)], .int .u16 (x : Nat), undef, undef, undef, undef, undef, undef, undef, undef, undef], defers := [] })
        (fun _ _ _ => False)
        (fun pre A B h hAB => ?stI) (fun pre x a A B h hAB => ?stM) (fun _ _ _ _ h _ => h) ⟨Y4.out, Alt.refl _ _⟩ ?assign ?body ?done ?stop
      case rd => have := RdL_in HLA.out HGA.out HTP.out h; have e1 := Z1.out; have e2 := Z2.out; have e3 := Z3.out; have e4 := Z4.out; have e5 := ZB.out; omega
      case hM =>
        have e1 := Z1.out; have e2 := Z2.out; have e3 := Z3.out; have e4 := Z4.out; have e5 := ZB.out
        exact ⟨fun h2 => by have := RdL_in HLA.out HGA.out HTP.out h2; omega, fun h2 => by unfold Rng at h2; omega⟩
      case stI =>
        have e1 := Z1.out; have e2 := Z2.out; have e3 := Z3.out; have e4 := Z4.out; have e5 := ZB.out
        exact ⟨Boxed.alt h.1 hAB (fun e => by unfold Rng at e; omega), h.2.trans2 hAB (fun k hk e => by unfold Rng at e; omega)⟩
      case stM =>
        have e1 := Z1.out; have e2 := Z2.out; have e3 := Z3.out; have e4 := Z4.out; have e5 := ZB.out
        exact ⟨⟨Boxed.alt h.1.1 hAB (fun e => by unfold Rng at e; omega), h.1.2.trans2 hAB (fun k hk e => by unfold Rng at e; omega)⟩, h.2⟩
      case assign =>
        intro l2 pre x post A hx hz2 hl2 hr h
        have HH := Lib.hid h
        clear hx hz2 hl2 hr h
        gi_wp2
        exact ⟨Alt.refl _ _, HH.out, by first | trivial | rfl⟩
      case body =>
        rintro l2 pre x post a1 A hx hzA hl2 hr ⟨⟨h1, h2⟩, rfl⟩
        have hxl : x < 65536 := by
          have : x ∈ (choices ball).map f2 := by rw [hx]; simp
          obtain ⟨y, _, rfl⟩ := List.mem_map.1 this
          exact HF2.out y
        have hML : pre.foldl (fun m x => m &&& x) St < 65536 := fold_inv (fun M => M < 65536) _ pre St hs1 (fun M q _ hM => Nat.lt_of_le_of_lt Nat.and_le_left hM)
        have HSN := Lib.hid (fold_take_snoc (fun m x => m &&& x) St pre x)
        generalize pre.foldl (fun m x => m &&& x) St = M at *
        have E := and16 hML hxl
        have cc := h1.cell
        have cf := h1.frozen
        have H1 := Lib.hid h1
        have H2 := Lib.hid h2
        clear hx hl2 hr h1 h2
        gi_wp2
        exact ⟨(Alt.refl (fun k => k = w1.heap.size + 1) A).setCell (q := ⟨w1.heap.size + 1, 0, none⟩) rfl _, by rw [HSN.out]; exact Boxed.set _ H1.out, H2.out.setCell (q := ⟨w1.heap.size + 1, 0, none⟩) rfl _⟩
      case stop =>
        intro c pre x post B hx h
        exact h.elim
      case done =>
        rintro C ⟨h1, h2⟩ hzC hK2
        rw [← HS2.out] at h1
        have e1 := Z1.out; have e2 := Z2.out; have e3 := Z3.out; have e4 := Z4.out; have e5 := ZB.out
        have FC := Lib.hid (Boxed.alt F4.out h2 (by omega))
        have YC := Lib.hid h1
        have BC := Lib.hid (((Alt.of_below (p := fun k => w.heap.size ≤ k) B4.out (fun k _ h => h)).trans (h2.mono fun k _ e => by omega)).below (Nat.le_refl _) fun _ h => h)
        have K1 := Lib.hid (h2.obj K4.out (by omega))
        have K2 := Lib.hid hK2
        have hSU : SU < 65536 := by
          rw [HS1.out]
          exact fold_inv (fun M => M < 65536) _ _ St hs1 (fun M q _ hM => dif_lt hM)
        have hSY : SY < 65536 := by
          rw [HS2.out]
          exact fold_inv (fun M => M < 65536) _ _ St hs1 (fun M q _ hM => Nat.lt_of_le_of_lt Nat.and_le_left hM)
        have E2 := bnot16 hs1 hSY
        have LI1 := Lib.hid (fun W' (hb : Below C.heap.size C W') => callsIn_wide (n := 0).2 <| list_any SU W' hSU (TAB.out W' (below_go BC.out hb)))
        have LI2 := Lib.hid (fun W' (hb : Below C.heap.size C W') => callsIn_wide (n := 0).2 <| list_any (dif St SY) W' (dif_lt hs1) (TAB.out W' (below_go BC.out hb)))
        have cF := FC.out.cell
        have cY := YC.out.cell
        have hW34 := Lib.hid (show W3.heap.size ≠ W4.heap.size by omega)
        have hWC := Lib.hid (show W3.heap.size < C.heap.size ∧ W4.heap.size < C.heap.size by omega)
        have hWw := Lib.hid (show w.heap.size ≤ W3.heap.size ∧ w.heap.size ≤ W4.heap.size by omega)
        clear h1 h2 hK2 e1 e2 e3 e4 e5 F4 Y4 B4 K4 LU LU2 HS1 HS2 TAB LE HLA HGA Z1 Z2 Z3 Z4 ZB hs1 hSU hSY AB HF1 HF2
        have hc0 : w1.heap.size + 1 < C.heap.size := YC.out.lt
        have hmx : Tryd.prog.follows .mixedOrders = true := by kernel_rfl
        gi_wp2
        gi_cut [6, 7, 8] from 42 (fun s6 s7 s8 wx => s8 = .int .i64 0 ∧ Hid (FE C SU (dif St SY) wx s6 s7))
        case first =>
          first
            | (gi_region_with_o (first
              | ((refine ⟨trivial, rfl, ?_⟩); (with_reducible refine (LI1.out _ (Below.refl _ _).drew).mono ?_); rintro e w7 ⟨v1, rfl, ho1, hb7⟩; have B7 : Hid (Below C.heap.size C w7) := Lib.hid (below_go (Below.refl _ C).drew hb7); have cy7 : w7.cell? ⟨w1.heap.size + 1, 0, none⟩ = some (.int .u16 (SY : Nat)) := cell_lo B7.out cY; have O1 := Lib.hid ho1; clear ho1 hb7)
              | ((refine ⟨trivial, rfl, ?_⟩); (with_reducible refine (LI2.out _ B7.out).mono ?_); rintro e w8 ⟨v2, rfl, ho2, hb8⟩; have B8 : Hid (Below w7.heap.size w7 w8) := Lib.hid hb8; have O2 := Lib.hid ho2; clear ho2 hb8)))
            | fail "region"
          all_goals gi_wp2
          all_goals gi_meet
          all_goals exact ⟨rfl, Lib.hid (FE.mk' O1.out O2.out B7.out B8.out)⟩
        case rest =>
          obtain ⟨rfl, hFE⟩ := hcut
          clear LI1 LI2 cF cY E2 FC YC
          gi_wp2
          have h2 := hFE.out
          exact leave_ret2 (h2.b.obj' K2.out hWC.out.2) (h2.b.obj' K1.out hWC.out.1) hW34.out (v := .tuple #[u6, u7, .int .i64 0]) (by simp [results, Tryd.results35, go_sem])
            ⟨u6, u7, rfl, h2.s1 _ _ hWC.out.2 hWC.out.1, h2.s2 _ _ hWC.out.2 hWC.out.1, (((Alt.of_below (p := fun k => w.heap.size ≤ k) (below_go BC.out h2.b) (fun k _ h => h)).putObj hWw.out.2 _).putObj hWw.out.1 _).below (Nat.le_refl _) fun _ h => h⟩
  · have hE' : (balE r xs ball == 0) = false := by simpa using hE
    rw [if_neg hE] at hNc
    rw [hNc] at CR
    have HPO : Hid (∀ e w', e = .returned (.tuple #[.slice none 0 0, .slice none 0 0, .int .i64 (balE r xs ball)]) ∧ Below w.heap.size w w' → ∃ v1 v2, FsPost r xs ball w e w' v1 v2) := Lib.hid (fun e w' h =>
      ⟨_, _, h.1, by rw [if_neg hE]; exact ⟨none, 0, rfl, fun i v hv => by simp at hv⟩, by rw [if_neg hE]; exact ⟨none, 0, rfl, fun i v hv => by simp at hv⟩, h.2⟩)
    refine (callsIn_wide (n := 0)).1 ?_
    refine CallsIn.mono (R := fun e w' => e = .returned (.tuple #[.slice none 0 0, .slice none 0 0, .int .i64 (balE r xs ball)]) ∧ Below w.heap.size w w') ?_ HPO.out
    clear HPO
    generalize balE r xs ball = E at *
    clear hNc hE hL hla hX hm hG hga hT
    unfold rCells at B0 R0
    unfold Rk.val at CR
    unfold Rk.val
    refine callsIn_of_wp_marks Tryd.func35 rfl trivial ?_ rfl
    simp only [Tryd.ntmps35, List.size_toArray, List.length_cons, List.length_nil, Nat.reduceAdd, Nat.reduceSub, Array.replicate_succ, Array.replicate_zero, List.push_toArray, List.append_toArray, List.nil_append, List.cons_append]
    gi_wp2
    refine ⟨trivial, rfl, ?_⟩
    refine (CR.out _ B0.out).mono ?_
    rintro e w1 ⟨rfl, hb⟩
    have B1 := Lib.hid (below_go B0.out hb)
    clear hb R0 CR B0
    gi_wp2
    refine bodyPostM_ret0 (v := .tuple #[.slice none 0 0, .slice none 0 0, .int .i64 E]) (by simp [results, Tryd.results35, go_sem]) ⟨rfl, B1.out⟩

end Go.Proofs.YtaloffdkadhhnaaDoor

namespace Go.Proofs.YtaloffdkadhhnaaDoor
open Go.RowKit Go.Shelf

attribute [local go_sem] Oper.semAt_some

set_option maxRecDepth 100000 in
set_option maxHeartbeats 2000000 in
theorem least_any (x y : Int) (g o c : Nat) (w : World) (hy : w.cell? ⟨g, o, none⟩ = some (.int .i64 y)) :
    Calls Tryd.prog 72 #[.int .i64 x, .slice (some ⟨g, o, none⟩) 1 c] w fun e w' => e = .returned (.int .i64 (min x y)) ∧ w = w' := by
  go_enter Tryd.func72, Tryd.ntmps72
  go_wp2_with fail
  refine wp_loop_rounds 2 ?_
  rw [rounds_succ]; go_wp2_with fail
  all_goals rw [rounds_succ]
  all_goals go_wp2_with fail
  all_goals refine bodyPost_ret (results_tmp rfl _ _ _) rfl ⟨?_, rfl⟩
  all_goals
    show Ending.returned (Value.int .i64 _) = _
    congr 2
    omega

set_option maxRecDepth 100000 in
set_option maxHeartbeats 2000000 in
theorem greatest_any (x y : Int) (g o c : Nat) (w : World) (hy : w.cell? ⟨g, o, none⟩ = some (.int .i64 y)) :
    Calls Tryd.prog 74 #[.int .i64 x, .slice (some ⟨g, o, none⟩) 1 c] w fun e w' => e = .returned (.int .i64 (max x y)) ∧ w = w' := by
  go_enter Tryd.func74, Tryd.ntmps74
  go_wp2_with fail
  refine wp_loop_rounds 2 ?_
  rw [rounds_succ]; go_wp2_with fail
  all_goals rw [rounds_succ]
  all_goals go_wp2_with fail
  all_goals refine bodyPost_ret (results_tmp rfl _ _ _) rfl ⟨?_, rfl⟩
  all_goals
    show Ending.returned (Value.int .i64 _) = _
    congr 2
    omega

end Go.Proofs.YtaloffdkadhhnaaDoor

namespace Go.Proofs.YtaloffdkadhhnaaDoor
open Go.RowKit Go.Shelf Go.Maps

attribute [local go_sem] Oper.semAt_some

def lowN (r : Rk) (ball : List Rg) (St : Nat) (n : Int) : Int := (leavesL r ball (fun _ => true) St).foldl (fun m x => min m (sizeN x : Nat)) n
def topN (r : Rk) (ball : List Rg) (St : Nat) : Int := (leavesL r ball (fun l => l.sr) St).foldl (fun m x => max m (sizeN x : Nat)) 0
def lefV (r : Rk) (xs : List Int) (ball : List Rg) : Rg := if balE r xs ball = 0 then ⟨lowN r ball (setN xs) xs.length, topN r ball (setN xs)⟩ else ⟨0, 0⟩

set_option maxRecDepth 100000 in
set_option maxHeartbeats 8000000 in
theorem Left_any (r : Rk) (xs : List Int) (a : Option Addr) (c : Nat) (ball : List Rg) (a2 : Option Addr) (c2 : Nat) (w : World) (hL : LinksAt w r.la r.ls) (hn : r.ls.length ≤ 1000) (hla : ∀ g o, r.la = some ⟨g, o, none⟩ → g < w.heap.size) (hX : IntsAt w a xs) (hm : xs.length ≤ 1000)
    (hG : RgsAt w a2 ball) (hg : ball.length ≤ 1000) (hga : ∀ g o, a2 = some ⟨g, o, none⟩ → g < w.heap.size) (hT : TabOK w) :
    Calls Tryd.prog 36 #[r.val, .slice a xs.length c, .slice a2 ball.length c2] w fun e w' => e = .returned (.tuple #[(lefV r xs ball).val, .int .i64 (balE r xs ball)]) ∧ Below w.heap.size w w' := by
  have CR := Lib.hid (fun W (hb : Below w.heap.size w W) => callsIn_wide (n := 0).2 (checkBall_any r xs a c ball a2 c2 W (hL.lo hb) hn (hX.lo hb) hm (hG.lower hb) hg))
  have hNc : balN r xs ball = if balE r xs ball = 0 then setN xs else 0 := rfl
  have HRv : Hid (lefV r xs ball = if balE r xs ball = 0 then ⟨lowN r ball (setN xs) xs.length, topN r ball (setN xs)⟩ else ⟨0, 0⟩) := Lib.hid rfl
  have B0 := Lib.hid (below_al2 (below_al w (.cells (rCells r) 32)) (.cells #[.int .i64 0, .int .i64 0] 63))
  have R0 : Hid (Blk ((w.alloc (.cells (rCells r) 32)).alloc (.cells #[.int .i64 0, .int .i64 0] 63)) w.heap.size (rCells r) 32) := Lib.hid (Blk.alt (p := fun _ => False) (Blk.new w _ _) ((Alt.refl _ _).alloc _) id)
  have T0 : Hid (Blk ((w.alloc (.cells (rCells r) 32)).alloc (.cells #[.int .i64 0, .int .i64 0] 63)) (w.heap.size + 1) #[.int .i64 0, .int .i64 0] 63) := Lib.hid (by
    have := Blk.new (w.alloc (.cells (rCells r) 32)) #[.int .i64 0, .int .i64 0] 63
    rwa [World.size_alloc] at this)
  by_cases hE : balE r xs ball = 0
  · obtain ⟨hce, hbl, hwg⟩ := bal_ok hE
    have hfl := (chk_ok hce).1
    obtain ⟨hs1, hs2, _⟩ := chk_set hce
    have hok := (faultN_ok hfl).1
    have hlk := linksOk_of hfl
    have FIT := Lib.hid (fun W (hb : Below w.heap.size w W) => (⟨hok, hL.lo hb, fun g o e => Nat.lt_of_lt_of_le (hla g o e) hb.size, hlk, hn, hT.lo hb⟩ : r.Fit W))
    rw [if_pos hE] at hNc
    rw [hNc, hE] at CR
    rw [HRv.out, if_pos hE, hE]
    obtain ⟨f1, hf1⟩ : ∃ f1 : List Int → Nat, Hid (f1 = fun x => hitN r (toCs x) (fun l => l.sr) (setN xs)) := ⟨_, Lib.hid rfl⟩
    obtain ⟨f2, hf2⟩ : ∃ f2 : List Int → Nat, Hid (f2 = fun x => hitN r (toCs x) (fun _ => true) (setN xs)) := ⟨_, Lib.hid rfl⟩
    have HS1 : Hid (topN r ball (setN xs) = ((choices ball).map f1).foldl (fun (m : Int) (x : Nat) => max m (sizeN x : Nat)) (0 : Int)) := Lib.hid (by rw [hf1.out]; rfl)
    have HS2 : Hid (lowN r ball (setN xs) xs.length = ((choices ball).map f2).foldl (fun (m : Int) (x : Nat) => min m (sizeN x : Nat)) ((xs.length : Nat) : Int)) := Lib.hid (by rw [hf2.out]; rfl)
    have LU1 := Lib.hid (fun W (hb : Below w.heap.size w W) => leaves_use r (setN xs) ball a2 c2 71 (fun l => l.sr) W (carry_sure _) (hG.lower hb) (fun g o e => Nat.lt_of_lt_of_le (hga g o e) hb.size) hbl hwg (FIT.out W hb) hs1 hs2)
    have LU2 := Lib.hid (fun W (hb : Below w.heap.size w W) => leaves_use r (setN xs) ball a2 c2 64 (fun _ => true) W (carry_may _) (hG.lower hb) (fun g o e => Nat.lt_of_lt_of_le (hga g o e) hb.size) hbl hwg (FIT.out W hb) hs1 hs2)
    rw [← hf1.out] at LU1
    rw [← hf2.out] at LU2
    have HF1 : Hid (∀ x, f1 x < 65536) := Lib.hid (fun x => by rw [hf1.out]; exact Sub.lt (leftN_le _ _ _ _) hs1)
    have HF2 : Hid (∀ x, f2 x < 65536) := Lib.hid (fun x => by rw [hf2.out]; exact Sub.lt (leftN_le _ _ _ _) hs1)
    have LE := Lib.hid (fun St k W => callsIn_wide (n := 0).2 (leaves_any r St a2 ball.length c2 k #[] W))
    have HLA := Lib.hid hla
    have HGA := Lib.hid hga
    have HTP := Lib.hid (tab_pos hT)
    clear HRv hNc hE hce hbl hwg hfl hs2 hok hlk FIT hf1 hf2 hL hla hX hm hG hga hT
    generalize topN r ball (setN xs) = SU at *
    generalize lowN r ball (setN xs) xs.length = SY at *
    generalize setN xs = St at *
    unfold rCells at B0 R0 T0
    unfold Rk.val at CR LE
    unfold Rk.val Rg.val
    refine (callsIn_wide (n := 0)).1 ?_
    refine callsIn_of_wp_marks Tryd.func36 rfl trivial ?_ rfl
    simp only [Tryd.ntmps36, List.size_toArray, List.length_cons, List.length_nil, Nat.reduceAdd, Nat.reduceSub, Array.replicate_succ, Array.replicate_zero, List.push_toArray, List.append_toArray, List.nil_append, List.cons_append]
    gi_wp2
    refine ⟨trivial, rfl, ?_⟩
    refine (CR.out _ B0.out).mono ?_
    rintro e w1 ⟨rfl, hb⟩
    have B1 := Lib.hid (below_go B0.out hb)
    have R1 := Lib.hid (Blk.alt R0.out (Alt.of_below (p := fun _ => False) hb (fun k hk h => by omega)) id)
    have T1 := Lib.hid (Blk.alt T0.out (Alt.of_below (p := fun _ => False) hb (fun k hk h => by omega)) id)
    have Z1 := Lib.hid (show w.heap.size + 2 ≤ w1.heap.size by have := hb.size; simpa using this)
    clear hb R0 CR B0 T0
    obtain ⟨W2, hW2⟩ : ∃ W2, Hid (W2 = w1.alloc (.cells #[.int .i64 (xs.length : Nat), .int .i64 0] 63)) := ⟨_, Lib.hid rfl⟩
    have XW2 : ∀ p, Alt p w1 W2 := fun p => by rw [hW2.out]; exact (Alt.refl _ _).alloc _
    have Z2 := Lib.hid (show W2.heap.size = w1.heap.size + 1 by rw [hW2.out]; simp)
    have R2 := Lib.hid (Blk.alt R1.out (XW2 fun _ => False) id)
    have T2 := Lib.hid (Blk.alt T1.out (XW2 fun _ => False) id)
    have B2 := Lib.hid (below_go B1.out ((XW2 fun k => w1.heap.size ≤ k).below (Nat.le_refl _) fun _ h => h))
    have E2 : Hid (Blk W2 w1.heap.size #[.int .i64 (xs.length : Nat), .int .i64 0] 63) := Lib.hid (by rw [hW2.out]; exact Blk.new _ _ _)
    have r0 : W2.cell? ⟨w.heap.size, 0, none⟩ = some (.int .i64 r.rows) := R2.out.cell 0 rfl
    have r1 : W2.cell? ⟨w.heap.size, 1, none⟩ = some (.int .i64 r.mid) := R2.out.cell 1 rfl
    have r2 : W2.cell? ⟨w.heap.size, 2, none⟩ = some (.int .i64 r.gap) := R2.out.cell 2 rfl
    have r3 : W2.cell? ⟨w.heap.size, 3, none⟩ = some (.int .i64 r.reach) := R2.out.cell 3 rfl
    have r4 : W2.cell? ⟨w.heap.size, 4, none⟩ = some (.slice r.la r.ls.length r.lc) := R2.out.cell 4 rfl
    rw [hW2.out] at r0 r1 r2 r3 r4
    clear R1 T1 XW2 B1
    gi_wp2
    have hWo := hW2.out
    rw [← hWo]
    clear hWo r0 r1 r2 r3 r4 hW2
    refine ⟨trivial, rfl, ?_⟩
    refine (LE.out _ _ _).mono ?_
    rintro e w2 ⟨rfl, rfl⟩
    have LU := Lib.hid (LU2.out W2 B2.out)
    have XL : ∀ p, Alt p W2 (lvW r St a2 ball.length c2 64 #[] W2) := lvW_alt
    have Z3 := Lib.hid (@lvW_size r St a2 ball.length c2 64 #[] W2)
    generalize lvW r St a2 ball.length c2 64 #[] W2 = W3 at *
    have R3 := Lib.hid (Blk.alt R2.out (XL fun _ => False) id)
    have T3 := Lib.hid (Blk.alt T2.out (XL fun _ => False) id)
    have E3 := Lib.hid (Blk.alt E2.out (XL fun _ => False) id)
    have B3 := Lib.hid (below_go B2.out ((XL fun k => W2.heap.size ≤ k).below (Nat.le_refl _) fun _ h => h))
    clear XL R2 T2 E2 B2
    gi_wp2
    refine wp_iterA (gf := 98) (lb := #[.pointer (some ⟨W2.heap.size + 1 + 1, 0, none⟩), .pointer (some ⟨W2.heap.size, 0, none⟩), .pointer (some ⟨W2.heap.size + 1 + 1 + 1, 0, none⟩), .pointer (some ⟨W2.heap.size + 1, 0, none⟩)]) rfl eg98 LU.out (fun k h => ?rd) (fun _ => rfl)
      (fun k => k = w1.heap.size) (fun k h => ?hM)
      (fun pre A => Blk A w1.heap.size #[.int .i64 (pre.foldl (fun (m : Int) (x : Nat) => min m (sizeN x : Nat)) ((xs.length : Nat) : Int)), .int .i64 0] 63 ∧ Alt (fun k => k = w1.heap.size) W3 A)
      (fun pre x a1 A => (Blk A w1.heap.size #[.int .i64 (pre.foldl (fun (m : Int) (x : Nat) => min m (sizeN x : Nat)) ((xs.length : Nat) : Int)), .int .i64 0] 63 ∧ Alt (fun k => k = w1.heap.size) W3 A) ∧ a1 = { tmps := #[.agg #[.int .i64 r.rows, .int .i64 r.mid, .int .i64 r.gap, .int .i64 r.reach, .slice r.la r.ls.length r.lc], .slice a xs.length c, .slice a2 ball.length c2, .pointer (some ⟨w.heap.size, 0, none⟩), undef, undef, .pointer (some ⟨w.heap.size + 1, 0, none⟩), .int .i64 0, .int .u16 (St : Nat), .int .i64 0, .pointer (some ⟨w1.heap.size, 0, none⟩), .int .u16 (x : Nat), undef, .tuple #[.int .u16 (St : Nat), .int .i64 0], .agg #[.int .i64 r.rows, .int .i64 r.mid, .int .i64 r.gap, .int .i64 r.reach, .slice r.la r.ls.length r.lc], .slice a xs.length c, .slice a2 ball.length c2, .tuple #[.int .u16 (St : Nat), .int .i64 0], .int .u16 (St : Nat), .int .i64 0, .int .i64 0, .bool false, undef, undef, .slice a xs.length c, .int .i64 (xs.length : Nat), .agg #[.int .i64 (xs.length : Nat), .int .i64 0], .agg #[.int .i64 r.rows, .int .i64 r.mid, .int .i64 r.gap, .int .i64 r.reach, .slice r.la r.ls.length r.lc], .int .u16 (St : Nat), .slice a2 ball.length c2, .func (.func 98) #[] #[.pointer (some ⟨W2.heap.size + 1 + 1, 0, none⟩), .pointer (some ⟨W2.heap.size, 0, none⟩), .pointer (some ⟨W2.heap.size + 1 + 1 + 1, 0, none⟩), .pointer (some ⟨W2.heap.size + 1, 0, none⟩)], .int .u16 (x : Nat), undef, undef, undef, undef, undef, undef, undef, undef, undef, undef, undef, undef, undef, undef, undef, undef, undef, undef, undef, undef], defers := [] })
      (fun _ _ _ => False)
      (fun pre A B h hAB => ?stI) (fun pre x a A B h hAB => ?stM) (fun _ _ _ _ h _ => h) ⟨E3.out, Alt.refl _ _⟩ ?assign ?body ?done ?stop
    case rd => have := RdL_in HLA.out HGA.out HTP.out h; have e1 := Z1.out; have e2 := Z2.out; have e3 := Z3.out; omega
    case hM =>
      have e1 := Z1.out; have e2 := Z2.out; have e3 := Z3.out
      exact ⟨fun h2 => by have := RdL_in HLA.out HGA.out HTP.out h2; omega, fun h2 => by unfold Rng at h2; omega⟩
    case stI =>
      have e1 := Z1.out; have e2 := Z2.out; have e3 := Z3.out
      exact ⟨Blk.alt h.1 hAB (fun e => by unfold Rng at e; omega), h.2.trans2 hAB (fun k hk e => by unfold Rng at e; omega)⟩
    case stM =>
      have e1 := Z1.out; have e2 := Z2.out; have e3 := Z3.out
      exact ⟨⟨Blk.alt h.1.1 hAB (fun e => by unfold Rng at e; omega), h.1.2.trans2 hAB (fun k hk e => by unfold Rng at e; omega)⟩, h.2⟩
    case assign =>
      intro l2 pre x post A hx hz2 hl2 hr h
      have HH := Lib.hid h
      clear hx hz2 hl2 hr h
      gi_wp2
      exact ⟨Alt.refl _ _, HH.out, by first | trivial | rfl⟩
    case body =>
      rintro l2 pre x post a1 A hx hzA hl2 hr ⟨⟨h1, h2⟩, rfl⟩
      have hxl : x < 65536 := by
        have : x ∈ (choices ball).map f2 := by rw [hx]; simp
        obtain ⟨y, _, rfl⟩ := List.mem_map.1 this
        exact HF2.out y
      have HSN := Lib.hid (fold_take_snoc (fun (m : Int) (x : Nat) => min m (sizeN x : Nat)) ((xs.length : Nat) : Int) pre x)
      generalize pre.foldl (fun (m : Int) (x : Nat) => min m (sizeN x : Nat)) ((xs.length : Nat) : Int) = M at *
      have SZ := Lib.hid (fun W => CallsIn.inRound l2 (callsIn_wide (n := 0).2 (size_any x W hxl)))
      generalize sizeN x = SN at *
      have LEA := Lib.hid (fun (W : World) => CallsIn.inRound l2 (callsIn_wide (n := 0).2 (least_any M (SN : Nat) W.heap.size 0 1 (W.alloc (.cells #[.int .i64 (SN : Nat)] 3)) (new_cell W (t := 3) (i := 0) rfl))))
      have H1 := Lib.hid h1
      have H2 := Lib.hid h2
      have hmx : Tryd.prog.follows .mixedOrders = true := by kernel_rfl
      have c0 := H1.out.cell 0 (show _ = some (Value.int .i64 M) from rfl)
      clear hx hl2 hr h1 h2 HF1 HF2
      gi_wp2
      have c1 := H1.out.fr 0
      first
        | (gi_region_with_o (first
            | ((refine ⟨trivial, rfl, ?_⟩); (with_reducible refine (SZ.out _).mono ?_); rintro e w7 ⟨rfl, n7, rfl⟩; generalize hw7 : World.drewN (World.drew A) n7 = w7; have X7 : Hid (∀ p, Alt p A w7) := Lib.hid (fun p => by rw [← hw7]; exact (Alt.refl _ _).drew.drewN _); have K7 := Lib.hid (Blk.alt H1.out (X7.out fun _ => False) id); have a0 : w7.cell? ⟨w1.heap.size, 0, none⟩ = some (.int .i64 M) := K7.out.cell 0 rfl; have K8 := Lib.hid (Blk.alt K7.out ((Alt.refl (fun _ => False) w7).alloc (.cells #[.int .i64 (SN : Nat)] 3)) id); have b0 : (w7.alloc (.cells #[.int .i64 (SN : Nat)] 3)).cell? ⟨w1.heap.size, 0, none⟩ = some (.int .i64 M) := K8.out.cell 0 rfl; have b1 := K8.out.fr 0; clear hw7)
            | ((refine ⟨trivial, rfl, ?_⟩); (with_reducible refine (LEA.out _).mono ?_); rintro e w8 ⟨rfl, rfl⟩)))
        | fail "region"
      all_goals gi_wp2
      all_goals exact ⟨((X7.out (fun k => k = w1.heap.size)).alloc _).setCell (q := ⟨w1.heap.size, 0, none⟩) rfl _, by rw [HSN.out]; exact Blk.setAt K8.out 0 _, (H2.out.trans ((X7.out (fun k => k = w1.heap.size)).alloc _)).setCell (q := ⟨w1.heap.size, 0, none⟩) rfl _⟩
    case stop =>
      intro c pre x post B hx h
      exact h.elim
    case done =>
      rintro B ⟨h1, h2⟩ hzB hK'
      rw [← HS2.out] at h1
      have AB := Lib.hid h2
      have EB := Lib.hid h1
      have HKB := Lib.hid hK'
      have RB := Lib.hid (Blk.alt R3.out h2 (by have := Z1.out; omega))
      have TB := Lib.hid (Blk.alt T3.out h2 (by have := Z1.out; omega))
      have BB := Lib.hid (((Alt.of_below (p := fun k => w.heap.size ≤ k) B3.out (fun k _ h => h)).trans (h2.mono fun k _ e => by have := Z1.out; omega)).below (Nat.le_refl _) fun _ h => h)
      have ZB := Lib.hid h2.size
      have r0 : B.cell? ⟨w.heap.size, 0, none⟩ = some (.int .i64 r.rows) := RB.out.cell 0 rfl
      have r1 : B.cell? ⟨w.heap.size, 1, none⟩ = some (.int .i64 r.mid) := RB.out.cell 1 rfl
      have r2 : B.cell? ⟨w.heap.size, 2, none⟩ = some (.int .i64 r.gap) := RB.out.cell 2 rfl
      have r3 : B.cell? ⟨w.heap.size, 3, none⟩ = some (.int .i64 r.reach) := RB.out.cell 3 rfl
      have r4 : B.cell? ⟨w.heap.size, 4, none⟩ = some (.slice r.la r.ls.length r.lc) := RB.out.cell 4 rfl
      clear h1 h2 hK' R3 T3 B3 E3 LU LU2
      gi_wp2
      refine ⟨trivial, rfl, ?_⟩
      refine (LE.out _ _ _).mono ?_
      rintro e w2 ⟨rfl, rfl⟩
      have LU := Lib.hid (LU1.out B BB.out)
      have XL : ∀ p, Alt p B (lvW r St a2 ball.length c2 71 #[] B) := lvW_alt
      have Z4 := Lib.hid (@lvW_size r St a2 ball.length c2 71 #[] B)
      generalize lvW r St a2 ball.length c2 71 #[] B = W4 at *
      have E4 := Lib.hid (Blk.alt EB.out (XL fun _ => False) id)
      have T4 := Lib.hid (Blk.alt TB.out (XL fun _ => False) id)
      have B4 := Lib.hid (below_go BB.out ((XL fun k => B.heap.size ≤ k).below (Nat.le_refl _) fun _ h => h))
      have K4 := Lib.hid (Alt.obj (XL fun _ => False) HKB.out id)
      clear XL EB TB BB HKB RB r0 r1 r2 r3 r4
      gi_wp2
      refine wp_iterA (gf := 98) (lb := #[.pointer (some ⟨B.heap.size + 1 + 1, 0, none⟩), .pointer (some ⟨B.heap.size, 0, none⟩), .pointer (some ⟨B.heap.size + 1 + 1 + 1, 0, none⟩), .pointer (some ⟨B.heap.size + 1, 0, none⟩)]) rfl eg98 LU.out (fun k h => ?rd) (fun _ => rfl)
        (fun k => k = w1.heap.size) (fun k h => ?hM)
        (fun pre A => Blk A w1.heap.size #[.int .i64 SY, .int .i64 (pre.foldl (fun (m : Int) (x : Nat) => max m (sizeN x : Nat)) (0 : Int))] 63 ∧ Alt (fun k => k = w1.heap.size) W4 A)
        (fun pre x a1 A => (Blk A w1.heap.size #[.int .i64 SY, .int .i64 (pre.foldl (fun (m : Int) (x : Nat) => max m (sizeN x : Nat)) (0 : Int))] 63 ∧ Alt (fun k => k = w1.heap.size) W4 A) ∧ a1 = { tmps := #[.agg #[.int .i64 r.rows, .int .i64 r.mid, .int .i64 r.gap, .int .i64 r.reach, .slice r.la r.ls.length r.lc], .slice a xs.length c, .slice a2 ball.length c2, .pointer (some ⟨w.heap.size, 0, none⟩), undef, undef, .pointer (some ⟨w.heap.size + 1, 0, none⟩), .int .i64 0, .int .u16 (St : Nat), .int .i64 0, .pointer (some ⟨w1.heap.size, 0, none⟩), undef, .int .u16 (x : Nat), .tuple #[.int .u16 (St : Nat), .int .i64 0], .agg #[.int .i64 r.rows, .int .i64 r.mid, .int .i64 r.gap, .int .i64 r.reach, .slice r.la r.ls.length r.lc], .slice a xs.length c, .slice a2 ball.length c2, .tuple #[.int .u16 (St : Nat), .int .i64 0], .int .u16 (St : Nat), .int .i64 0, .int .i64 0, .bool false, undef, undef, .slice a xs.length c, .int .i64 (xs.length : Nat), .agg #[.int .i64 (xs.length : Nat), .int .i64 0], .agg #[.int .i64 r.rows, .int .i64 r.mid, .int .i64 r.gap, .int .i64 r.reach, .slice r.la r.ls.length r.lc], .int .u16 (St : Nat), .slice a2 ball.length c2, .func (.func 98) #[] #[.pointer (some ⟨W2.heap.size + 1 + 1, 0, none⟩), .pointer (some ⟨W2.heap.size, 0, none⟩), .pointer (some ⟨W2.heap.size + 1 + 1 + 1, 0, none⟩), .pointer (some ⟨W2.heap.size + 1, 0, none⟩)], undef, undef, undef, undef, undef, undef, undef, undef, .agg #[.int .i64 r.rows, .int .i64 r.mid, .int .i64 r.gap, .int .i64 r.reach, .slice r.la r.ls.length r.lc], .int .u16 (St : Nat), .slice a2 ball.length c2, .func (.func 98) #[] #[.pointer (some ⟨B.heap.size + 1 + 1, 0, none⟩), .pointer (some ⟨B.heap.size, 0, none⟩), .pointer (some ⟨B.heap.size + 1 + 1 + 1, 0, none⟩), .pointer (some ⟨B.heap.size + 1, 0, none⟩)], .int .u16 (x : Nat), undef, undef, undef, undef, undef, undef, undef, undef], defers := [] })
        (fun _ _ _ => False)
        (fun pre A B h hAB => ?stI) (fun pre x a A B h hAB => ?stM) (fun _ _ _ _ h _ => h) ⟨E4.out, Alt.refl _ _⟩ ?assign ?body ?done ?stop
      case rd => have := RdL_in HLA.out HGA.out HTP.out h; have e1 := Z1.out; have e2 := Z2.out; have e3 := Z3.out; have e4 := Z4.out; have e5 := ZB.out; omega
      case hM =>
        have e1 := Z1.out; have e2 := Z2.out; have e3 := Z3.out; have e4 := Z4.out; have e5 := ZB.out
        exact ⟨fun h2 => by have := RdL_in HLA.out HGA.out HTP.out h2; omega, fun h2 => by unfold Rng at h2; omega⟩
      case stI =>
        have e1 := Z1.out; have e2 := Z2.out; have e3 := Z3.out; have e4 := Z4.out; have e5 := ZB.out
        exact ⟨Blk.alt h.1 hAB (fun e => by unfold Rng at e; omega), h.2.trans2 hAB (fun k hk e => by unfold Rng at e; omega)⟩
      case stM =>
        have e1 := Z1.out; have e2 := Z2.out; have e3 := Z3.out; have e4 := Z4.out; have e5 := ZB.out
        exact ⟨⟨Blk.alt h.1.1 hAB (fun e => by unfold Rng at e; omega), h.1.2.trans2 hAB (fun k hk e => by unfold Rng at e; omega)⟩, h.2⟩
      case assign =>
        intro l2 pre x post A hx hz2 hl2 hr h
        have HH := Lib.hid h
        clear hx hz2 hl2 hr h
        gi_wp2
        exact ⟨Alt.refl _ _, HH.out, by first | trivial | rfl⟩
      case body =>
        rintro l2 pre x post a1 A hx hzA hl2 hr ⟨⟨h1, h2⟩, rfl⟩
        have hxl : x < 65536 := by
          have : x ∈ (choices ball).map f1 := by rw [hx]; simp
          obtain ⟨y, _, rfl⟩ := List.mem_map.1 this
          exact HF1.out y
        have HSN := Lib.hid (fold_take_snoc (fun (m : Int) (x : Nat) => max m (sizeN x : Nat)) (0 : Int) pre x)
        generalize pre.foldl (fun (m : Int) (x : Nat) => max m (sizeN x : Nat)) (0 : Int) = M at *
        have SZ := Lib.hid (fun W => CallsIn.inRound l2 (callsIn_wide (n := 0).2 (size_any x W hxl)))
        generalize sizeN x = SN at *
        have LEA := Lib.hid (fun (W : World) => CallsIn.inRound l2 (callsIn_wide (n := 0).2 (greatest_any M (SN : Nat) W.heap.size 0 1 (W.alloc (.cells #[.int .i64 (SN : Nat)] 3)) (new_cell W (t := 3) (i := 0) rfl))))
        have H1 := Lib.hid h1
        have H2 := Lib.hid h2
        have hmx : Tryd.prog.follows .mixedOrders = true := by kernel_rfl
        have c0 := H1.out.cell 1 (show _ = some (Value.int .i64 M) from rfl)
        clear hx hl2 hr h1 h2 HF1 HF2
        gi_wp2
        have c1 := H1.out.fr 1
        first
          | (gi_region_with_o (first
              | ((refine ⟨trivial, rfl, ?_⟩); (with_reducible refine (SZ.out _).mono ?_); rintro e w7 ⟨rfl, n7, rfl⟩; generalize hw7 : World.drewN (World.drew A) n7 = w7; have X7 : Hid (∀ p, Alt p A w7) := Lib.hid (fun p => by rw [← hw7]; exact (Alt.refl _ _).drew.drewN _); have K7 := Lib.hid (Blk.alt H1.out (X7.out fun _ => False) id); have a0 : w7.cell? ⟨w1.heap.size, 1, none⟩ = some (.int .i64 M) := K7.out.cell 1 rfl; have K8 := Lib.hid (Blk.alt K7.out ((Alt.refl (fun _ => False) w7).alloc (.cells #[.int .i64 (SN : Nat)] 3)) id); have b0 : (w7.alloc (.cells #[.int .i64 (SN : Nat)] 3)).cell? ⟨w1.heap.size, 1, none⟩ = some (.int .i64 M) := K8.out.cell 1 rfl; have b1 := K8.out.fr 1; clear hw7)
              | ((refine ⟨trivial, rfl, ?_⟩); (with_reducible refine (LEA.out _).mono ?_); rintro e w8 ⟨rfl, rfl⟩)))
          | fail "region"
        all_goals gi_wp2
        all_goals exact ⟨((X7.out (fun k => k = w1.heap.size)).alloc _).setCell (q := ⟨w1.heap.size, 1, none⟩) rfl _, by rw [HSN.out]; exact Blk.setAt K8.out 1 _, (H2.out.trans ((X7.out (fun k => k = w1.heap.size)).alloc _)).setCell (q := ⟨w1.heap.size, 1, none⟩) rfl _⟩
      case stop =>
        intro c pre x post B hx h
        exact h.elim
      case done =>
        rintro C ⟨h1, h2⟩ hzC hK2
        rw [← HS1.out] at h1
        have e1 := Z1.out; have e2 := Z2.out; have e3 := Z3.out; have e4 := Z4.out; have e5 := ZB.out
        have EC := Lib.hid h1
        have TC := Lib.hid (Blk.alt T4.out h2 (by omega))
        have BC := Lib.hid (((Alt.of_below (p := fun k => w.heap.size ≤ k) B4.out (fun k _ h => h)).trans (h2.mono fun k _ e => by omega)).below (Nat.le_refl _) fun _ h => h)
        have K1 := Lib.hid (h2.obj K4.out (by omega))
        have K2 := Lib.hid hK2
        have q0 : C.cell? ⟨w1.heap.size, 0, none⟩ = some (.int .i64 SY) := EC.out.cell 0 rfl
        have q1 : C.cell? ⟨w1.heap.size, 1, none⟩ = some (.int .i64 SU) := EC.out.cell 1 rfl
        have t0 : C.cell? ⟨w.heap.size + 1, 0, none⟩ = some (.int .i64 0) := TC.out.cell 0 rfl
        have t1 : C.cell? ⟨w.heap.size + 1, 1, none⟩ = some (.int .i64 0) := TC.out.cell 1 rfl
        have f0 := TC.out.fr 0
        have f1' := TC.out.fr 1
        have hW34 := Lib.hid (show W3.heap.size ≠ W4.heap.size by omega)
        have hWw := Lib.hid (show w.heap.size + 1 < W3.heap.size ∧ w.heap.size + 1 < W4.heap.size by omega)
        have TX := Lib.hid (Blk.set2 TC.out (.int .i64 SY) (.int .i64 SU))
        have AX := Lib.hid (((Alt.refl (fun k => k = w.heap.size + 1) C).setCell (q := ⟨w.heap.size + 1, 0, none⟩) rfl (.int .i64 SY)).setCell (q := ⟨w.heap.size + 1, 1, none⟩) rfl (.int .i64 SU))
        clear h1 h2 hK2 e1 e2 e3 e4 e5 E4 T4 B4 K4 LU LU1 HS1 HS2 LE HLA HGA Z1 Z2 Z3 Z4 ZB hs1 AB HF1 HF2
        gi_wp2
        have K1X := AX.out.obj K1.out (by have := hWw.out; omega)
        have K2X := AX.out.obj K2.out (by have := hWw.out; omega)
        have BX := (Alt.of_below (p := fun k => w.heap.size ≤ k) BC.out (fun k _ h => h)).trans (AX.out.mono fun k _ e => by omega)
        have tx := TX.out
        generalize (C.setCell _ _).setCell _ _ = X at K1X K2X BX tx ⊢
        have YY : ∀ p : Nat → Prop, p W4.heap.size → p W3.heap.size → Alt p X ((X.putObj W4.heap.size (.deferred none)).putObj W3.heap.size (.deferred none)) := fun p h4 h3 => ((Alt.refl p X).putObj h4 _).putObj h3 _
        have ty := Blk.alt tx (YY (fun k => k = W3.heap.size ∨ k = W4.heap.size) (.inr rfl) (.inl rfl)) (by have := hWw.out; omega)
        have h0 := ty.cell 0 (show _ = some (Value.int .i64 SY) from rfl)
        have h1 := ty.cell 1 (show _ = some (Value.int .i64 SU) from rfl)
        have by_ := (BX.trans (YY (fun k => w.heap.size ≤ k) (by have := hWw.out; omega) (by have := hWw.out; omega))).below (Nat.le_refl _) fun _ h => h
        refine leave_ret2 K2X K1X hW34.out (v := .tuple #[.agg #[.int .i64 SY, .int .i64 SU], .int .i64 0]) ?_ ⟨rfl, by_⟩
        generalize ((X.putObj W4.heap.size (.deferred none)).putObj W3.heap.size (.deferred none)) = Y at h0 h1 ⊢
        simp [results, Tryd.results36, go_sem, h0, h1]
  · have hE' : (balE r xs ball == 0) = false := by simpa using hE
    rw [if_neg hE] at hNc
    rw [hNc] at CR
    rw [HRv.out, if_neg hE]
    refine (callsIn_wide (n := 0)).1 ?_
    generalize balE r xs ball = E at *
    clear hNc hE hL hla hX hm hG hga hT HRv
    unfold rCells at B0 R0 T0
    unfold Rk.val at CR
    unfold Rk.val Rg.val
    refine callsIn_of_wp_marks Tryd.func36 rfl trivial ?_ rfl
    simp only [Tryd.ntmps36, List.size_toArray, List.length_cons, List.length_nil, Nat.reduceAdd, Nat.reduceSub, Array.replicate_succ, Array.replicate_zero, List.push_toArray, List.append_toArray, List.nil_append, List.cons_append]
    gi_wp2
    refine ⟨trivial, rfl, ?_⟩
    refine (CR.out _ B0.out).mono ?_
    rintro e w1 ⟨rfl, hb⟩
    have T1 := Lib.hid (Blk.alt T0.out (Alt.of_below (p := fun _ => False) hb (fun k hk h => by omega)) id)
    have B1 := Lib.hid (below_go B0.out hb)
    have t0 : w1.cell? ⟨w.heap.size + 1, 0, none⟩ = some (.int .i64 0) := T1.out.cell 0 rfl
    have t1 : w1.cell? ⟨w.heap.size + 1, 1, none⟩ = some (.int .i64 0) := T1.out.cell 1 rfl
    have f0 := T1.out.fr 0
    have f1 := T1.out.fr 1
    have TX := Lib.hid (Blk.set2 T1.out (.int .i64 0) (.int .i64 0))
    have BX := Lib.hid ((((Alt.of_below (p := fun k => w.heap.size ≤ k) B1.out (fun k _ h => h)).setCell (q := ⟨w.heap.size + 1, 0, none⟩) (Nat.le_succ _) (.int .i64 0)).setCell (q := ⟨w.heap.size + 1, 1, none⟩) (Nat.le_succ _) (.int .i64 0)).below (Nat.le_refl _) fun _ h => h)
    clear hb R0 CR B0
    gi_wp2
    have h0 := TX.out.cell 0 (show _ = some (Value.int .i64 0) from rfl)
    have h1 := TX.out.cell 1 (show _ = some (Value.int .i64 0) from rfl)
    have b1 := BX.out
    generalize (w1.setCell _ _).setCell _ _ = X at h0 h1 b1 ⊢
    refine bodyPostM_ret0 (v := .tuple #[.agg #[.int .i64 0, .int .i64 0], .int .i64 E]) (by simp [results, Tryd.results36, go_sem, h0, h1]) ⟨rfl, b1⟩

end Go.Proofs.YtaloffdkadhhnaaDoor
