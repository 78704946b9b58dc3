/- The contract of CanLeave. -/
import Derived.Test.YtaloffdkadhhnaaDoorGg
set_option linter.unusedVariables false
set_option linter.unusedSimpArgs false
namespace Go.Proofs.YtaloffdkadhhnaaDoor
open Go.RowKit Go.Shelf Go.Maps

attribute [local go_sem] Oper.semAt_some

/-- Which links may carry, if just these pins are left. -/
def spB (wt : Nat) (l : Lk) : Bool := l.sr || !(wt.testBit l.to.toNat)

set_option maxRecDepth 100000 in
set_option maxHeartbeats 2000000 in
theorem spares_any (wt bW : Nat) (l : Lk) (W : World) (h1 : 0 ≤ l.to) (h2 : l.to ≤ 15) (hwt : wt < 65536) (hB : Boxed W bW 100 (.int .u16 (wt : Nat))) :
    Calls Tryd.prog 77 #[l.val, .pointer (some ⟨bW, 0, none⟩)] W fun e W' => e = .returned (.bool (spB wt l)) ∧ Below W.heap.size W W' := by
  have HB := Lib.hid (fun W => has_bit wt l.to W hwt h1 h2)
  have HV := Lib.hid (show spB wt l = (l.sr || !(wt.testBit l.to.toNat)) from rfl)
  generalize spB wt l = R at *
  generalize wt.testBit l.to.toNat = TB at *
  obtain ⟨fr, to, sr⟩ := l
  simp only at *
  have B1 := Lib.hid (Boxed.alt (p := fun _ => False) hB ((Alt.refl _ W).alloc (.cells #[.int .i64 fr, .int .i64 to, .bool sr] 86)) id)
  have c1 : (W.alloc (.cells #[.int .i64 fr, .int .i64 to, .bool sr] 86)).cell? ⟨bW, 0, none⟩ = some (.int .u16 (wt : Nat)) := B1.out.cell
  clear hB h1 h2
  unfold Lk.val
  cases sr
  · go_enter Tryd.func77, Tryd.ntmps77
    go_wp2_with fail
    refine (HB.out _).mono ?_
    rintro e w' ⟨rfl, rfl⟩
    go_wp2_with fail
    go_returns
    exact ⟨by rw [HV.out]; rfl, below_al _ _⟩
  · go_enter Tryd.func77, Tryd.ntmps77
    go_wp2_with fail
    go_returns
    exact ⟨by rw [HV.out]; rfl, below_al _ _⟩

theorem carry_spares (wt bW n0 : Nat) (hwt : wt < 65536) (hb : bW < n0) : Carry 77 #[.pointer (some ⟨bW, 0, none⟩)] (fun W => Boxed W bW 100 (.int .u16 (wt : Nat))) (spB wt) n0 :=
  ⟨enters_of Tryd.func77 (by kernel_rfl) rfl, fun A B hA hAB => Boxed.alt hA hAB (by omega), fun l W h1 h2 hK => by simpa using spares_any wt bW l W h1 h2 hwt hK⟩

theorem leaves_use2 (r : Rk) (St : Nat) (ball : List Rg) (a : Option Addr) (c k : Nat) (cap : Array Value) (K : World → Prop) (RK : Nat → Prop) (cb : Lk → Bool) (w : World) (hc : Carry k cap K cb w.heap.size) (hKR : ∀ A B, K A → Alt (fun k => ¬ RK k) A B → K B) (hRK : ∀ k, RK k → k < w.heap.size) (hK0 : K w)
    (hR : RgsAt w a ball) (hga : ∀ g o, a = some ⟨g, o, none⟩ → g < w.heap.size) (hn : ball.length ≤ 4) (hw : ∀ x ∈ ball, wrongG x = false)
    (hfit : r.Fit w) (hSt : St < 65536) (hp : ∀ x ∈ els St, x < pinsN r.rows) :
    IterA Tryd.prog 98 #[.pointer (some ⟨w.heap.size + 1 + 1, 0, none⟩), .pointer (some ⟨w.heap.size, 0, none⟩), .pointer (some ⟨w.heap.size + 1 + 1 + 1, 0, none⟩), .pointer (some ⟨w.heap.size + 1, 0, none⟩)] (fun x : Nat => #[Value.int .u16 (x : Nat)])
      ((choices ball).map fun x => hitN r (toCs x) cb St) 9 (RdL r a RK (w.heap.size + 2) w.heap.size (w.heap.size + 3) (w.heap.size + 1)) (lvW r St a ball.length c k cap w) := by
  have X : ∀ p, Alt p w (lvW r St a ball.length c k cap w) := lvW_alt
  have z := @lvW_size r St a ball.length c k cap w
  refine leaves_iter r St ball a c k cap K RK cb (w.heap.size + 2) w.heap.size (w.heap.size + 3) (w.heap.size + 1) _ (hc.up (by omega)) hKR (fun k h => by have := hRK k h; omega)
    ?_ (hR.alt (X fun _ => False) (fun _ _ _ => id)) (fun g o e => by have := hga g o e; omega) hn hw ?_ ?_ ?_ (hfit.lo ((X fun k => w.heap.size ≤ k).below (Nat.le_refl _) fun _ h => h)) hSt hp (hc.st _ _ hK0 (X _))
  · unfold lvW
    have := Boxed.alt (p := fun _ => False) (Boxed.new ((w.alloc (.cells (rCells r) 32)).alloc (.cells #[.int .u16 (St : Nat)] 100)) 51 (.slice a ball.length c)) ((Alt.refl _ _).alloc (.cells #[.func (.func k) #[] cap] 109)) id
    rwa [World.size_alloc, World.size_alloc] at this
  · unfold lvW
    exact Blk.alt (p := fun _ => False) (Blk.new w _ _) ((((Alt.refl _ _).alloc _).alloc _).alloc _) id
  · unfold lvW
    have := Boxed.new (((w.alloc (.cells (rCells r) 32)).alloc (.cells #[.int .u16 (St : Nat)] 100)).alloc (.cells #[.slice a ball.length c] 51)) 109 (.func (.func k) #[] cap)
    rwa [World.size_alloc, World.size_alloc, World.size_alloc] at this
  · unfold lvW
    have := Boxed.alt (p := fun _ => False) (Boxed.new (w.alloc (.cells (rCells r) 32)) 100 (.int .u16 (St : Nat))) (((Alt.refl _ _).alloc (.cells #[.slice a ball.length c] 51)).alloc (.cells #[.func (.func k) #[] cap] 109)) id
    rwa [World.size_alloc] at this

theorem RdL_in2 {r : Rk} {a : Option Addr} {RK : Nat → Prop} {b n0 k : Nat} (hla : ∀ g o, r.la = some ⟨g, o, none⟩ → g < n0) (hga : ∀ g o, a = some ⟨g, o, none⟩ → g < n0) (h0 : 0 < n0) (h : RdL r a RK (b + 2) b (b + 3) (b + 1) k) : (b ≤ k ∧ k < b + 4) ∨ k < n0 ∨ RK k := by
  unfold RdL at h
  rcases h with rfl | rfl | rfl | rfl | ⟨o, e⟩ | ⟨o, e⟩ | rfl | h
  · omega
  · omega
  · omega
  · omega
  · exact .inr (.inl (hga _ _ e))
  · exact .inr (.inl (hla _ _ e))
  · exact .inr (.inl h0)
  · exact .inr (.inr h)

def canB (r : Rk) (xs : List Int) (ball : List Rg) (lv : List Int) : Bool := (balE r xs ball == 0) && (hasL r lv && ((choices ball).map fun x => hitN r (toCs x) (spB (setN lv)) (setN xs)).any fun y => y == setN lv)

set_option maxRecDepth 100000 in
set_option maxHeartbeats 8000000 in
theorem CanLeave_any (r : Rk) (xs : List Int) (a : Option Addr) (c : Nat) (ball : List Rg) (a2 : Option Addr) (c2 : Nat) (lv : List Int) (a3 : Option Addr) (c3 : Nat) (w : World) (hL : LinksAt w r.la r.ls) (hn : r.ls.length ≤ 1000) (hla : ∀ g o, r.la = some ⟨g, o, none⟩ → g < w.heap.size) (hX : IntsAt w a xs) (hm : xs.length ≤ 1000)
    (hG : RgsAt w a2 ball) (hg : ball.length ≤ 1000) (hga : ∀ g o, a2 = some ⟨g, o, none⟩ → g < w.heap.size) (hV : IntsAt w a3 lv) (hv : lv.length ≤ 1000) (hT : TabOK w) :
    Calls Tryd.prog 37 #[r.val, .slice a xs.length c, .slice a2 ball.length c2, .slice a3 lv.length c3] w fun e w' => e = .returned (.bool (canB r xs ball lv)) ∧ Below w.heap.size w w' := by
  have CR := Lib.hid (fun W (hb : Below w.heap.size w W) => callsIn_wide (n := 0).2 (checkBall_any r xs a c ball a2 c2 W (hL.lo hb) hn (hX.lo hb) hm (hG.lower hb) hg))
  have hNc : balN r xs ball = if balE r xs ball = 0 then setN xs else 0 := rfl
  have HRv : Hid (canB r xs ball lv = ((balE r xs ball == 0) && (hasL r lv && ((choices ball).map fun x => hitN r (toCs x) (spB (setN lv)) (setN xs)).any fun y => y == setN lv))) := Lib.hid rfl
  generalize canB r xs ball lv = RES at *
  have B0 := Lib.hid (below_al2 (below_al w (.cells (rCells r) 32)) (.cells #[.bool false] 4))
  have R0 : Hid (Blk ((w.alloc (.cells (rCells r) 32)).alloc (.cells #[.bool false] 4)) w.heap.size (rCells r) 32) := Lib.hid (Blk.alt (p := fun _ => False) (Blk.new w _ _) ((Alt.refl _ _).alloc _) id)
  have T0 : Hid (Blk ((w.alloc (.cells (rCells r) 32)).alloc (.cells #[.bool false] 4)) (w.heap.size + 1) #[.bool false] 4) := Lib.hid (by
    have := Blk.new (w.alloc (.cells (rCells r) 32)) #[.bool false] 4
    rwa [World.size_alloc] at this)
  by_cases hE : balE r xs ball = 0
  · obtain ⟨hce, hbl, hwg⟩ := bal_ok hE
    have hfl := (chk_ok hce).1
    obtain ⟨hs1, hs2, _⟩ := chk_set hce
    have hok := (faultN_ok hfl).1
    have hlk := linksOk_of hfl
    rw [if_pos hE] at hNc
    rw [hNc, hE] at CR
    have HA := Lib.hid (fun W (hb : Below w.heap.size w W) => callsIn_wide (n := 0).2 (hasL_any r lv a3 c3 W hok.r1 hok.r2 (hV.lo hb) hv))
    by_cases hh : hasL r lv = true
    · have hlb := hasL_out hh
      have hp10 := (@pinsN_bd r).2
      have hlv15 : ∀ x ∈ lv, 0 ≤ x ∧ x ≤ 15 := fun x hx => ⟨(hlb.2 x hx).1, by have := (hlb.2 x hx).2; omega⟩
      have SO := Lib.hid (fun W (hb : Below w.heap.size w W) => callsIn_wide (n := 0).2 (setOf_any lv a3 c3 W (hV.lo hb) hv hlv15))
      have hwt : setN lv < 65536 := setN_lt hlv15
      have HV1 := Lib.hid (show RES = ((choices ball).map fun x => hitN r (toCs x) (spB (setN lv)) (setN xs)).any fun y => y == setN lv by rw [HRv.out, hE, hh]; rfl)
      have FIT := Lib.hid (fun W (hb : Below w.heap.size w W) => (⟨hok, hL.lo hb, fun g o e => Nat.lt_of_lt_of_le (hla g o e) hb.size, hlk, hn, hT.lo hb⟩ : r.Fit W))
      rw [hh] at HA
      generalize setN lv = wt at *
      obtain ⟨f1, hf1⟩ : ∃ f1 : List Int → Nat, Hid (f1 = fun x => hitN r (toCs x) (spB wt) (setN xs)) := ⟨_, Lib.hid rfl⟩
      have LU1 := Lib.hid (fun W bW (hb : Below w.heap.size w W) (h1 : bW < W.heap.size) (h2 : Boxed W bW 100 (.int .u16 (wt : Nat))) => leaves_use2 r (setN xs) ball a2 c2 77 #[.pointer (some ⟨bW, 0, none⟩)] (fun W => Boxed W bW 100 (.int .u16 (wt : Nat))) (fun k => k = bW) (spB wt) W (carry_spares wt bW _ hwt h1)
        (fun A B hA hAB => Boxed.alt hA hAB (by simp)) (fun k e => by omega) h2 (hG.lower hb) (fun g o e => Nat.lt_of_lt_of_le (hga g o e) hb.size) hbl hwg (FIT.out W hb) hs1 hs2)
      rw [← hf1.out] at LU1 HV1
      have HF1 : Hid (∀ x, f1 x < 65536) := Lib.hid (fun x => by rw [hf1.out]; exact Sub.lt (leftN_le _ _ _ _) hs1)
      have LE := Lib.hid (fun St cap W => callsIn_wide (n := 0).2 (leaves_any r St a2 ball.length c2 77 cap W))
      have HLA := Lib.hid hla
      have HGA := Lib.hid hga
      have HTP := Lib.hid (tab_pos hT)
      clear HRv hNc hE hce hbl hwg hfl hs2 hok hlk FIT hf1 hL hla hX hm hG hga hT hh hlb hp10 hlv15 hV
      generalize setN xs = St at *
      unfold rCells at B0 R0 T0
      unfold Rk.val at CR LE HA
      unfold Rk.val
      refine (callsIn_wide (n := 0)).1 ?_
      refine callsIn_of_wp_marks Tryd.func37 rfl trivial ?_ rfl
      simp only [Tryd.ntmps37, List.size_toArray, List.length_cons, List.length_nil, Nat.reduceAdd, Nat.reduceSub, Array.replicate_succ, Array.replicate_zero, List.push_toArray, List.append_toArray, List.nil_append, List.cons_append]
      gi_wp2
      refine ⟨trivial, rfl, ?_⟩
      refine (CR.out _ B0.out).mono ?_
      rintro e w1 ⟨rfl, hb⟩
      have B1 := Lib.hid (below_go B0.out hb)
      have R1 := Lib.hid (Blk.alt R0.out (Alt.of_below (p := fun _ => False) hb (fun k hk h => by omega)) id)
      have T1 := Lib.hid (Blk.alt T0.out (Alt.of_below (p := fun _ => False) hb (fun k hk h => by omega)) id)
      have Z1 := Lib.hid (show w.heap.size + 2 ≤ w1.heap.size by have := hb.size; simpa using this)
      clear hb R0 CR B0 T0
      have r0 : w1.cell? ⟨w.heap.size, 0, none⟩ = some (.int .i64 r.rows) := R1.out.cell 0 rfl
      have r1 : w1.cell? ⟨w.heap.size, 1, none⟩ = some (.int .i64 r.mid) := R1.out.cell 1 rfl
      have r2 : w1.cell? ⟨w.heap.size, 2, none⟩ = some (.int .i64 r.gap) := R1.out.cell 2 rfl
      have r3 : w1.cell? ⟨w.heap.size, 3, none⟩ = some (.int .i64 r.reach) := R1.out.cell 3 rfl
      have r4 : w1.cell? ⟨w.heap.size, 4, none⟩ = some (.slice r.la r.ls.length r.lc) := R1.out.cell 4 rfl
      gi_wp2
      refine ⟨trivial, rfl, ?_⟩
      refine (HA.out _ B1.out).mono ?_
      rintro e w2 ⟨rfl, hb⟩
      have B2 := Lib.hid (below_go B1.out hb)
      have R2 := Lib.hid (Blk.alt R1.out (Alt.of_below (p := fun _ => False) hb (fun k hk h => by omega)) id)
      have T2 := Lib.hid (Blk.alt T1.out (Alt.of_below (p := fun _ => False) hb (fun k hk h => by omega)) id)
      have Z2 := Lib.hid (show w.heap.size + 2 ≤ w2.heap.size by have := hb.size; have := Z1.out; omega)
      clear hb R1 T1 Z1 B1 HA r0 r1 r2 r3 r4
      gi_wp2
      refine ⟨trivial, rfl, ?_⟩
      refine (SO.out _ B2.out).mono ?_
      rintro e w3 ⟨rfl, rfl⟩
      obtain ⟨W2, hW2⟩ : ∃ W2, Hid (W2 = w2.alloc (.cells #[.int .u16 (wt : Nat)] 100)) := ⟨_, Lib.hid rfl⟩
      have XW2 : ∀ p, Alt p w2 W2 := fun p => by rw [hW2.out]; exact (Alt.refl _ _).alloc _
      have Z3 := Lib.hid (show W2.heap.size = w2.heap.size + 1 by rw [hW2.out]; simp)
      have R3 := Lib.hid (Blk.alt R2.out (XW2 fun _ => False) id)
      have T3 := Lib.hid (Blk.alt T2.out (XW2 fun _ => False) id)
      have B3 := Lib.hid (below_go B2.out ((XW2 fun k => w2.heap.size ≤ k).below (Nat.le_refl _) fun _ h => h))
      have E3 : Hid (Boxed W2 w2.heap.size 100 (.int .u16 (wt : Nat))) := Lib.hid (by rw [hW2.out]; exact Boxed.new _ _ _)
      have r0 : W2.cell? ⟨w.heap.size, 0, none⟩ = some (.int .i64 r.rows) := R3.out.cell 0 rfl
      have r1 : W2.cell? ⟨w.heap.size, 1, none⟩ = some (.int .i64 r.mid) := R3.out.cell 1 rfl
      have r2 : W2.cell? ⟨w.heap.size, 2, none⟩ = some (.int .i64 r.gap) := R3.out.cell 2 rfl
      have r3 : W2.cell? ⟨w.heap.size, 3, none⟩ = some (.int .i64 r.reach) := R3.out.cell 3 rfl
      have r4 : W2.cell? ⟨w.heap.size, 4, none⟩ = some (.slice r.la r.ls.length r.lc) := R3.out.cell 4 rfl
      rw [hW2.out] at r0 r1 r2 r3 r4
      clear R2 T2 XW2 B2 SO
      gi_wp2
      have hWo := hW2.out
      rw [← hWo]
      clear hWo r0 r1 r2 r3 r4 hW2
      refine ⟨trivial, rfl, ?_⟩
      refine (LE.out _ _ _).mono ?_
      rintro e w4 ⟨rfl, rfl⟩
      have LU := Lib.hid (LU1.out W2 w2.heap.size B3.out (by have := Z3.out; omega) E3.out)
      have XL : ∀ p, Alt p W2 (lvW r St a2 ball.length c2 77 #[.pointer (some ⟨w2.heap.size, 0, none⟩)] W2) := lvW_alt
      have Z4 := Lib.hid (@lvW_size r St a2 ball.length c2 77 #[.pointer (some ⟨w2.heap.size, 0, none⟩)] W2)
      generalize lvW r St a2 ball.length c2 77 #[.pointer (some ⟨w2.heap.size, 0, none⟩)] W2 = W3 at *
      have T4 := Lib.hid (Blk.alt T3.out (XL fun _ => False) id)
      have E4 := Lib.hid (Boxed.alt E3.out (XL fun _ => False) id)
      have B4 := Lib.hid (below_go B3.out ((XL fun k => W2.heap.size ≤ k).below (Nat.le_refl _) fun _ h => h))
      clear XL R3 T3 E3 B3
      gi_wp2
      have E4' := Lib.hid E4.out
      refine wp_iterA (gf := 98) (lb := #[.pointer (some ⟨W2.heap.size + 1 + 1, 0, none⟩), .pointer (some ⟨W2.heap.size, 0, none⟩), .pointer (some ⟨W2.heap.size + 1 + 1 + 1, 0, none⟩), .pointer (some ⟨W2.heap.size + 1, 0, none⟩)]) rfl eg98 LU.out (fun k h => ?rd) (fun _ => rfl)
        (fun k => k = w.heap.size + 1) (fun k h => ?hM)
        (fun pre A => Blk A (w.heap.size + 1) #[.bool false] 4 ∧ Alt (fun k => k = w.heap.size + 1) W3 A ∧ ∀ y ∈ pre, y ≠ wt)
        (fun pre x a1 A => (Blk A (w.heap.size + 1) #[.bool false] 4 ∧ Alt (fun k => k = w.heap.size + 1) W3 A ∧ ∀ y ∈ pre, y ≠ wt) ∧ a1 = { tmps := #[.agg #[.int .i64 r.rows, .int .i64 r.mid, .int .i64 r.gap, .int .i64 r.reach, .slice r.la r.ls.length r.lc], .slice a xs.length c, .slice a2 ball.length c2, .slice a3 lv.length c3, .pointer (some ⟨w.heap.size, 0, none⟩), undef, undef, undef, .pointer (some ⟨w.heap.size + 1, 0, none⟩), .int .u16 (St : Nat), .int .i64 0, .pointer (some ⟨w2.heap.size, 0, none⟩), .func (.func 77) #[] #[.pointer (some ⟨w2.heap.size, 0, none⟩)], .int .u16 (x : Nat), .tuple #[.int .u16 (St : Nat), .int .i64 0], .agg #[.int .i64 r.rows, .int .i64 r.mid, .int .i64 r.gap, .int .i64 r.reach, .slice r.la r.ls.length r.lc], .slice a xs.length c, .slice a2 ball.length c2, .tuple #[.int .u16 (St : Nat), .int .i64 0], .int .u16 (St : Nat), .int .i64 0, .int .i64 0, .bool false, .bool false, .agg #[.int .i64 r.rows, .int .i64 r.mid, .int .i64 r.gap, .int .i64 r.reach, .slice r.la r.ls.length r.lc], .slice a3 lv.length c3, .bool true, .bool false, .bool false, .slice a3 lv.length c3, .int .u16 (wt : Nat), .func (.func 77) #[] #[.pointer (some ⟨w2.heap.size, 0, none⟩)], .agg #[.int .i64 r.rows, .int .i64 r.mid, .int .i64 r.gap, .int .i64 r.reach, .slice r.la r.ls.length r.lc], .int .u16 (St : Nat), .slice a2 ball.length c2, .func (.func 77) #[] #[.pointer (some ⟨w2.heap.size, 0, none⟩)], .func (.func 98) #[] #[.pointer (some ⟨W2.heap.size + 1 + 1, 0, none⟩), .pointer (some ⟨W2.heap.size, 0, none⟩), .pointer (some ⟨W2.heap.size + 1 + 1 + 1, 0, none⟩), .pointer (some ⟨W2.heap.size + 1, 0, none⟩)], .int .u16 (x : Nat), undef, undef, undef], defers := [] })
        (fun c pre A => c = .ret ∧ wt ∈ pre ∧ Blk A (w.heap.size + 1) #[.bool true] 4 ∧ Alt (fun k => k = w.heap.size + 1) W3 A)
        (fun pre A B h hAB => ?stI) (fun pre x a A B h hAB => ?stM) (fun c pre A B h hAB => ?stX) ⟨T4.out, Alt.refl _ _, fun _ h => by cases h⟩ ?assign ?body ?done ?stop
      case rd => have := RdL_in2 HLA.out HGA.out HTP.out h; have e2 := Z2.out; have e3 := Z3.out; have e4 := Z4.out; omega
      case hM =>
        have e2 := Z2.out; have e3 := Z3.out; have e4 := Z4.out
        exact ⟨fun h2 => by have := RdL_in2 HLA.out HGA.out HTP.out h2; omega, fun h2 => by unfold Rng at h2; omega⟩
      case stI =>
        have e2 := Z2.out; have e3 := Z3.out; have e4 := Z4.out
        exact ⟨Blk.alt h.1 hAB (fun e => by unfold Rng at e; omega), h.2.1.trans2 hAB (fun k hk e => by unfold Rng at e; omega), h.2.2⟩
      case stM =>
        have e2 := Z2.out; have e3 := Z3.out; have e4 := Z4.out
        exact ⟨⟨Blk.alt h.1.1 hAB (fun e => by unfold Rng at e; omega), h.1.2.1.trans2 hAB (fun k hk e => by unfold Rng at e; omega), h.1.2.2⟩, h.2⟩
      case stX =>
        have e2 := Z2.out; have e3 := Z3.out; have e4 := Z4.out
        exact ⟨h.1, h.2.1, Blk.alt h.2.2.1 hAB (fun e => by unfold Rng at e; omega), h.2.2.2.trans2 hAB (fun k hk e => by unfold Rng at e; omega)⟩
      case assign =>
        intro l2 pre x post A hx hz2 hl2 hr h
        have HH := Lib.hid h
        clear hx hz2 hl2 hr h
        gi_wp2
        exact ⟨Alt.refl _ _, HH.out, by first | trivial | rfl⟩
      case body =>
        rintro l2 pre x post a1 A hx hzA hl2 hr ⟨⟨h1, h2, h3⟩, rfl⟩
        have H1 := Lib.hid h1
        have H2 := Lib.hid h2
        have H3 := Lib.hid h3
        have EA : A.cell? ⟨w2.heap.size, 0, none⟩ = some (.int .u16 (wt : Nat)) := (Boxed.alt E4'.out h2 (by have := Z2.out; omega)).cell
        have c1 := H1.out.fr 0
        have c0 := H1.out.cell 0 (show _ = some (Value.bool false) from rfl)
        clear hx hl2 hr h1 h2 h3 hzA
        by_cases hxw : x = wt
        · subst hxw
          gi_wp2
          exact ⟨(Alt.refl (fun k => k = w.heap.size + 1) A).setCell (q := ⟨w.heap.size + 1, 0, none⟩) rfl _, rfl, by simp, Blk.setAt H1.out 0 _, H2.out.setCell (q := ⟨w.heap.size + 1, 0, none⟩) rfl _⟩
        · have hne : ¬ ((x : Nat) : Int) = (wt : Nat) := by omega
          have hxw' := Lib.hid hxw
          clear hxw
          gi_wp2
          exact ⟨Alt.refl _ _, H1.out, H2.out, fun y hy => by
            rcases List.mem_append.1 hy with h | h
            · exact H3.out y h
            · rw [List.mem_singleton] at h; subst h; exact hxw'.out⟩
      case stop =>
        rintro cc pre x post B hx ⟨rfl, hm, h1, h2⟩ hzB hK'
        have hRES : RES = true := by
          rw [HV1.out, List.any_eq_true]
          refine ⟨wt, ?_, by simp⟩
          rw [hx]
          rcases List.mem_append.1 hm with h | h
          · exact List.mem_append.2 (.inl h)
          · rw [List.mem_singleton] at h; exact List.mem_append.2 (.inr (List.mem_cons.2 (.inl h)))
        subst hRES
        have BB := Lib.hid (((Alt.of_below (p := fun k => w.heap.size ≤ k) B4.out (fun k _ h => h)).trans (h2.mono fun k _ e => by omega)).below (Nat.le_refl _) fun _ h => h)
        have hWw : w.heap.size + 1 < W3.heap.size := by have := Z2.out; have := Z3.out; have := Z4.out; omega
        have q := (Blk.alt h1 ((Alt.refl (fun k => k = W3.heap.size) B).putObj (l := W3.heap.size) rfl (.deferred none)) (by omega)).cell 0 (show _ = some (Value.bool true) from rfl)
        have bb := ((Alt.of_below (p := fun k => w.heap.size ≤ k) BB.out (fun k _ h => h)).putObj (l := W3.heap.size) (show w.heap.size ≤ W3.heap.size by omega) (.deferred none)).below (Nat.le_refl _) fun _ h => h
        have HK := Lib.hid hK'
        clear hx hm h1 h2 hzB hK' HV1 LU LU1 BB hs1 E4 E4' B4 T4
        gi_wp2
        refine leave_ret HK.out (v := .bool true) ?_ ⟨rfl, bb⟩
        simp [results, Tryd.results37, go_sem, q]
      case done =>
        rintro B ⟨h1, h2, h3⟩ hzB hK'
        have hRES : RES = false := by
          rw [HV1.out, List.any_eq_false]
          intro y hy
          simpa using h3 y hy
        subst hRES
        have TB := Lib.hid h1
        have BB := Lib.hid (((Alt.of_below (p := fun k => w.heap.size ≤ k) B4.out (fun k _ h => h)).trans (h2.mono fun k _ e => by omega)).below (Nat.le_refl _) fun _ h => h)
        have hWw := Lib.hid (show w.heap.size + 1 < W3.heap.size by have := Z2.out; have := Z3.out; have := Z4.out; omega)
        have HK := Lib.hid hK'
        have c1 := TB.out.fr 0
        have c0 := TB.out.cell 0 (show _ = some (Value.bool false) from rfl)
        have TX := Lib.hid (Blk.setAt TB.out 0 (.bool false))
        have AX := Lib.hid ((Alt.refl (fun k => k = w.heap.size + 1) B).setCell (q := ⟨w.heap.size + 1, 0, none⟩) rfl (.bool false))
        clear h1 h2 h3 hzB hK' HV1 LU LU1 hs1 E4 E4' B4 T4 LE HLA HGA HTP HF1
        gi_wp2
        have KX := AX.out.obj HK.out (by have := hWw.out; omega)
        have BX := (Alt.of_below (p := fun k => w.heap.size ≤ k) BB.out (fun k _ h => h)).trans (AX.out.mono fun k _ e => by omega)
        have tx := TX.out
        generalize (B.setCell _ _) = X at KX BX tx ⊢
        have q := (Blk.alt tx ((Alt.refl (fun k => k = W3.heap.size) X).putObj (l := W3.heap.size) rfl (.deferred none)) (by have := hWw.out; omega)).cell 0 (show _ = some (Value.bool false) from rfl)
        have bb := (BX.putObj (l := W3.heap.size) (show w.heap.size ≤ W3.heap.size by have := hWw.out; omega) (.deferred none)).below (Nat.le_refl _) fun _ h => h
        refine leave_ret KX (v := .bool false) ?_ ⟨rfl, bb⟩
        simp [results, Tryd.results37, go_sem, q]
    · have hh' : hasL r lv = false := by simpa using hh
      have hRES : RES = false := by rw [HRv.out, hh']; simp
      subst hRES
      rw [hh'] at HA
      refine (callsIn_wide (n := 0)).1 ?_
      generalize setN xs = St at *
      clear HRv hNc hE hce hbl hwg hfl hs1 hs2 hok hlk hL hla hX hm hG hga hT hh hh' hV
      unfold rCells at B0 R0 T0
      unfold Rk.val at CR HA
      unfold Rk.val
      refine callsIn_of_wp_marks Tryd.func37 rfl trivial ?_ rfl
      simp only [Tryd.ntmps37, List.size_toArray, List.length_cons, List.length_nil, Nat.reduceAdd, Nat.reduceSub, Array.replicate_succ, Array.replicate_zero, List.push_toArray, List.append_toArray, List.nil_append, List.cons_append]
      gi_wp2
      refine ⟨trivial, rfl, ?_⟩
      refine (CR.out _ B0.out).mono ?_
      rintro e w1 ⟨rfl, hb⟩
      have B1 := Lib.hid (below_go B0.out hb)
      have R1 := Lib.hid (Blk.alt R0.out (Alt.of_below (p := fun _ => False) hb (fun k hk h => by omega)) id)
      have T1 := Lib.hid (Blk.alt T0.out (Alt.of_below (p := fun _ => False) hb (fun k hk h => by omega)) id)
      clear hb R0 CR B0 T0
      have r0 : w1.cell? ⟨w.heap.size, 0, none⟩ = some (.int .i64 r.rows) := R1.out.cell 0 rfl
      have r1 : w1.cell? ⟨w.heap.size, 1, none⟩ = some (.int .i64 r.mid) := R1.out.cell 1 rfl
      have r2 : w1.cell? ⟨w.heap.size, 2, none⟩ = some (.int .i64 r.gap) := R1.out.cell 2 rfl
      have r3 : w1.cell? ⟨w.heap.size, 3, none⟩ = some (.int .i64 r.reach) := R1.out.cell 3 rfl
      have r4 : w1.cell? ⟨w.heap.size, 4, none⟩ = some (.slice r.la r.ls.length r.lc) := R1.out.cell 4 rfl
      gi_wp2
      refine ⟨trivial, rfl, ?_⟩
      refine (HA.out _ B1.out).mono ?_
      rintro e w2 ⟨rfl, hb⟩
      have B2 := Lib.hid (below_go B1.out hb)
      have T2 := Lib.hid (Blk.alt T1.out (Alt.of_below (p := fun _ => False) hb (fun k hk h => by omega)) id)
      clear hb R1 T1 B1 HA r0 r1 r2 r3 r4
      have c1 := T2.out.fr 0
      have c0 := T2.out.cell 0 (show _ = some (Value.bool false) from rfl)
      have TX := Lib.hid (Blk.setAt T2.out 0 (.bool false))
      have BX := Lib.hid (((Alt.of_below (p := fun k => w.heap.size ≤ k) B2.out (fun k _ h => h)).setCell (q := ⟨w.heap.size + 1, 0, none⟩) (Nat.le_succ _) (.bool false)).below (Nat.le_refl _) fun _ h => h)
      gi_wp2
      have h0 := TX.out.cell 0 (show _ = some (Value.bool false) from rfl)
      have b1 := BX.out
      generalize (w2.setCell _ _) = X at h0 b1 ⊢
      refine bodyPostM_ret0 (v := .bool false) (by simp [results, Tryd.results37, go_sem, h0]) ⟨rfl, b1⟩
  · have hRES : RES = false := by rw [HRv.out, show (balE r xs ball == 0) = false by simpa using hE]; rfl
    subst hRES
    have hE' : (balE r xs ball == 0) = false := by simpa using hE
    rw [if_neg hE] at hNc
    rw [hNc] at CR
    refine (callsIn_wide (n := 0)).1 ?_
    have hE2 : (balE r xs ball != 0) = true := by simpa using hE
    generalize balE r xs ball = E at *
    clear hNc hE hL hla hX hm hG hga hT HRv hV
    unfold rCells at B0 R0 T0
    unfold Rk.val at CR
    unfold Rk.val
    refine callsIn_of_wp_marks Tryd.func37 rfl trivial ?_ rfl
    simp only [Tryd.ntmps37, List.size_toArray, List.length_cons, List.length_nil, Nat.reduceAdd, Nat.reduceSub, Array.replicate_succ, Array.replicate_zero, List.push_toArray, List.append_toArray, List.nil_append, List.cons_append]
    gi_wp2
    refine ⟨trivial, rfl, ?_⟩
    refine (CR.out _ B0.out).mono ?_
    rintro e w1 ⟨rfl, hb⟩
    have T1 := Lib.hid (Blk.alt T0.out (Alt.of_below (p := fun _ => False) hb (fun k hk h => by omega)) id)
    have B1 := Lib.hid (below_go B0.out hb)
    have c1 := T1.out.fr 0
    have c0 := T1.out.cell 0 (show _ = some (Value.bool false) from rfl)
    have TX := Lib.hid (Blk.setAt T1.out 0 (.bool false))
    have BX := Lib.hid (((Alt.of_below (p := fun k => w.heap.size ≤ k) B1.out (fun k _ h => h)).setCell (q := ⟨w.heap.size + 1, 0, none⟩) (Nat.le_succ _) (.bool false)).below (Nat.le_refl _) fun _ h => h)
    clear hb R0 CR B0 T0
    gi_wp2
    refine ⟨trivial, ?_⟩
    gi_wp2
    have h0 := TX.out.cell 0 (show _ = some (Value.bool false) from rfl)
    have b1 := BX.out
    generalize (w1.setCell _ _) = X at h0 b1 ⊢
    refine bodyPostM_ret0 (v := .bool false) (by simp [results, Tryd.results37, go_sem, h0]) ⟨rfl, b1⟩

end Go.Proofs.YtaloffdkadhhnaaDoor
