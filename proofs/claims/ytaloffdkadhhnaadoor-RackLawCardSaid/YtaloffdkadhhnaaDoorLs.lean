/- The contract of Left. -/
import Derived.Test.YtaloffdkadhhnaaDoorFs
import Derived.Test.YtaloffdkadhhnaaDoorLe
set_option linter.unusedVariables false
set_option linter.unusedSimpArgs false
namespace Go.Proofs.YtaloffdkadhhnaaDoor
open Go.RowKit Go.Shelf Go.Maps

attribute [local go_sem] Oper.semAt_some

def lowN (r : Rk) (ball : List Rg) (St : Nat) (n : Int) : Int := (leavesL r ball (fun _ => true) St).foldl (fun m x => min m (sizeN x : Nat)) n
def topN (r : Rk) (ball : List Rg) (St : Nat) : Int := (leavesL r ball (fun l => l.sr) St).foldl (fun m x => max m (sizeN x : Nat)) 0
def lefV (r : Rk) (xs : List Int) (ball : List Rg) : Rg := if balE r xs ball = 0 then ⟨lowN r ball (setN xs) xs.length, topN r ball (setN xs)⟩ else ⟨0, 0⟩

set_option maxRecDepth 100000 in
set_option maxHeartbeats 8000000 in
theorem Left_any (r : Rk) (xs : List Int) (a : Option Addr) (c : Nat) (ball : List Rg) (a2 : Option Addr) (c2 : Nat) (w : World) (hL : LinksAt w r.la r.ls) (hn : r.ls.length ≤ 1000) (hla : ∀ g o, r.la = some ⟨g, o, none⟩ → g < w.heap.size) (hX : IntsAt w a xs) (hm : xs.length ≤ 1000)
    (hG : RgsAt w a2 ball) (hg : ball.length ≤ 1000) (hga : ∀ g o, a2 = some ⟨g, o, none⟩ → g < w.heap.size) (hT : TabOK w) :
    Calls Tryd.prog 36 #[r.val, .slice a xs.length c, .slice a2 ball.length c2] w fun e w' => e = .returned (.tuple #[(lefV r xs ball).val, .int .i64 (balE r xs ball)]) ∧ Below w.heap.size w w' := by
  have CR := Lib.hid (fun W (hb : Below w.heap.size w W) => callsIn_wide (n := 0).2 (checkBall_any r xs a c ball a2 c2 W (hL.lo hb) hn (hX.lo hb) hm (hG.lower hb) hg))
  have hNc : balN r xs ball = if balE r xs ball = 0 then setN xs else 0 := rfl
  have HRv : Hid (lefV r xs ball = if balE r xs ball = 0 then ⟨lowN r ball (setN xs) xs.length, topN r ball (setN xs)⟩ else ⟨0, 0⟩) := Lib.hid rfl
  have B0 := Lib.hid (below_al2 (below_al w (.cells (rCells r) 32)) (.cells #[.int .i64 0, .int .i64 0] 63))
  have R0 : Hid (Blk ((w.alloc (.cells (rCells r) 32)).alloc (.cells #[.int .i64 0, .int .i64 0] 63)) w.heap.size (rCells r) 32) := Lib.hid (Blk.alt (p := fun _ => False) (Blk.new w _ _) ((Alt.refl _ _).alloc _) id)
  have T0 : Hid (Blk ((w.alloc (.cells (rCells r) 32)).alloc (.cells #[.int .i64 0, .int .i64 0] 63)) (w.heap.size + 1) #[.int .i64 0, .int .i64 0] 63) := Lib.hid (by
    have := Blk.new (w.alloc (.cells (rCells r) 32)) #[.int .i64 0, .int .i64 0] 63
    rwa [World.size_alloc] at this)
  by_cases hE : balE r xs ball = 0
  · obtain ⟨hce, hbl, hwg⟩ := bal_ok hE
    have hfl := (chk_ok hce).1
    obtain ⟨hs1, hs2, _⟩ := chk_set hce
    have hok := (faultN_ok hfl).1
    have hlk := linksOk_of hfl
    have FIT := Lib.hid (fun W (hb : Below w.heap.size w W) => (⟨hok, hL.lo hb, fun g o e => Nat.lt_of_lt_of_le (hla g o e) hb.size, hlk, hn, hT.lo hb⟩ : r.Fit W))
    rw [if_pos hE] at hNc
    rw [hNc, hE] at CR
    rw [HRv.out, if_pos hE, hE]
    obtain ⟨f1, hf1⟩ : ∃ f1 : List Int → Nat, Hid (f1 = fun x => hitN r (toCs x) (fun l => l.sr) (setN xs)) := ⟨_, Lib.hid rfl⟩
    obtain ⟨f2, hf2⟩ : ∃ f2 : List Int → Nat, Hid (f2 = fun x => hitN r (toCs x) (fun _ => true) (setN xs)) := ⟨_, Lib.hid rfl⟩
    have HS1 : Hid (topN r ball (setN xs) = ((choices ball).map f1).foldl (fun (m : Int) (x : Nat) => max m (sizeN x : Nat)) (0 : Int)) := Lib.hid (by rw [hf1.out]; rfl)
    have HS2 : Hid (lowN r ball (setN xs) xs.length = ((choices ball).map f2).foldl (fun (m : Int) (x : Nat) => min m (sizeN x : Nat)) ((xs.length : Nat) : Int)) := Lib.hid (by rw [hf2.out]; rfl)
    have LU1 := Lib.hid (fun W (hb : Below w.heap.size w W) => leaves_use r (setN xs) ball a2 c2 71 (fun l => l.sr) W (carry_sure _) (hG.lower hb) (fun g o e => Nat.lt_of_lt_of_le (hga g o e) hb.size) hbl hwg (FIT.out W hb) hs1 hs2)
    have LU2 := Lib.hid (fun W (hb : Below w.heap.size w W) => leaves_use r (setN xs) ball a2 c2 64 (fun _ => true) W (carry_may _) (hG.lower hb) (fun g o e => Nat.lt_of_lt_of_le (hga g o e) hb.size) hbl hwg (FIT.out W hb) hs1 hs2)
    rw [← hf1.out] at LU1
    rw [← hf2.out] at LU2
    have HF1 : Hid (∀ x, f1 x < 65536) := Lib.hid (fun x => by rw [hf1.out]; exact Sub.lt (leftN_le _ _ _ _) hs1)
    have HF2 : Hid (∀ x, f2 x < 65536) := Lib.hid (fun x => by rw [hf2.out]; exact Sub.lt (leftN_le _ _ _ _) hs1)
    have LE := Lib.hid (fun St k W => callsIn_wide (n := 0).2 (leaves_any r St a2 ball.length c2 k #[] W))
    have HLA := Lib.hid hla
    have HGA := Lib.hid hga
    have HTP := Lib.hid (tab_pos hT)
    clear HRv hNc hE hce hbl hwg hfl hs2 hok hlk FIT hf1 hf2 hL hla hX hm hG hga hT
    generalize topN r ball (setN xs) = SU at *
    generalize lowN r ball (setN xs) xs.length = SY at *
    generalize setN xs = St at *
    unfold rCells at B0 R0 T0
    unfold Rk.val at CR LE
    unfold Rk.val Rg.val
    refine (callsIn_wide (n := 0)).1 ?_
    refine callsIn_of_wp_marks Tryd.func36 rfl trivial ?_ rfl
    simp only [Tryd.ntmps36, List.size_toArray, List.length_cons, List.length_nil, Nat.reduceAdd, Nat.reduceSub, Array.replicate_succ, Array.replicate_zero, List.push_toArray, List.append_toArray, List.nil_append, List.cons_append]
    gi_wp2
    refine ⟨trivial, rfl, ?_⟩
    refine (CR.out _ B0.out).mono ?_
    rintro e w1 ⟨rfl, hb⟩
    have B1 := Lib.hid (below_go B0.out hb)
    have R1 := Lib.hid (Blk.alt R0.out (Alt.of_below (p := fun _ => False) hb (fun k hk h => by omega)) id)
    have T1 := Lib.hid (Blk.alt T0.out (Alt.of_below (p := fun _ => False) hb (fun k hk h => by omega)) id)
    have Z1 := Lib.hid (show w.heap.size + 2 ≤ w1.heap.size by have := hb.size; simpa using this)
    clear hb R0 CR B0 T0
    obtain ⟨W2, hW2⟩ : ∃ W2, Hid (W2 = w1.alloc (.cells #[.int .i64 (xs.length : Nat), .int .i64 0] 63)) := ⟨_, Lib.hid rfl⟩
    have XW2 : ∀ p, Alt p w1 W2 := fun p => by rw [hW2.out]; exact (Alt.refl _ _).alloc _
    have Z2 := Lib.hid (show W2.heap.size = w1.heap.size + 1 by rw [hW2.out]; simp)
    have R2 := Lib.hid (Blk.alt R1.out (XW2 fun _ => False) id)
    have T2 := Lib.hid (Blk.alt T1.out (XW2 fun _ => False) id)
    have B2 := Lib.hid (below_go B1.out ((XW2 fun k => w1.heap.size ≤ k).below (Nat.le_refl _) fun _ h => h))
    have E2 : Hid (Blk W2 w1.heap.size #[.int .i64 (xs.length : Nat), .int .i64 0] 63) := Lib.hid (by rw [hW2.out]; exact Blk.new _ _ _)
    have r0 : W2.cell? ⟨w.heap.size, 0, none⟩ = some (.int .i64 r.rows) := R2.out.cell 0 rfl
    have r1 : W2.cell? ⟨w.heap.size, 1, none⟩ = some (.int .i64 r.mid) := R2.out.cell 1 rfl
    have r2 : W2.cell? ⟨w.heap.size, 2, none⟩ = some (.int .i64 r.gap) := R2.out.cell 2 rfl
    have r3 : W2.cell? ⟨w.heap.size, 3, none⟩ = some (.int .i64 r.reach) := R2.out.cell 3 rfl
    have r4 : W2.cell? ⟨w.heap.size, 4, none⟩ = some (.slice r.la r.ls.length r.lc) := R2.out.cell 4 rfl
    rw [hW2.out] at r0 r1 r2 r3 r4
    clear R1 T1 XW2 B1
    gi_wp2
    have hWo := hW2.out
    rw [← hWo]
    clear hWo r0 r1 r2 r3 r4 hW2
    refine ⟨trivial, rfl, ?_⟩
    refine (LE.out _ _ _).mono ?_
    rintro e w2 ⟨rfl, rfl⟩
    have LU := Lib.hid (LU2.out W2 B2.out)
    have XL : ∀ p, Alt p W2 (lvW r St a2 ball.length c2 64 #[] W2) := lvW_alt
    have Z3 := Lib.hid (@lvW_size r St a2 ball.length c2 64 #[] W2)
    generalize lvW r St a2 ball.length c2 64 #[] W2 = W3 at *
    have R3 := Lib.hid (Blk.alt R2.out (XL fun _ => False) id)
    have T3 := Lib.hid (Blk.alt T2.out (XL fun _ => False) id)
    have E3 := Lib.hid (Blk.alt E2.out (XL fun _ => False) id)
    have B3 := Lib.hid (below_go B2.out ((XL fun k => W2.heap.size ≤ k).below (Nat.le_refl _) fun _ h => h))
    clear XL R2 T2 E2 B2
    gi_wp2
    refine wp_iterA (gf := 98) (lb := #[.pointer (some ⟨W2.heap.size + 1 + 1, 0, none⟩), .pointer (some ⟨W2.heap.size, 0, none⟩), .pointer (some ⟨W2.heap.size + 1 + 1 + 1, 0, none⟩), .pointer (some ⟨W2.heap.size + 1, 0, none⟩)]) rfl eg98 LU.out (fun k h => ?rd) (fun _ => rfl)
      (fun k => k = w1.heap.size) (fun k h => ?hM)
      (fun pre A => Blk A w1.heap.size #[.int .i64 (pre.foldl (fun (m : Int) (x : Nat) => min m (sizeN x : Nat)) ((xs.length : Nat) : Int)), .int .i64 0] 63 ∧ Alt (fun k => k = w1.heap.size) W3 A)
      (fun pre x a1 A => (Blk A w1.heap.size #[.int .i64 (pre.foldl (fun (m : Int) (x : Nat) => min m (sizeN x : Nat)) ((xs.length : Nat) : Int)), .int .i64 0] 63 ∧ Alt (fun k => k = w1.heap.size) W3 A) ∧ a1 = { tmps := #[.agg #[.int .i64 r.rows, .int .i64 r.mid, .int .i64 r.gap, .int .i64 r.reach, .slice r.la r.ls.length r.lc], .slice a xs.length c, .slice a2 ball.length c2, .pointer (some ⟨w.heap.size, 0, none⟩), undef, undef, .pointer (some ⟨w.heap.size + 1, 0, none⟩), .int .i64 0, .int .u16 (St : Nat), .int .i64 0, .pointer (some ⟨w1.heap.size, 0, none⟩), .int .u16 (x : Nat), undef, .tuple #[.int .u16 (St : Nat), .int .i64 0], .agg #[.int .i64 r.rows, .int .i64 r.mid, .int .i64 r.gap, .int .i64 r.reach, .slice r.la r.ls.length r.lc], .slice a xs.length c, .slice a2 ball.length c2, .tuple #[.int .u16 (St : Nat), .int .i64 0], .int .u16 (St : Nat), .int .i64 0, .int .i64 0, .bool false, undef, undef, .slice a xs.length c, .int .i64 (xs.length : Nat), .agg #[.int .i64 (xs.length : Nat), .int .i64 0], .agg #[.int .i64 r.rows, .int .i64 r.mid, .int .i64 r.gap, .int .i64 r.reach, .slice r.la r.ls.length r.lc], .int .u16 (St : Nat), .slice a2 ball.length c2, .func (.func 98) #[] #[.pointer (some ⟨W2.heap.size + 1 + 1, 0, none⟩), .pointer (some ⟨W2.heap.size, 0, none⟩), .pointer (some ⟨W2.heap.size + 1 + 1 + 1, 0, none⟩), .pointer (some ⟨W2.heap.size + 1, 0, none⟩)], .int .u16 (x : Nat), undef, undef, undef, undef, undef, undef, undef, undef, undef, undef, undef, undef, undef, undef, undef, undef, undef, undef, undef, undef], defers := [] })
      (fun _ _ _ => False)
      (fun pre A B h hAB => ?stI) (fun pre x a A B h hAB => ?stM) (fun _ _ _ _ h _ => h) ⟨E3.out, Alt.refl _ _⟩ ?assign ?body ?done ?stop
    case rd => have := RdL_in HLA.out HGA.out HTP.out h; have e1 := Z1.out; have e2 := Z2.out; have e3 := Z3.out; omega
    case hM =>
      have e1 := Z1.out; have e2 := Z2.out; have e3 := Z3.out
      exact ⟨fun h2 => by have := RdL_in HLA.out HGA.out HTP.out h2; omega, fun h2 => by unfold Rng at h2; omega⟩
    case stI =>
      have e1 := Z1.out; have e2 := Z2.out; have e3 := Z3.out
      exact ⟨Blk.alt h.1 hAB (fun e => by unfold Rng at e; omega), h.2.trans2 hAB (fun k hk e => by unfold Rng at e; omega)⟩
    case stM =>
      have e1 := Z1.out; have e2 := Z2.out; have e3 := Z3.out
      exact ⟨⟨Blk.alt h.1.1 hAB (fun e => by unfold Rng at e; omega), h.1.2.trans2 hAB (fun k hk e => by unfold Rng at e; omega)⟩, h.2⟩
    case assign =>
      intro l2 pre x post A hx hz2 hl2 hr h
      have HH := Lib.hid h
      clear hx hz2 hl2 hr h
      gi_wp2
      exact ⟨Alt.refl _ _, HH.out, by first | trivial | rfl⟩
    case body =>
      rintro l2 pre x post a1 A hx hzA hl2 hr ⟨⟨h1, h2⟩, rfl⟩
      have hxl : x < 65536 := by
        have : x ∈ (choices ball).map f2 := by rw [hx]; simp
        obtain ⟨y, _, rfl⟩ := List.mem_map.1 this
        exact HF2.out y
      have HSN := Lib.hid (fold_take_snoc (fun (m : Int) (x : Nat) => min m (sizeN x : Nat)) ((xs.length : Nat) : Int) pre x)
      generalize pre.foldl (fun (m : Int) (x : Nat) => min m (sizeN x : Nat)) ((xs.length : Nat) : Int) = M at *
      have SZ := Lib.hid (fun W => CallsIn.inRound l2 (callsIn_wide (n := 0).2 (size_any x W hxl)))
      generalize sizeN x = SN at *
      have LEA := Lib.hid (fun (W : World) => CallsIn.inRound l2 (callsIn_wide (n := 0).2 (least_any M (SN : Nat) W.heap.size 0 1 (W.alloc (.cells #[.int .i64 (SN : Nat)] 3)) (new_cell W (t := 3) (i := 0) rfl))))
      have H1 := Lib.hid h1
      have H2 := Lib.hid h2
      have hmx : Tryd.prog.follows .mixedOrders = true := by kernel_rfl
      have c0 := H1.out.cell 0 (show _ = some (Value.int .i64 M) from rfl)
      clear hx hl2 hr h1 h2 HF1 HF2
      gi_wp2
      have c1 := H1.out.fr 0
      first
        | (gi_region_with_o (first
            | ((refine ⟨trivial, rfl, ?_⟩); (with_reducible refine (SZ.out _).mono ?_); rintro e w7 ⟨rfl, n7, rfl⟩; generalize hw7 : World.drewN (World.drew A) n7 = w7; have X7 : Hid (∀ p, Alt p A w7) := Lib.hid (fun p => by rw [← hw7]; exact (Alt.refl _ _).drew.drewN _); have K7 := Lib.hid (Blk.alt H1.out (X7.out fun _ => False) id); have a0 : w7.cell? ⟨w1.heap.size, 0, none⟩ = some (.int .i64 M) := K7.out.cell 0 rfl; have K8 := Lib.hid (Blk.alt K7.out ((Alt.refl (fun _ => False) w7).alloc (.cells #[.int .i64 (SN : Nat)] 3)) id); have b0 : (w7.alloc (.cells #[.int .i64 (SN : Nat)] 3)).cell? ⟨w1.heap.size, 0, none⟩ = some (.int .i64 M) := K8.out.cell 0 rfl; have b1 := K8.out.fr 0; clear hw7)
            | ((refine ⟨trivial, rfl, ?_⟩); (with_reducible refine (LEA.out _).mono ?_); rintro e w8 ⟨rfl, rfl⟩)))
        | fail "region"
      all_goals gi_wp2
      all_goals exact ⟨((X7.out (fun k => k = w1.heap.size)).alloc _).setCell (q := ⟨w1.heap.size, 0, none⟩) rfl _, by rw [HSN.out]; exact Blk.setAt K8.out 0 _, (H2.out.trans ((X7.out (fun k => k = w1.heap.size)).alloc _)).setCell (q := ⟨w1.heap.size, 0, none⟩) rfl _⟩
    case stop =>
      intro c pre x post B hx h
      exact h.elim
    case done =>
      rintro B ⟨h1, h2⟩ hzB hK'
      rw [← HS2.out] at h1
      have AB := Lib.hid h2
      have EB := Lib.hid h1
      have HKB := Lib.hid hK'
      have RB := Lib.hid (Blk.alt R3.out h2 (by have := Z1.out; omega))
      have TB := Lib.hid (Blk.alt T3.out h2 (by have := Z1.out; omega))
      have BB := Lib.hid (((Alt.of_below (p := fun k => w.heap.size ≤ k) B3.out (fun k _ h => h)).trans (h2.mono fun k _ e => by have := Z1.out; omega)).below (Nat.le_refl _) fun _ h => h)
      have ZB := Lib.hid h2.size
      have r0 : B.cell? ⟨w.heap.size, 0, none⟩ = some (.int .i64 r.rows) := RB.out.cell 0 rfl
      have r1 : B.cell? ⟨w.heap.size, 1, none⟩ = some (.int .i64 r.mid) := RB.out.cell 1 rfl
      have r2 : B.cell? ⟨w.heap.size, 2, none⟩ = some (.int .i64 r.gap) := RB.out.cell 2 rfl
      have r3 : B.cell? ⟨w.heap.size, 3, none⟩ = some (.int .i64 r.reach) := RB.out.cell 3 rfl
      have r4 : B.cell? ⟨w.heap.size, 4, none⟩ = some (.slice r.la r.ls.length r.lc) := RB.out.cell 4 rfl
      clear h1 h2 hK' R3 T3 B3 E3 LU LU2
      gi_wp2
      refine ⟨trivial, rfl, ?_⟩
      refine (LE.out _ _ _).mono ?_
      rintro e w2 ⟨rfl, rfl⟩
      have LU := Lib.hid (LU1.out B BB.out)
      have XL : ∀ p, Alt p B (lvW r St a2 ball.length c2 71 #[] B) := lvW_alt
      have Z4 := Lib.hid (@lvW_size r St a2 ball.length c2 71 #[] B)
      generalize lvW r St a2 ball.length c2 71 #[] B = W4 at *
      have E4 := Lib.hid (Blk.alt EB.out (XL fun _ => False) id)
      have T4 := Lib.hid (Blk.alt TB.out (XL fun _ => False) id)
      have B4 := Lib.hid (below_go BB.out ((XL fun k => B.heap.size ≤ k).below (Nat.le_refl _) fun _ h => h))
      have K4 := Lib.hid (Alt.obj (XL fun _ => False) HKB.out id)
      clear XL EB TB BB HKB RB r0 r1 r2 r3 r4
      gi_wp2
      refine wp_iterA (gf := 98) (lb := #[.pointer (some ⟨B.heap.size + 1 + 1, 0, none⟩), .pointer (some ⟨B.heap.size, 0, none⟩), .pointer (some ⟨B.heap.size + 1 + 1 + 1, 0, none⟩), .pointer (some ⟨B.heap.size + 1, 0, none⟩)]) rfl eg98 LU.out (fun k h => ?rd) (fun _ => rfl)
        (fun k => k = w1.heap.size) (fun k h => ?hM)
        (fun pre A => Blk A w1.heap.size #[.int .i64 SY, .int .i64 (pre.foldl (fun (m : Int) (x : Nat) => max m (sizeN x : Nat)) (0 : Int))] 63 ∧ Alt (fun k => k = w1.heap.size) W4 A)
        (fun pre x a1 A => (Blk A w1.heap.size #[.int .i64 SY, .int .i64 (pre.foldl (fun (m : Int) (x : Nat) => max m (sizeN x : Nat)) (0 : Int))] 63 ∧ Alt (fun k => k = w1.heap.size) W4 A) ∧ a1 = { tmps := #[.agg #[.int .i64 r.rows, .int .i64 r.mid, .int .i64 r.gap, .int .i64 r.reach, .slice r.la r.ls.length r.lc], .slice a xs.length c, .slice a2 ball.length c2, .pointer (some ⟨w.heap.size, 0, none⟩), undef, undef, .pointer (some ⟨w.heap.size + 1, 0, none⟩), .int .i64 0, .int .u16 (St : Nat), .int .i64 0, .pointer (some ⟨w1.heap.size, 0, none⟩), undef, .int .u16 (x : Nat), .tuple #[.int .u16 (St : Nat), .int .i64 0], .agg #[.int .i64 r.rows, .int .i64 r.mid, .int .i64 r.gap, .int .i64 r.reach, .slice r.la r.ls.length r.lc], .slice a xs.length c, .slice a2 ball.length c2, .tuple #[.int .u16 (St : Nat), .int .i64 0], .int .u16 (St : Nat), .int .i64 0, .int .i64 0, .bool false, undef, undef, .slice a xs.length c, .int .i64 (xs.length : Nat), .agg #[.int .i64 (xs.length : Nat), .int .i64 0], .agg #[.int .i64 r.rows, .int .i64 r.mid, .int .i64 r.gap, .int .i64 r.reach, .slice r.la r.ls.length r.lc], .int .u16 (St : Nat), .slice a2 ball.length c2, .func (.func 98) #[] #[.pointer (some ⟨W2.heap.size + 1 + 1, 0, none⟩), .pointer (some ⟨W2.heap.size, 0, none⟩), .pointer (some ⟨W2.heap.size + 1 + 1 + 1, 0, none⟩), .pointer (some ⟨W2.heap.size + 1, 0, none⟩)], undef, undef, undef, undef, undef, undef, undef, undef, .agg #[.int .i64 r.rows, .int .i64 r.mid, .int .i64 r.gap, .int .i64 r.reach, .slice r.la r.ls.length r.lc], .int .u16 (St : Nat), .slice a2 ball.length c2, .func (.func 98) #[] #[.pointer (some ⟨B.heap.size + 1 + 1, 0, none⟩), .pointer (some ⟨B.heap.size, 0, none⟩), .pointer (some ⟨B.heap.size + 1 + 1 + 1, 0, none⟩), .pointer (some ⟨B.heap.size + 1, 0, none⟩)], .int .u16 (x : Nat), undef, undef, undef, undef, undef, undef, undef, undef], defers := [] })
        (fun _ _ _ => False)
        (fun pre A B h hAB => ?stI) (fun pre x a A B h hAB => ?stM) (fun _ _ _ _ h _ => h) ⟨E4.out, Alt.refl _ _⟩ ?assign ?body ?done ?stop
      case rd => have := RdL_in HLA.out HGA.out HTP.out h; have e1 := Z1.out; have e2 := Z2.out; have e3 := Z3.out; have e4 := Z4.out; have e5 := ZB.out; omega
      case hM =>
        have e1 := Z1.out; have e2 := Z2.out; have e3 := Z3.out; have e4 := Z4.out; have e5 := ZB.out
        exact ⟨fun h2 => by have := RdL_in HLA.out HGA.out HTP.out h2; omega, fun h2 => by unfold Rng at h2; omega⟩
      case stI =>
        have e1 := Z1.out; have e2 := Z2.out; have e3 := Z3.out; have e4 := Z4.out; have e5 := ZB.out
        exact ⟨Blk.alt h.1 hAB (fun e => by unfold Rng at e; omega), h.2.trans2 hAB (fun k hk e => by unfold Rng at e; omega)⟩
      case stM =>
        have e1 := Z1.out; have e2 := Z2.out; have e3 := Z3.out; have e4 := Z4.out; have e5 := ZB.out
        exact ⟨⟨Blk.alt h.1.1 hAB (fun e => by unfold Rng at e; omega), h.1.2.trans2 hAB (fun k hk e => by unfold Rng at e; omega)⟩, h.2⟩
      case assign =>
        intro l2 pre x post A hx hz2 hl2 hr h
        have HH := Lib.hid h
        clear hx hz2 hl2 hr h
        gi_wp2
        exact ⟨Alt.refl _ _, HH.out, by first | trivial | rfl⟩
      case body =>
        rintro l2 pre x post a1 A hx hzA hl2 hr ⟨⟨h1, h2⟩, rfl⟩
        have hxl : x < 65536 := by
          have : x ∈ (choices ball).map f1 := by rw [hx]; simp
          obtain ⟨y, _, rfl⟩ := List.mem_map.1 this
          exact HF1.out y
        have HSN := Lib.hid (fold_take_snoc (fun (m : Int) (x : Nat) => max m (sizeN x : Nat)) (0 : Int) pre x)
        generalize pre.foldl (fun (m : Int) (x : Nat) => max m (sizeN x : Nat)) (0 : Int) = M at *
        have SZ := Lib.hid (fun W => CallsIn.inRound l2 (callsIn_wide (n := 0).2 (size_any x W hxl)))
        generalize sizeN x = SN at *
        have LEA := Lib.hid (fun (W : World) => CallsIn.inRound l2 (callsIn_wide (n := 0).2 (greatest_any M (SN : Nat) W.heap.size 0 1 (W.alloc (.cells #[.int .i64 (SN : Nat)] 3)) (new_cell W (t := 3) (i := 0) rfl))))
        have H1 := Lib.hid h1
        have H2 := Lib.hid h2
        have hmx : Tryd.prog.follows .mixedOrders = true := by kernel_rfl
        have c0 := H1.out.cell 1 (show _ = some (Value.int .i64 M) from rfl)
        clear hx hl2 hr h1 h2 HF1 HF2
        gi_wp2
        have c1 := H1.out.fr 1
        first
          | (gi_region_with_o (first
              | ((refine ⟨trivial, rfl, ?_⟩); (with_reducible refine (SZ.out _).mono ?_); rintro e w7 ⟨rfl, n7, rfl⟩; generalize hw7 : World.drewN (World.drew A) n7 = w7; have X7 : Hid (∀ p, Alt p A w7) := Lib.hid (fun p => by rw [← hw7]; exact (Alt.refl _ _).drew.drewN _); have K7 := Lib.hid (Blk.alt H1.out (X7.out fun _ => False) id); have a0 : w7.cell? ⟨w1.heap.size, 1, none⟩ = some (.int .i64 M) := K7.out.cell 1 rfl; have K8 := Lib.hid (Blk.alt K7.out ((Alt.refl (fun _ => False) w7).alloc (.cells #[.int .i64 (SN : Nat)] 3)) id); have b0 : (w7.alloc (.cells #[.int .i64 (SN : Nat)] 3)).cell? ⟨w1.heap.size, 1, none⟩ = some (.int .i64 M) := K8.out.cell 1 rfl; have b1 := K8.out.fr 1; clear hw7)
              | ((refine ⟨trivial, rfl, ?_⟩); (with_reducible refine (LEA.out _).mono ?_); rintro e w8 ⟨rfl, rfl⟩)))
          | fail "region"
        all_goals gi_wp2
        all_goals exact ⟨((X7.out (fun k => k = w1.heap.size)).alloc _).setCell (q := ⟨w1.heap.size, 1, none⟩) rfl _, by rw [HSN.out]; exact Blk.setAt K8.out 1 _, (H2.out.trans ((X7.out (fun k => k = w1.heap.size)).alloc _)).setCell (q := ⟨w1.heap.size, 1, none⟩) rfl _⟩
      case stop =>
        intro c pre x post B hx h
        exact h.elim
      case done =>
        rintro C ⟨h1, h2⟩ hzC hK2
        rw [← HS1.out] at h1
        have e1 := Z1.out; have e2 := Z2.out; have e3 := Z3.out; have e4 := Z4.out; have e5 := ZB.out
        have EC := Lib.hid h1
        have TC := Lib.hid (Blk.alt T4.out h2 (by omega))
        have BC := Lib.hid (((Alt.of_below (p := fun k => w.heap.size ≤ k) B4.out (fun k _ h => h)).trans (h2.mono fun k _ e => by omega)).below (Nat.le_refl _) fun _ h => h)
        have K1 := Lib.hid (h2.obj K4.out (by omega))
        have K2 := Lib.hid hK2
        have q0 : C.cell? ⟨w1.heap.size, 0, none⟩ = some (.int .i64 SY) := EC.out.cell 0 rfl
        have q1 : C.cell? ⟨w1.heap.size, 1, none⟩ = some (.int .i64 SU) := EC.out.cell 1 rfl
        have t0 : C.cell? ⟨w.heap.size + 1, 0, none⟩ = some (.int .i64 0) := TC.out.cell 0 rfl
        have t1 : C.cell? ⟨w.heap.size + 1, 1, none⟩ = some (.int .i64 0) := TC.out.cell 1 rfl
        have f0 := TC.out.fr 0
        have f1' := TC.out.fr 1
        have hW34 := Lib.hid (show W3.heap.size ≠ W4.heap.size by omega)
        have hWw := Lib.hid (show w.heap.size + 1 < W3.heap.size ∧ w.heap.size + 1 < W4.heap.size by omega)
        have TX := Lib.hid (Blk.set2 TC.out (.int .i64 SY) (.int .i64 SU))
        have AX := Lib.hid (((Alt.refl (fun k => k = w.heap.size + 1) C).setCell (q := ⟨w.heap.size + 1, 0, none⟩) rfl (.int .i64 SY)).setCell (q := ⟨w.heap.size + 1, 1, none⟩) rfl (.int .i64 SU))
        clear h1 h2 hK2 e1 e2 e3 e4 e5 E4 T4 B4 K4 LU LU1 HS1 HS2 LE HLA HGA Z1 Z2 Z3 Z4 ZB hs1 AB HF1 HF2
        gi_wp2
        have K1X := AX.out.obj K1.out (by have := hWw.out; omega)
        have K2X := AX.out.obj K2.out (by have := hWw.out; omega)
        have BX := (Alt.of_below (p := fun k => w.heap.size ≤ k) BC.out (fun k _ h => h)).trans (AX.out.mono fun k _ e => by omega)
        have tx := TX.out
        generalize (C.setCell _ _).setCell _ _ = X at K1X K2X BX tx ⊢
        have YY : ∀ p : Nat → Prop, p W4.heap.size → p W3.heap.size → Alt p X ((X.putObj W4.heap.size (.deferred none)).putObj W3.heap.size (.deferred none)) := fun p h4 h3 => ((Alt.refl p X).putObj h4 _).putObj h3 _
        have ty := Blk.alt tx (YY (fun k => k = W3.heap.size ∨ k = W4.heap.size) (.inr rfl) (.inl rfl)) (by have := hWw.out; omega)
        have h0 := ty.cell 0 (show _ = some (Value.int .i64 SY) from rfl)
        have h1 := ty.cell 1 (show _ = some (Value.int .i64 SU) from rfl)
        have by_ := (BX.trans (YY (fun k => w.heap.size ≤ k) (by have := hWw.out; omega) (by have := hWw.out; omega))).below (Nat.le_refl _) fun _ h => h
        refine leave_ret2 K2X K1X hW34.out (v := .tuple #[.agg #[.int .i64 SY, .int .i64 SU], .int .i64 0]) ?_ ⟨rfl, by_⟩
        generalize ((X.putObj W4.heap.size (.deferred none)).putObj W3.heap.size (.deferred none)) = Y at h0 h1 ⊢
        simp [results, Tryd.results36, go_sem, h0, h1]
  · have hE' : (balE r xs ball == 0) = false := by simpa using hE
    rw [if_neg hE] at hNc
    rw [hNc] at CR
    rw [HRv.out, if_neg hE]
    refine (callsIn_wide (n := 0)).1 ?_
    generalize balE r xs ball = E at *
    clear hNc hE hL hla hX hm hG hga hT HRv
    unfold rCells at B0 R0 T0
    unfold Rk.val at CR
    unfold Rk.val Rg.val
    refine callsIn_of_wp_marks Tryd.func36 rfl trivial ?_ rfl
    simp only [Tryd.ntmps36, List.size_toArray, List.length_cons, List.length_nil, Nat.reduceAdd, Nat.reduceSub, Array.replicate_succ, Array.replicate_zero, List.push_toArray, List.append_toArray, List.nil_append, List.cons_append]
    gi_wp2
    refine ⟨trivial, rfl, ?_⟩
    refine (CR.out _ B0.out).mono ?_
    rintro e w1 ⟨rfl, hb⟩
    have T1 := Lib.hid (Blk.alt T0.out (Alt.of_below (p := fun _ => False) hb (fun k hk h => by omega)) id)
    have B1 := Lib.hid (below_go B0.out hb)
    have t0 : w1.cell? ⟨w.heap.size + 1, 0, none⟩ = some (.int .i64 0) := T1.out.cell 0 rfl
    have t1 : w1.cell? ⟨w.heap.size + 1, 1, none⟩ = some (.int .i64 0) := T1.out.cell 1 rfl
    have f0 := T1.out.fr 0
    have f1 := T1.out.fr 1
    have TX := Lib.hid (Blk.set2 T1.out (.int .i64 0) (.int .i64 0))
    have BX := Lib.hid ((((Alt.of_below (p := fun k => w.heap.size ≤ k) B1.out (fun k _ h => h)).setCell (q := ⟨w.heap.size + 1, 0, none⟩) (Nat.le_succ _) (.int .i64 0)).setCell (q := ⟨w.heap.size + 1, 1, none⟩) (Nat.le_succ _) (.int .i64 0)).below (Nat.le_refl _) fun _ h => h)
    clear hb R0 CR B0
    gi_wp2
    have h0 := TX.out.cell 0 (show _ = some (Value.int .i64 0) from rfl)
    have h1 := TX.out.cell 1 (show _ = some (Value.int .i64 0) from rfl)
    have b1 := BX.out
    generalize (w1.setCell _ _).setCell _ _ = X at h0 h1 b1 ⊢
    refine bodyPostM_ret0 (v := .tuple #[.agg #[.int .i64 0, .int .i64 0], .int .i64 E]) (by simp [results, Tryd.results36, go_sem, h0, h1]) ⟨rfl, b1⟩

end Go.Proofs.YtaloffdkadhhnaaDoor
