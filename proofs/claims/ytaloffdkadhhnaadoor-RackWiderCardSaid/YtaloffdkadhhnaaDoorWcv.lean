/- The walk of RackConverts. -/
import Derived.Test.YtaloffdkadhhnaaDoorGo
set_option linter.unusedVariables false
set_option linter.unusedSimpArgs false
namespace Go.Proofs.YtaloffdkadhhnaaDoor
open Go.RowKit

attribute [local go_sem] Oper.semAt_some

structure RC3 (r : Rk) (l : Ln) (gC : Nat) (d : Ln) (w W : World) : Prop where
  s : RLn r l w W
  bC : Blk W gC #[.int .i64 d.st, .int .i64 d.dr] 73
  hg : w.heap.size + 1 < gC
theorem RC3.go {r : Rk} {l : Ln} {gC : Nat} {d : Ln} {w W W' : World} (h : RC3 r l gC d w W) (hb : Below W.heap.size W W') : RC3 r l gC d w W' :=
  ⟨h.s.go hb, Blk.alt h.bC (Alt.of_below (p := fun k => W.heap.size ≤ k) hb (fun k _ e => e)) (by have := h.bC.lt; omega), h.hg⟩
/-- .. and with the reference's line. -/
structure RC4 (r : Rk) (l : Ln) (gC gX : Nat) (d x : Ln) (w W : World) : Prop where
  s : RC3 r l gC d w W
  bX : Blk W gX #[.int .i64 x.st, .int .i64 x.dr] 72
  hx : w.heap.size + 1 < gX ∧ gC < gX
theorem RC4.go {r : Rk} {l : Ln} {gC gX : Nat} {d x : Ln} {w W W' : World} (h : RC4 r l gC gX d x w W) (hb : Below W.heap.size W W') : RC4 r l gC gX d x w W' :=
  ⟨h.s.go hb, Blk.alt h.bX (Alt.of_below (p := fun k => W.heap.size ≤ k) hb (fun k _ e => e)) (by have := h.bX.lt; omega), h.hx⟩
theorem RC4.set {r : Rk} {l : Ln} {gC gX : Nat} {d x x' : Ln} {w W : World} (h : RC4 r l gC gX d x w W) : RC4 r l gC gX d x' w ((W.setCell ⟨gX, 0, none⟩ (.int .i64 x'.st)).setCell ⟨gX, 1, none⟩ (.int .i64 x'.dr)) := by
  have ha : Alt (fun k => k = gX) W ((W.setCell ⟨gX, 0, none⟩ (.int .i64 x'.st)).setCell ⟨gX, 1, none⟩ (.int .i64 x'.dr)) :=
    ((Alt.refl (fun k => k = gX) W).setCell (q := ⟨gX, 0, none⟩) rfl _).setCell (q := ⟨gX, 1, none⟩) rfl _
  obtain ⟨h1, h2⟩ := h.hx
  refine ⟨⟨⟨?_, Blk.alt h.s.s.bK ha (by omega), Blk.alt h.s.s.bL ha (by omega)⟩, Blk.alt h.s.bC ha (by omega), h.s.hg⟩, h.bX.set2 _ _, h1, h2⟩
  exact ((Alt.of_below (p := fun k => w.heap.size ≤ k) h.s.s.bl (fun k _ e => e)).trans (ha.mono fun k _ e => by omega)).below (Nat.le_refl _) fun k e => e

def NewRk2 (r : Rk) (w : World) (e : Ending) (w' : World) : Prop := ∃ a c, e = .returned (.agg #[.int .i64 r.rows, .int .i64 r.mid, .int .i64 r.gap, .int .i64 r.reach, .slice a r.ls.length c]) ∧ LinksAt w' a r.ls ∧ (∀ g o, a = some ⟨g, o, none⟩ → g < w'.heap.size) ∧ Below w.heap.size w w'

theorem prv_off {r : Rk} {xs : List Int} {l : Ln} (h : chkE r xs ≠ 0) : prvB r xs l = false := by unfold prvB; rw [beq_eq_false_iff_ne.2 h]; rfl
theorem prv_on {r : Rk} {xs : List Int} {l : Ln} (h : chkE r xs = 0) : prvB r xs l = (inB l.st 0 60 && (inB l.dr (-3) 3 && convB r (setN xs) l (cbOf false))) := by unfold prvB Ln.okB; rw [h]; simp [Bool.and_assoc]
theorem cvt_off {r : Rk} {xs : List Int} {may : Bool} (h : chkE r xs ≠ 0) : cvtR r xs may = (⟨0, 0⟩, chkE r xs) := by unfold cvtR; rw [if_neg h]

set_option maxRecDepth 100000 in
set_option maxHeartbeats 8000000 in
theorem rackConverts_any (r : Rk) (xs : List Int) (a : Option Addr) (c : Nat) (may : Bool) (l : Ln) (w : World) (hL : LinksAt w r.la r.ls) (hX : IntsAt w a xs) (hN : a = none → xs = [] ∧ c = 0) (hT : TabOK w) :
    Calls Tryd.prog 6 #[r.val, .slice a xs.length c, .bool may, l.val] w fun e w' => e = .returned (.bool true) ∧ Below w.heap.size w w' := by
  have TH := Lib.hid (fun W => thin_any r a none xs.length c 0 0 W)
  have AW := Lib.hid (fun W (hb : Below w.heap.size w W) => awake_any W (hT.lo hb))
  have S0 := Lib.hid (RLn.start r l w)
  unfold rCells at S0
  by_cases hthin : thinB r xs.length 0 = true
  · have hn16 : r.ls.length ≤ 16 := by unfold thinB at hthin; simp at hthin; exact hthin.1
    have hx15 : xs.length ≤ 15 := by unfold thinB at hthin; simp at hthin; exact hthin.2
    have PI := Lib.hid (fun W (hb : Below w.heap.size w W) => pinned_any r xs a c W (hL.lo hb) (by omega) (hX.lo hb) (by omega))
    rw [hthin] at TH
    have RA := Lib.hid (fun W (hb : Below w.heap.size w W) => show Calls Tryd.prog 18 #[.agg #[.int .i64 r.rows, .int .i64 r.mid, .int .i64 r.gap, .int .i64 r.reach, .slice r.la r.ls.length r.lc]] W (NewRk2 r W) from (lawRack_any r W (hL.lo hb) (by omega)).mono fun e w' ⟨a, c, h⟩ => ⟨a, c, h⟩)
    have LX := Lib.hid (fun W (hb : Below w.heap.size w W) => lawints_any xs a c W (hX.lo hb) hN (by omega))
    have CV := Lib.hid (fun W a' c' aX cX (hb : Below w.heap.size w W) (g1 : LinksAt W a' r.ls) (g2 : ∀ g o, a' = some ⟨g, o, none⟩ → g < W.heap.size) (g3 : IntsAt W aX xs) =>
      show Calls Tryd.prog 40 #[.agg #[.int .i64 r.rows, .int .i64 r.mid, .int .i64 r.gap, .int .i64 r.reach, .slice a' r.ls.length c'], .slice aX xs.length cX, .bool may] W fun e w' => e = .returned (.tuple #[.agg #[.int .i64 (cvtR r xs may).1.st, .int .i64 (cvtR r xs may).1.dr], .int .i64 (cvtR r xs may).2]) ∧ Below W.heap.size W w' from
      convert_any (r.at a' c') xs aX cX may W g1 (show r.ls.length ≤ 1000 by omega) g2 g3 (by omega) (hT.lo hb))
    have PV := Lib.hid (fun W a' c' aX cX (hb : Below w.heap.size w W) (g1 : LinksAt W a' r.ls) (g2 : ∀ g o, a' = some ⟨g, o, none⟩ → g < W.heap.size) (g3 : IntsAt W aX xs) =>
      show Calls Tryd.prog 41 #[.agg #[.int .i64 r.rows, .int .i64 r.mid, .int .i64 r.gap, .int .i64 r.reach, .slice a' r.ls.length c'], .slice aX xs.length cX, .agg #[.int .i64 l.st, .int .i64 l.dr]] W fun e w' => e = .returned (.bool (prvB r xs l)) ∧ Below W.heap.size W w' from
      prove_any (r.at a' c') xs aX cX l W g1 (show r.ls.length ≤ 1000 by omega) g2 g3 (by omega) (hT.lo hb))
    unfold Rk.val Ln.val at *
    by_cases hE : chkE r xs = 0
    · cases hf : fstL (fun l => convB r (setN xs) l (cbOf may)) with
      | none =>
        have HC := Lib.hid (show cvtR r xs may = (⟨0, 0⟩, 9) by unfold cvtR; rw [if_pos hE, hf])
        have HXX := Lib.hid (show (cxR fun l => convB r (setN xs) l (cbOf may)) = (⟨0, 0⟩, false) by unfold cxR; rw [hf])
        have RX := Lib.hid (fun W (hb : Below w.heap.size w W) => rconvert_any r xs a c may W (hL.lo hb) hE (hX.lo hb))
        rw [HXX.out] at RX
        rw [HC.out] at CV
        have HPV := Lib.hid (prv_on (l := l) hE)
        rw [HPV.out] at PV
        rw [hE] at PI
        have RC := Lib.hid (fun (h : l.okB = true) W (hb : Below w.heap.size w W) => rconv_any r xs a c l false W (hL.lo hb) hE (hX.lo hb) h)
        unfold Rk.val Ln.val at RX RC
        obtain ⟨d, hd⟩ : ∃ d : Ln, d = ⟨0, 0⟩ := ⟨_, rfl⟩
        have CV := Lib.hid (show ∀ W a' c' aX cX, _ → _ → _ → _ → Calls Tryd.prog 40 #[.agg #[.int .i64 r.rows, .int .i64 r.mid, .int .i64 r.gap, .int .i64 r.reach, .slice a' r.ls.length c'], .slice aX xs.length cX, .bool may] W fun e w' => e = .returned (.tuple #[.agg #[.int .i64 d.st, .int .i64 d.dr], .int .i64 9]) ∧ Below W.heap.size W w' from by rw [hd]; exact CV.out)
        have HD := Lib.hid hd
        have HOK := Lib.hid (show l.okB = (inB l.st 0 60 && inB l.dr (-3) 3) from rfl)
        generalize convB r (setN xs) l (cbOf false) = pv at *
        clear hE hL hX hN hT hthin hf HC HXX HPV hn16 hx15 hd
        have IN1 := Lib.hid (fun W => refIn_any l.st 0 60 W)
        have IN2 := Lib.hid (fun W => refIn_any l.dr (-3) 3 W)
        generalize inB l.st 0 60 = b1 at *
        generalize inB l.dr (-3) 3 = b2 at *
        go_enter Tryd.func6, Tryd.ntmps6
        go_wp2_with fail
        refine (TH.out _).mono ?_
        rintro e w1 ⟨rfl, hb⟩
        have S1 := Lib.hid (S0.out.go hb)
        obtain ⟨r0, r1, r2, r3, r4, l0, l1⟩ := S1.out.c
        clear hb S0
        go_wp2_with fail
        refine (RA.out _ S1.out.bl).mono ?_
        rintro e w2 ⟨a2, c2, rfl, hl, hg, hb⟩
        have S2 := Lib.hid (S1.out.go hb); have L2 := Lib.hid hl; have G2 := Lib.hid hg
        clear hb S1 hl hg r0 r1 r2 r3 r4 l0 l1
        go_wp2_with fail
        refine (LX.out _ S2.out.bl).mono ?_
        rintro e w3 ⟨a3, c3, rfl, hi, hb⟩
        have S3 := Lib.hid (S2.out.go hb)
        have L3 := Lib.hid (L2.out.lo hb); have G3 := Lib.hid (fun g o e => Nat.lt_of_lt_of_le (G2.out g o e) hb.size); have X3 := Lib.hid hi
        clear hb S2 hi L2 G2
        go_wp2_with fail
        refine (CV.out _ _ _ _ _ S3.out.bl L3.out G3.out X3.out).mono ?_
        rintro e w4 ⟨rfl, hb⟩
        have S4 := Lib.hid (show RC3 r l w4.heap.size d w (w4.alloc (.cells #[.int .i64 d.st, .int .i64 d.dr] 73)) from ⟨(S3.out.go hb).go (below_al w4 _), Blk.new w4 _ _, (S3.out.go hb).bL.lt⟩)
        clear hb S3 L3 G3 X3 CV
        have S5 := Lib.hid (S4.out.go (Below.drew (Below.refl _ _)))
        go_wp2_with fail
        generalize w4.alloc _ = w5 at *
        generalize w4.heap.size = gC at *
        refine wp_region_held_drew (S := (fun W => W.cell? ⟨w.heap.size, 0, none⟩ = some (.int .i64 r.rows) ∧ W.cell? ⟨w.heap.size, 1, none⟩ = some (.int .i64 r.mid) ∧ W.cell? ⟨w.heap.size, 2, none⟩ = some (.int .i64 r.gap) ∧ W.cell? ⟨w.heap.size, 3, none⟩ = some (.int .i64 r.reach) ∧ W.cell? ⟨w.heap.size, 4, none⟩ = some (.slice r.la r.ls.length r.lc) ∧ W.cell? ⟨w.heap.size + 1, 0, none⟩ = some (.int .i64 l.st) ∧ W.cell? ⟨w.heap.size + 1, 1, none⟩ = some (.int .i64 l.dr))) (by kernel_rfl) ?_ (fun hHeld => ?_)
        · (try dsimp only); (with_reducible first | exact SC.out.s.c | exact SB.out.s.c | exact SA.out.s.c | exact S5.out.s.c)
        refine wpAnyH_take (i := 0) (oi := { dst := some 29, op := Op.load 24 (Operand.tmp 4), type := 24, pos := "law.go:191", after := #[], guard := none }) (v := ?v_cv4none_0) rfl (by kernel_rfl) (by kernel_rfl) (by kernel_rfl) (fun _ _ _ h => h) (Or.inl ⟨by rfl, ?y_cv4none_0⟩) (by assumption) ?_
        case y_cv4none_0 => intro w hSw; (try dsimp only at hSw); go_simp; with_reducible rfl
        try simp only [Act.put, List.setIfInBounds_toArray, List.set_cons_zero, List.set_cons_succ]
        refine wpAnyH_take (i := 2) (oi := { dst := some 31, op := Op.move (Operand.tmp 1), type := 25, pos := "law.go:191", after := #[], guard := none }) (v := ?v_cv4none_1) rfl (by kernel_rfl) (by kernel_rfl) (by kernel_rfl) (fun _ _ _ h => h) (Or.inl ⟨by rfl, ?y_cv4none_1⟩) (by assumption) ?_
        case y_cv4none_1 => intro w hSw; (try dsimp only at hSw); go_simp; with_reducible rfl
        try simp only [Act.put, List.setIfInBounds_toArray, List.set_cons_zero, List.set_cons_succ]
        refine wpAnyH_take (i := 4) (oi := { dst := some 33, op := Op.fieldAddr 72 (Operand.tmp 7) 0, type := 0, pos := "law.go:191", after := #[], guard := none }) (v := ?v_cv4none_2) rfl (by kernel_rfl) (by kernel_rfl) (by kernel_rfl) (fun _ _ _ h => h) (Or.inl ⟨by rfl, ?y_cv4none_2⟩) (by assumption) ?_
        case y_cv4none_2 => intro w hSw; (try dsimp only at hSw); go_simp; with_reducible rfl
        try simp only [Act.put, List.setIfInBounds_toArray, List.set_cons_zero, List.set_cons_succ]
        refine wpAnyH_take (i := 5) (oi := { dst := some 34, op := Op.load 3 (Operand.tmp 33), type := 3, pos := "law.go:191", after := #[{ on := 4, ground := Ground.data }], guard := none }) (v := ?v_cv4none_3) rfl (by kernel_rfl) (by kernel_rfl) (by kernel_rfl) (fun _ _ _ h => h) (Or.inl ⟨by rfl, ?y_cv4none_3⟩) (by assumption) ?_
        case y_cv4none_3 => intro w hSw; (try dsimp only at hSw); go_simp; with_reducible rfl
        try simp only [Act.put, List.setIfInBounds_toArray, List.set_cons_zero, List.set_cons_succ]
        refine wpAnyH_take (i := 6) (oi := { dst := some 35, op := Op.fieldAddr 72 (Operand.tmp 7) 1, type := 0, pos := "law.go:191", after := #[], guard := none }) (v := ?v_cv4none_4) rfl (by kernel_rfl) (by kernel_rfl) (by kernel_rfl) (fun _ _ _ h => h) (Or.inl ⟨by rfl, ?y_cv4none_4⟩) (by assumption) ?_
        case y_cv4none_4 => intro w hSw; (try dsimp only at hSw); go_simp; with_reducible rfl
        try simp only [Act.put, List.setIfInBounds_toArray, List.set_cons_zero, List.set_cons_succ]
        refine wpAnyH_take (i := 7) (oi := { dst := some 36, op := Op.load 3 (Operand.tmp 35), type := 3, pos := "law.go:191", after := #[{ on := 6, ground := Ground.data }], guard := none }) (v := ?v_cv4none_5) rfl (by kernel_rfl) (by kernel_rfl) (by kernel_rfl) (fun _ _ _ h => h) (Or.inl ⟨by rfl, ?y_cv4none_5⟩) (by assumption) ?_
        case y_cv4none_5 => intro w hSw; (try dsimp only at hSw); go_simp; with_reducible rfl
        try simp only [Act.put, List.setIfInBounds_toArray, List.set_cons_zero, List.set_cons_succ]
        refine wpAnyH_take (i := 8) (oi := { dst := some 37, op := Op.build 73 #[(0, Operand.tmp 34), (1, Operand.tmp 36)], type := 73, pos := "law.go:191", after := #[{ on := 5, ground := Ground.data }, { on := 7, ground := Ground.data }], guard := none }) (v := ?v_cv4none_6) rfl (by kernel_rfl) (by kernel_rfl) (by kernel_rfl) (fun _ _ _ h => h) (Or.inl ⟨by rfl, ?y_cv4none_6⟩) (by assumption) ?_
        case y_cv4none_6 => intro w hSw; (try dsimp only at hSw); go_simp; with_reducible rfl
        try simp only [Act.put, List.setIfInBounds_toArray, List.set_cons_zero, List.set_cons_succ]
        refine wpAnyH_ready (rs := [1]) (by kernel_rfl) (by simp) ?_
        refine AllReadyH.cons (o := { dst := some 30, op := Op.call { callee := Callee.value (Operand.func 18), args := #[Operand.tmp 29], argTypes := #[24] }, type := 32, pos := "law.go:191", after := #[{ on := 0, ground := Ground.data }], guard := none }) rfl (fun K hK => ?_) ?_
        go_simp
        (first | (go_at_call 18; (with_reducible refine (RA.out _ S5.out.s.bl).mono ?_); rintro e wA ⟨aR, cR, rfl, hl, hg, hb⟩; have SA := Lib.hid (S5.out.go hb); have LA := Lib.hid hl; have GA := Lib.hid hg; clear hb hl hg) | (go_at_call 20; (with_reducible refine (LX.out _ SA.out.s.bl).mono ?_); rintro e wB ⟨aX, cX, rfl, hi, hb⟩; have SB := Lib.hid (SA.out.go hb); have LB := Lib.hid (LA.out.lo hb); have GB := Lib.hid (fun g o e => Nat.lt_of_lt_of_le (GA.out g o e) hb.size); have XB := Lib.hid hi; clear hb hi) | (go_at_call 41; (with_reducible refine (PV.out _ _ _ _ _ SB.out.s.bl LB.out GB.out XB.out).mono ?_); rintro e wC ⟨rfl, hb⟩; have SC := Lib.hid (SB.out.go hb); clear hb))
        go_wp2_with fail
        refine hK.out _ _ ?_ (fun hHeld => ?_)
        · (try dsimp only); (with_reducible first | exact SC.out.s.c | exact SB.out.s.c | exact SA.out.s.c | exact S5.out.s.c)
        clear hK K
        try simp only [Act.put, List.setIfInBounds_toArray, List.set_cons_zero, List.set_cons_succ]
        refine wpAnyH_ready (rs := [3]) (by kernel_rfl) (by simp) ?_
        refine AllReadyH.cons (o := { dst := some 32, op := Op.call { callee := Callee.value (Operand.func 20), args := #[Operand.tmp 31], argTypes := #[25] }, type := 25, pos := "law.go:191", after := #[{ on := 2, ground := Ground.data }, { on := 1, ground := Ground.chain }], guard := none }) rfl (fun K hK => ?_) ?_
        go_simp
        (first | (go_at_call 18; (with_reducible refine (RA.out _ S5.out.s.bl).mono ?_); rintro e wA ⟨aR, cR, rfl, hl, hg, hb⟩; have SA := Lib.hid (S5.out.go hb); have LA := Lib.hid hl; have GA := Lib.hid hg; clear hb hl hg) | (go_at_call 20; (with_reducible refine (LX.out _ SA.out.s.bl).mono ?_); rintro e wB ⟨aX, cX, rfl, hi, hb⟩; have SB := Lib.hid (SA.out.go hb); have LB := Lib.hid (LA.out.lo hb); have GB := Lib.hid (fun g o e => Nat.lt_of_lt_of_le (GA.out g o e) hb.size); have XB := Lib.hid hi; clear hb hi) | (go_at_call 41; (with_reducible refine (PV.out _ _ _ _ _ SB.out.s.bl LB.out GB.out XB.out).mono ?_); rintro e wC ⟨rfl, hb⟩; have SC := Lib.hid (SB.out.go hb); clear hb))
        go_wp2_with fail
        refine hK.out _ _ ?_ (fun hHeld => ?_)
        · (try dsimp only); (with_reducible first | exact SC.out.s.c | exact SB.out.s.c | exact SA.out.s.c | exact S5.out.s.c)
        clear hK K
        try simp only [Act.put, List.setIfInBounds_toArray, List.set_cons_zero, List.set_cons_succ]
        refine wpAnyH_ready (rs := [9]) (by kernel_rfl) (by simp) ?_
        refine AllReadyH.cons (o := { dst := some 38, op := Op.call { callee := Callee.value (Operand.func 41), args := #[Operand.tmp 30, Operand.tmp 32, Operand.tmp 37], argTypes := #[32, 25, 73] }, type := 4, pos := "law.go:191", after := #[{ on := 1, ground := Ground.data }, { on := 3, ground := Ground.data }, { on := 8, ground := Ground.data }, { on := 3, ground := Ground.chain }], guard := none }) rfl (fun K hK => ?_) ?_
        go_simp
        (first | (go_at_call 18; (with_reducible refine (RA.out _ S5.out.s.bl).mono ?_); rintro e wA ⟨aR, cR, rfl, hl, hg, hb⟩; have SA := Lib.hid (S5.out.go hb); have LA := Lib.hid hl; have GA := Lib.hid hg; clear hb hl hg) | (go_at_call 20; (with_reducible refine (LX.out _ SA.out.s.bl).mono ?_); rintro e wB ⟨aX, cX, rfl, hi, hb⟩; have SB := Lib.hid (SA.out.go hb); have LB := Lib.hid (LA.out.lo hb); have GB := Lib.hid (fun g o e => Nat.lt_of_lt_of_le (GA.out g o e) hb.size); have XB := Lib.hid hi; clear hb hi) | (go_at_call 41; (with_reducible refine (PV.out _ _ _ _ _ SB.out.s.bl LB.out GB.out XB.out).mono ?_); rintro e wC ⟨rfl, hb⟩; have SC := Lib.hid (SB.out.go hb); clear hb))
        go_wp2_with fail
        refine hK.out _ _ ?_ (fun hHeld => ?_)
        · (try dsimp only); (with_reducible first | exact SC.out.s.c | exact SB.out.s.c | exact SA.out.s.c | exact S5.out.s.c)
        clear hK K
        try simp only [Act.put, List.setIfInBounds_toArray, List.set_cons_zero, List.set_cons_succ]
        refine wpAnyH_take (i := 10) (oi := { dst := some 11, op := Op.assign (Operand.tmp 38), type := 4, pos := "law.go:191", after := #[{ on := 9, ground := Ground.data }, { on := 9, ground := Ground.chain }, { on := 0, ground := Ground.phase }, { on := 1, ground := Ground.phase }, { on := 2, ground := Ground.phase }, { on := 3, ground := Ground.phase }, { on := 4, ground := Ground.phase }, { on := 5, ground := Ground.phase }, { on := 6, ground := Ground.phase }, { on := 7, ground := Ground.phase }, { on := 8, ground := Ground.phase }, { on := 9, ground := Ground.phase }], guard := none }) (v := ?v_cv4none_7) rfl (by kernel_rfl) (by kernel_rfl) (by kernel_rfl) (fun _ _ _ h => h) (Or.inl ⟨by rfl, ?y_cv4none_7⟩) (by assumption) ?_
        case y_cv4none_7 => intro w hSw; (try dsimp only at hSw); go_simp; with_reducible rfl
        try simp only [Act.put, List.setIfInBounds_toArray, List.set_cons_zero, List.set_cons_succ]
        refine wpAnyH_done (by kernel_rfl) ?_ _
        rotate_left 1
        exact AllReadyH.nil
        exact AllReadyH.nil
        exact AllReadyH.nil
        clear S4 S5 SA LA GA SB LB GB XB PV RA LX
        obtain ⟨r0, r1, r2, r3, r4, l0, l1⟩ := SC.out.s.c
        go_wp2_with fail
        refine (PI.out _ SC.out.s.bl).mono ?_
        rintro e w7 ⟨rfl, hb⟩
        have S7 := Lib.hid (SC.out.go hb)
        clear hb SC PI r0 r1 r2 r3 r4 l0 l1
        obtain ⟨r0, r1, r2, r3, r4, l0, l1⟩ := S7.out.s.c
        go_wp2_with fail
        (with_reducible refine (IN1.out _).mono ?_)
        rintro e w8 ⟨rfl, rfl⟩
        have HDD := Lib.hid HD.out
        obtain rfl := HD.out
        cases b1
        · clear IN2 RC
          have SX := Lib.hid (show RC4 r l gC w7.heap.size ⟨0, 0⟩ ⟨0, 0⟩ w (w7.alloc (.cells #[.int .i64 0, .int .i64 0] 72)) from ⟨S7.out.go (below_al _ _), Blk.new _ _ _, by have := S7.out.s.bL.lt; have := S7.out.bC.lt; exact ⟨by omega, by omega⟩⟩)
          obtain ⟨q0, q1, q2, q3, q4, q5, q6⟩ := SX.out.s.s.c
          go_wp2_with fail
          generalize hwx : w7.alloc (.cells #[.int .i64 0, .int .i64 0] 72) = wx at *
          generalize w7.heap.size = gX at *
          refine (RX.out _ SX.out.s.s.bl).mono ?_
          rintro e wY ⟨rfl, hb⟩
          have SY := Lib.hid (SX.out.go hb)
          have f0 := SY.out.bX.fr 0
          have f1 := SY.out.bX.fr 1
          have x0 := SY.out.bX.cell 0 rfl
          have x1 := SY.out.bX.cell 1 rfl
          have SZ := Lib.hid (SY.out.set (x' := ⟨0, 0⟩))
          have z0 := SZ.out.bX.cell 0 rfl
          have z1 := SZ.out.bX.cell 1 rfl
          have y0 := SZ.out.s.bC.cell 0 rfl
          have y1 := SZ.out.s.bC.cell 1 rfl
          clear hb SX hwx q0 q1 q2 q3 q4 q5 q6
          go_wp2_with fail
          refine (AW.out _ SZ.out.s.s.bl).mono ?_
          rintro e w9 ⟨rfl, hb⟩
          have S9 := Lib.hid (SZ.out.go hb)
          clear hb
          go_wp2_with fail
          go_returns
          exact ⟨rfl, S9.out.s.s.bl⟩
        · go_wp2_with fail
          (with_reducible refine (IN2.out _).mono ?_)
          rintro e w8 ⟨rfl, rfl⟩
          cases b2
          · clear RC
            have SX := Lib.hid (show RC4 r l gC w7.heap.size ⟨0, 0⟩ ⟨0, 0⟩ w (w7.alloc (.cells #[.int .i64 0, .int .i64 0] 72)) from ⟨S7.out.go (below_al _ _), Blk.new _ _ _, by have := S7.out.s.bL.lt; have := S7.out.bC.lt; exact ⟨by omega, by omega⟩⟩)
            obtain ⟨q0, q1, q2, q3, q4, q5, q6⟩ := SX.out.s.s.c
            go_wp2_with fail
            generalize hwx : w7.alloc (.cells #[.int .i64 0, .int .i64 0] 72) = wx at *
            generalize w7.heap.size = gX at *
            refine (RX.out _ SX.out.s.s.bl).mono ?_
            rintro e wY ⟨rfl, hb⟩
            have SY := Lib.hid (SX.out.go hb)
            have f0 := SY.out.bX.fr 0
            have f1 := SY.out.bX.fr 1
            have x0 := SY.out.bX.cell 0 rfl
            have x1 := SY.out.bX.cell 1 rfl
            have SZ := Lib.hid (SY.out.set (x' := ⟨0, 0⟩))
            have z0 := SZ.out.bX.cell 0 rfl
            have z1 := SZ.out.bX.cell 1 rfl
            have y0 := SZ.out.s.bC.cell 0 rfl
            have y1 := SZ.out.s.bC.cell 1 rfl
            clear hb SX hwx q0 q1 q2 q3 q4 q5 q6
            go_wp2_with fail
            refine (AW.out _ SZ.out.s.s.bl).mono ?_
            rintro e w9 ⟨rfl, hb⟩
            have S9 := Lib.hid (SZ.out.go hb)
            clear hb
            go_wp2_with fail
            go_returns
            exact ⟨rfl, S9.out.s.s.bl⟩
          · have RC1 := Lib.hid (fun W hb => RC.out HOK.out W hb)
            clear RC
            go_wp2_with fail
            (with_reducible refine (RC1.out _ S7.out.s.bl).mono ?_)
            rintro e wP ⟨rfl, hb⟩
            have SP := Lib.hid (S7.out.go hb)
            clear hb r0 r1 r2 r3 r4 l0 l1 RC1 S7
            cases pv
            · have SX := Lib.hid (show RC4 r l gC wP.heap.size ⟨0, 0⟩ ⟨0, 0⟩ w (wP.alloc (.cells #[.int .i64 0, .int .i64 0] 72)) from ⟨SP.out.go (below_al _ _), Blk.new _ _ _, by have := SP.out.s.bL.lt; have := SP.out.bC.lt; exact ⟨by omega, by omega⟩⟩)
              obtain ⟨q0, q1, q2, q3, q4, q5, q6⟩ := SX.out.s.s.c
              go_wp2_with fail
              generalize hwx : wP.alloc (.cells #[.int .i64 0, .int .i64 0] 72) = wx at *
              generalize wP.heap.size = gX at *
              refine (RX.out _ SX.out.s.s.bl).mono ?_
              rintro e wY ⟨rfl, hb⟩
              have SY := Lib.hid (SX.out.go hb)
              have f0 := SY.out.bX.fr 0
              have f1 := SY.out.bX.fr 1
              have x0 := SY.out.bX.cell 0 rfl
              have x1 := SY.out.bX.cell 1 rfl
              have SZ := Lib.hid (SY.out.set (x' := ⟨0, 0⟩))
              have z0 := SZ.out.bX.cell 0 rfl
              have z1 := SZ.out.bX.cell 1 rfl
              have y0 := SZ.out.s.bC.cell 0 rfl
              have y1 := SZ.out.s.bC.cell 1 rfl
              clear hb SX hwx q0 q1 q2 q3 q4 q5 q6
              go_wp2_with fail
              refine (AW.out _ SZ.out.s.s.bl).mono ?_
              rintro e w9 ⟨rfl, hb⟩
              have S9 := Lib.hid (SZ.out.go hb)
              clear hb
              go_wp2_with fail
              go_returns
              exact ⟨rfl, S9.out.s.s.bl⟩
            · have SX := Lib.hid (show RC4 r l gC wP.heap.size ⟨0, 0⟩ ⟨0, 0⟩ w (wP.alloc (.cells #[.int .i64 0, .int .i64 0] 72)) from ⟨SP.out.go (below_al _ _), Blk.new _ _ _, by have := SP.out.s.bL.lt; have := SP.out.bC.lt; exact ⟨by omega, by omega⟩⟩)
              obtain ⟨q0, q1, q2, q3, q4, q5, q6⟩ := SX.out.s.s.c
              go_wp2_with fail
              generalize hwx : wP.alloc (.cells #[.int .i64 0, .int .i64 0] 72) = wx at *
              generalize wP.heap.size = gX at *
              refine (RX.out _ SX.out.s.s.bl).mono ?_
              rintro e wY ⟨rfl, hb⟩
              have SY := Lib.hid (SX.out.go hb)
              have f0 := SY.out.bX.fr 0
              have f1 := SY.out.bX.fr 1
              have x0 := SY.out.bX.cell 0 rfl
              have x1 := SY.out.bX.cell 1 rfl
              have SZ := Lib.hid (SY.out.set (x' := ⟨0, 0⟩))
              have z0 := SZ.out.bX.cell 0 rfl
              have z1 := SZ.out.bX.cell 1 rfl
              have y0 := SZ.out.s.bC.cell 0 rfl
              have y1 := SZ.out.s.bC.cell 1 rfl
              clear hb SX hwx q0 q1 q2 q3 q4 q5 q6
              go_wp2_with fail
              refine (AW.out _ SZ.out.s.s.bl).mono ?_
              rintro e w9 ⟨rfl, hb⟩
              have S9 := Lib.hid (SZ.out.go hb)
              clear hb
              go_wp2_with fail
              go_returns
              exact ⟨rfl, S9.out.s.s.bl⟩
      | some q =>
        have HC := Lib.hid (show cvtR r xs may = (q, 0) by unfold cvtR; rw [if_pos hE, hf])
        have HXX := Lib.hid (show (cxR fun l => convB r (setN xs) l (cbOf may)) = (q, true) by unfold cxR; rw [hf])
        have RX := Lib.hid (fun W (hb : Below w.heap.size w W) => rconvert_any r xs a c may W (hL.lo hb) hE (hX.lo hb))
        rw [HXX.out] at RX
        rw [HC.out] at CV
        have HPV := Lib.hid (prv_on (l := l) hE)
        rw [HPV.out] at PV
        rw [hE] at PI
        have RC := Lib.hid (fun (h : l.okB = true) W (hb : Below w.heap.size w W) => rconv_any r xs a c l false W (hL.lo hb) hE (hX.lo hb) h)
        unfold Rk.val Ln.val at RX RC
        obtain ⟨d, hd⟩ : ∃ d : Ln, d = q := ⟨_, rfl⟩
        rw [← hd] at CV
        have HD := Lib.hid hd
        have HOK := Lib.hid (show l.okB = (inB l.st 0 60 && inB l.dr (-3) 3) from rfl)
        generalize convB r (setN xs) l (cbOf false) = pv at *
        clear hE hL hX hN hT hthin hf HC HXX HPV hn16 hx15 hd
        have IN1 := Lib.hid (fun W => refIn_any l.st 0 60 W)
        have IN2 := Lib.hid (fun W => refIn_any l.dr (-3) 3 W)
        generalize inB l.st 0 60 = b1 at *
        generalize inB l.dr (-3) 3 = b2 at *
        go_enter Tryd.func6, Tryd.ntmps6
        go_wp2_with fail
        refine (TH.out _).mono ?_
        rintro e w1 ⟨rfl, hb⟩
        have S1 := Lib.hid (S0.out.go hb)
        obtain ⟨r0, r1, r2, r3, r4, l0, l1⟩ := S1.out.c
        clear hb S0
        go_wp2_with fail
        refine (RA.out _ S1.out.bl).mono ?_
        rintro e w2 ⟨a2, c2, rfl, hl, hg, hb⟩
        have S2 := Lib.hid (S1.out.go hb); have L2 := Lib.hid hl; have G2 := Lib.hid hg
        clear hb S1 hl hg r0 r1 r2 r3 r4 l0 l1
        go_wp2_with fail
        refine (LX.out _ S2.out.bl).mono ?_
        rintro e w3 ⟨a3, c3, rfl, hi, hb⟩
        have S3 := Lib.hid (S2.out.go hb)
        have L3 := Lib.hid (L2.out.lo hb); have G3 := Lib.hid (fun g o e => Nat.lt_of_lt_of_le (G2.out g o e) hb.size); have X3 := Lib.hid hi
        clear hb S2 hi L2 G2
        go_wp2_with fail
        refine (CV.out _ _ _ _ _ S3.out.bl L3.out G3.out X3.out).mono ?_
        rintro e w4 ⟨rfl, hb⟩
        have S4 := Lib.hid (show RC3 r l w4.heap.size d w (w4.alloc (.cells #[.int .i64 d.st, .int .i64 d.dr] 73)) from ⟨(S3.out.go hb).go (below_al w4 _), Blk.new w4 _ _, (S3.out.go hb).bL.lt⟩)
        clear hb S3 L3 G3 X3 CV
        have S5 := Lib.hid (S4.out.go (Below.drew (Below.refl _ _)))
        go_wp2_with fail
        generalize w4.alloc _ = w5 at *
        generalize w4.heap.size = gC at *
        refine wp_region_held_drew (S := (fun W => W.cell? ⟨w.heap.size, 0, none⟩ = some (.int .i64 r.rows) ∧ W.cell? ⟨w.heap.size, 1, none⟩ = some (.int .i64 r.mid) ∧ W.cell? ⟨w.heap.size, 2, none⟩ = some (.int .i64 r.gap) ∧ W.cell? ⟨w.heap.size, 3, none⟩ = some (.int .i64 r.reach) ∧ W.cell? ⟨w.heap.size, 4, none⟩ = some (.slice r.la r.ls.length r.lc) ∧ W.cell? ⟨w.heap.size + 1, 0, none⟩ = some (.int .i64 l.st) ∧ W.cell? ⟨w.heap.size + 1, 1, none⟩ = some (.int .i64 l.dr))) (by kernel_rfl) ?_ (fun hHeld => ?_)
        · (try dsimp only); (with_reducible first | exact SC.out.s.c | exact SB.out.s.c | exact SA.out.s.c | exact S5.out.s.c)
        refine wpAnyH_take (i := 0) (oi := { dst := some 29, op := Op.load 24 (Operand.tmp 4), type := 24, pos := "law.go:191", after := #[], guard := none }) (v := ?v_cv4some_8) rfl (by kernel_rfl) (by kernel_rfl) (by kernel_rfl) (fun _ _ _ h => h) (Or.inl ⟨by rfl, ?y_cv4some_8⟩) (by assumption) ?_
        case y_cv4some_8 => intro w hSw; (try dsimp only at hSw); go_simp; with_reducible rfl
        try simp only [Act.put, List.setIfInBounds_toArray, List.set_cons_zero, List.set_cons_succ]
        refine wpAnyH_take (i := 2) (oi := { dst := some 31, op := Op.move (Operand.tmp 1), type := 25, pos := "law.go:191", after := #[], guard := none }) (v := ?v_cv4some_9) rfl (by kernel_rfl) (by kernel_rfl) (by kernel_rfl) (fun _ _ _ h => h) (Or.inl ⟨by rfl, ?y_cv4some_9⟩) (by assumption) ?_
        case y_cv4some_9 => intro w hSw; (try dsimp only at hSw); go_simp; with_reducible rfl
        try simp only [Act.put, List.setIfInBounds_toArray, List.set_cons_zero, List.set_cons_succ]
        refine wpAnyH_take (i := 4) (oi := { dst := some 33, op := Op.fieldAddr 72 (Operand.tmp 7) 0, type := 0, pos := "law.go:191", after := #[], guard := none }) (v := ?v_cv4some_10) rfl (by kernel_rfl) (by kernel_rfl) (by kernel_rfl) (fun _ _ _ h => h) (Or.inl ⟨by rfl, ?y_cv4some_10⟩) (by assumption) ?_
        case y_cv4some_10 => intro w hSw; (try dsimp only at hSw); go_simp; with_reducible rfl
        try simp only [Act.put, List.setIfInBounds_toArray, List.set_cons_zero, List.set_cons_succ]
        refine wpAnyH_take (i := 5) (oi := { dst := some 34, op := Op.load 3 (Operand.tmp 33), type := 3, pos := "law.go:191", after := #[{ on := 4, ground := Ground.data }], guard := none }) (v := ?v_cv4some_11) rfl (by kernel_rfl) (by kernel_rfl) (by kernel_rfl) (fun _ _ _ h => h) (Or.inl ⟨by rfl, ?y_cv4some_11⟩) (by assumption) ?_
        case y_cv4some_11 => intro w hSw; (try dsimp only at hSw); go_simp; with_reducible rfl
        try simp only [Act.put, List.setIfInBounds_toArray, List.set_cons_zero, List.set_cons_succ]
        refine wpAnyH_take (i := 6) (oi := { dst := some 35, op := Op.fieldAddr 72 (Operand.tmp 7) 1, type := 0, pos := "law.go:191", after := #[], guard := none }) (v := ?v_cv4some_12) rfl (by kernel_rfl) (by kernel_rfl) (by kernel_rfl) (fun _ _ _ h => h) (Or.inl ⟨by rfl, ?y_cv4some_12⟩) (by assumption) ?_
        case y_cv4some_12 => intro w hSw; (try dsimp only at hSw); go_simp; with_reducible rfl
        try simp only [Act.put, List.setIfInBounds_toArray, List.set_cons_zero, List.set_cons_succ]
        refine wpAnyH_take (i := 7) (oi := { dst := some 36, op := Op.load 3 (Operand.tmp 35), type := 3, pos := "law.go:191", after := #[{ on := 6, ground := Ground.data }], guard := none }) (v := ?v_cv4some_13) rfl (by kernel_rfl) (by kernel_rfl) (by kernel_rfl) (fun _ _ _ h => h) (Or.inl ⟨by rfl, ?y_cv4some_13⟩) (by assumption) ?_
        case y_cv4some_13 => intro w hSw; (try dsimp only at hSw); go_simp; with_reducible rfl
        try simp only [Act.put, List.setIfInBounds_toArray, List.set_cons_zero, List.set_cons_succ]
        refine wpAnyH_take (i := 8) (oi := { dst := some 37, op := Op.build 73 #[(0, Operand.tmp 34), (1, Operand.tmp 36)], type := 73, pos := "law.go:191", after := #[{ on := 5, ground := Ground.data }, { on := 7, ground := Ground.data }], guard := none }) (v := ?v_cv4some_14) rfl (by kernel_rfl) (by kernel_rfl) (by kernel_rfl) (fun _ _ _ h => h) (Or.inl ⟨by rfl, ?y_cv4some_14⟩) (by assumption) ?_
        case y_cv4some_14 => intro w hSw; (try dsimp only at hSw); go_simp; with_reducible rfl
        try simp only [Act.put, List.setIfInBounds_toArray, List.set_cons_zero, List.set_cons_succ]
        refine wpAnyH_ready (rs := [1]) (by kernel_rfl) (by simp) ?_
        refine AllReadyH.cons (o := { dst := some 30, op := Op.call { callee := Callee.value (Operand.func 18), args := #[Operand.tmp 29], argTypes := #[24] }, type := 32, pos := "law.go:191", after := #[{ on := 0, ground := Ground.data }], guard := none }) rfl (fun K hK => ?_) ?_
        go_simp
        (first | (go_at_call 18; (with_reducible refine (RA.out _ S5.out.s.bl).mono ?_); rintro e wA ⟨aR, cR, rfl, hl, hg, hb⟩; have SA := Lib.hid (S5.out.go hb); have LA := Lib.hid hl; have GA := Lib.hid hg; clear hb hl hg) | (go_at_call 20; (with_reducible refine (LX.out _ SA.out.s.bl).mono ?_); rintro e wB ⟨aX, cX, rfl, hi, hb⟩; have SB := Lib.hid (SA.out.go hb); have LB := Lib.hid (LA.out.lo hb); have GB := Lib.hid (fun g o e => Nat.lt_of_lt_of_le (GA.out g o e) hb.size); have XB := Lib.hid hi; clear hb hi) | (go_at_call 41; (with_reducible refine (PV.out _ _ _ _ _ SB.out.s.bl LB.out GB.out XB.out).mono ?_); rintro e wC ⟨rfl, hb⟩; have SC := Lib.hid (SB.out.go hb); clear hb))
        go_wp2_with fail
        refine hK.out _ _ ?_ (fun hHeld => ?_)
        · (try dsimp only); (with_reducible first | exact SC.out.s.c | exact SB.out.s.c | exact SA.out.s.c | exact S5.out.s.c)
        clear hK K
        try simp only [Act.put, List.setIfInBounds_toArray, List.set_cons_zero, List.set_cons_succ]
        refine wpAnyH_ready (rs := [3]) (by kernel_rfl) (by simp) ?_
        refine AllReadyH.cons (o := { dst := some 32, op := Op.call { callee := Callee.value (Operand.func 20), args := #[Operand.tmp 31], argTypes := #[25] }, type := 25, pos := "law.go:191", after := #[{ on := 2, ground := Ground.data }, { on := 1, ground := Ground.chain }], guard := none }) rfl (fun K hK => ?_) ?_
        go_simp
        (first | (go_at_call 18; (with_reducible refine (RA.out _ S5.out.s.bl).mono ?_); rintro e wA ⟨aR, cR, rfl, hl, hg, hb⟩; have SA := Lib.hid (S5.out.go hb); have LA := Lib.hid hl; have GA := Lib.hid hg; clear hb hl hg) | (go_at_call 20; (with_reducible refine (LX.out _ SA.out.s.bl).mono ?_); rintro e wB ⟨aX, cX, rfl, hi, hb⟩; have SB := Lib.hid (SA.out.go hb); have LB := Lib.hid (LA.out.lo hb); have GB := Lib.hid (fun g o e => Nat.lt_of_lt_of_le (GA.out g o e) hb.size); have XB := Lib.hid hi; clear hb hi) | (go_at_call 41; (with_reducible refine (PV.out _ _ _ _ _ SB.out.s.bl LB.out GB.out XB.out).mono ?_); rintro e wC ⟨rfl, hb⟩; have SC := Lib.hid (SB.out.go hb); clear hb))
        go_wp2_with fail
        refine hK.out _ _ ?_ (fun hHeld => ?_)
        · (try dsimp only); (with_reducible first | exact SC.out.s.c | exact SB.out.s.c | exact SA.out.s.c | exact S5.out.s.c)
        clear hK K
        try simp only [Act.put, List.setIfInBounds_toArray, List.set_cons_zero, List.set_cons_succ]
        refine wpAnyH_ready (rs := [9]) (by kernel_rfl) (by simp) ?_
        refine AllReadyH.cons (o := { dst := some 38, op := Op.call { callee := Callee.value (Operand.func 41), args := #[Operand.tmp 30, Operand.tmp 32, Operand.tmp 37], argTypes := #[32, 25, 73] }, type := 4, pos := "law.go:191", after := #[{ on := 1, ground := Ground.data }, { on := 3, ground := Ground.data }, { on := 8, ground := Ground.data }, { on := 3, ground := Ground.chain }], guard := none }) rfl (fun K hK => ?_) ?_
        go_simp
        (first | (go_at_call 18; (with_reducible refine (RA.out _ S5.out.s.bl).mono ?_); rintro e wA ⟨aR, cR, rfl, hl, hg, hb⟩; have SA := Lib.hid (S5.out.go hb); have LA := Lib.hid hl; have GA := Lib.hid hg; clear hb hl hg) | (go_at_call 20; (with_reducible refine (LX.out _ SA.out.s.bl).mono ?_); rintro e wB ⟨aX, cX, rfl, hi, hb⟩; have SB := Lib.hid (SA.out.go hb); have LB := Lib.hid (LA.out.lo hb); have GB := Lib.hid (fun g o e => Nat.lt_of_lt_of_le (GA.out g o e) hb.size); have XB := Lib.hid hi; clear hb hi) | (go_at_call 41; (with_reducible refine (PV.out _ _ _ _ _ SB.out.s.bl LB.out GB.out XB.out).mono ?_); rintro e wC ⟨rfl, hb⟩; have SC := Lib.hid (SB.out.go hb); clear hb))
        go_wp2_with fail
        refine hK.out _ _ ?_ (fun hHeld => ?_)
        · (try dsimp only); (with_reducible first | exact SC.out.s.c | exact SB.out.s.c | exact SA.out.s.c | exact S5.out.s.c)
        clear hK K
        try simp only [Act.put, List.setIfInBounds_toArray, List.set_cons_zero, List.set_cons_succ]
        refine wpAnyH_take (i := 10) (oi := { dst := some 11, op := Op.assign (Operand.tmp 38), type := 4, pos := "law.go:191", after := #[{ on := 9, ground := Ground.data }, { on := 9, ground := Ground.chain }, { on := 0, ground := Ground.phase }, { on := 1, ground := Ground.phase }, { on := 2, ground := Ground.phase }, { on := 3, ground := Ground.phase }, { on := 4, ground := Ground.phase }, { on := 5, ground := Ground.phase }, { on := 6, ground := Ground.phase }, { on := 7, ground := Ground.phase }, { on := 8, ground := Ground.phase }, { on := 9, ground := Ground.phase }], guard := none }) (v := ?v_cv4some_15) rfl (by kernel_rfl) (by kernel_rfl) (by kernel_rfl) (fun _ _ _ h => h) (Or.inl ⟨by rfl, ?y_cv4some_15⟩) (by assumption) ?_
        case y_cv4some_15 => intro w hSw; (try dsimp only at hSw); go_simp; with_reducible rfl
        try simp only [Act.put, List.setIfInBounds_toArray, List.set_cons_zero, List.set_cons_succ]
        refine wpAnyH_done (by kernel_rfl) ?_ _
        rotate_left 1
        exact AllReadyH.nil
        exact AllReadyH.nil
        exact AllReadyH.nil
        clear S4 S5 SA LA GA SB LB GB XB PV RA LX
        obtain ⟨r0, r1, r2, r3, r4, l0, l1⟩ := SC.out.s.c
        go_wp2_with fail
        refine (PI.out _ SC.out.s.bl).mono ?_
        rintro e w7 ⟨rfl, hb⟩
        have S7 := Lib.hid (SC.out.go hb)
        clear hb SC PI r0 r1 r2 r3 r4 l0 l1
        obtain ⟨r0, r1, r2, r3, r4, l0, l1⟩ := S7.out.s.c
        go_wp2_with fail
        (with_reducible refine (IN1.out _).mono ?_)
        rintro e w8 ⟨rfl, rfl⟩
        have HDD := Lib.hid HD.out
        obtain rfl := HD.out
        cases b1
        · clear IN2 RC
          have SX := Lib.hid (show RC4 r l gC w7.heap.size d ⟨0, 0⟩ w (w7.alloc (.cells #[.int .i64 0, .int .i64 0] 72)) from ⟨S7.out.go (below_al _ _), Blk.new _ _ _, by have := S7.out.s.bL.lt; have := S7.out.bC.lt; exact ⟨by omega, by omega⟩⟩)
          obtain ⟨q0, q1, q2, q3, q4, q5, q6⟩ := SX.out.s.s.c
          go_wp2_with fail
          generalize hwx : w7.alloc (.cells #[.int .i64 0, .int .i64 0] 72) = wx at *
          generalize w7.heap.size = gX at *
          refine (RX.out _ SX.out.s.s.bl).mono ?_
          rintro e wY ⟨rfl, hb⟩
          have SY := Lib.hid (SX.out.go hb)
          have f0 := SY.out.bX.fr 0
          have f1 := SY.out.bX.fr 1
          have x0 := SY.out.bX.cell 0 rfl
          have x1 := SY.out.bX.cell 1 rfl
          have SZ := Lib.hid (SY.out.set (x' := d))
          have z0 := SZ.out.bX.cell 0 rfl
          have z1 := SZ.out.bX.cell 1 rfl
          have y0 := SZ.out.s.bC.cell 0 rfl
          have y1 := SZ.out.s.bC.cell 1 rfl
          clear hb SX hwx q0 q1 q2 q3 q4 q5 q6
          go_wp2_with fail
          refine (AW.out _ SZ.out.s.s.bl).mono ?_
          rintro e w9 ⟨rfl, hb⟩
          have S9 := Lib.hid (SZ.out.go hb)
          clear hb
          go_wp2_with fail
          go_returns
          exact ⟨rfl, S9.out.s.s.bl⟩
        · go_wp2_with fail
          (with_reducible refine (IN2.out _).mono ?_)
          rintro e w8 ⟨rfl, rfl⟩
          cases b2
          · clear RC
            have SX := Lib.hid (show RC4 r l gC w7.heap.size d ⟨0, 0⟩ w (w7.alloc (.cells #[.int .i64 0, .int .i64 0] 72)) from ⟨S7.out.go (below_al _ _), Blk.new _ _ _, by have := S7.out.s.bL.lt; have := S7.out.bC.lt; exact ⟨by omega, by omega⟩⟩)
            obtain ⟨q0, q1, q2, q3, q4, q5, q6⟩ := SX.out.s.s.c
            go_wp2_with fail
            generalize hwx : w7.alloc (.cells #[.int .i64 0, .int .i64 0] 72) = wx at *
            generalize w7.heap.size = gX at *
            refine (RX.out _ SX.out.s.s.bl).mono ?_
            rintro e wY ⟨rfl, hb⟩
            have SY := Lib.hid (SX.out.go hb)
            have f0 := SY.out.bX.fr 0
            have f1 := SY.out.bX.fr 1
            have x0 := SY.out.bX.cell 0 rfl
            have x1 := SY.out.bX.cell 1 rfl
            have SZ := Lib.hid (SY.out.set (x' := d))
            have z0 := SZ.out.bX.cell 0 rfl
            have z1 := SZ.out.bX.cell 1 rfl
            have y0 := SZ.out.s.bC.cell 0 rfl
            have y1 := SZ.out.s.bC.cell 1 rfl
            clear hb SX hwx q0 q1 q2 q3 q4 q5 q6
            go_wp2_with fail
            refine (AW.out _ SZ.out.s.s.bl).mono ?_
            rintro e w9 ⟨rfl, hb⟩
            have S9 := Lib.hid (SZ.out.go hb)
            clear hb
            go_wp2_with fail
            go_returns
            exact ⟨rfl, S9.out.s.s.bl⟩
          · have RC1 := Lib.hid (fun W hb => RC.out HOK.out W hb)
            clear RC
            go_wp2_with fail
            (with_reducible refine (RC1.out _ S7.out.s.bl).mono ?_)
            rintro e wP ⟨rfl, hb⟩
            have SP := Lib.hid (S7.out.go hb)
            clear hb r0 r1 r2 r3 r4 l0 l1 RC1 S7
            cases pv
            · have SX := Lib.hid (show RC4 r l gC wP.heap.size d ⟨0, 0⟩ w (wP.alloc (.cells #[.int .i64 0, .int .i64 0] 72)) from ⟨SP.out.go (below_al _ _), Blk.new _ _ _, by have := SP.out.s.bL.lt; have := SP.out.bC.lt; exact ⟨by omega, by omega⟩⟩)
              obtain ⟨q0, q1, q2, q3, q4, q5, q6⟩ := SX.out.s.s.c
              go_wp2_with fail
              generalize hwx : wP.alloc (.cells #[.int .i64 0, .int .i64 0] 72) = wx at *
              generalize wP.heap.size = gX at *
              refine (RX.out _ SX.out.s.s.bl).mono ?_
              rintro e wY ⟨rfl, hb⟩
              have SY := Lib.hid (SX.out.go hb)
              have f0 := SY.out.bX.fr 0
              have f1 := SY.out.bX.fr 1
              have x0 := SY.out.bX.cell 0 rfl
              have x1 := SY.out.bX.cell 1 rfl
              have SZ := Lib.hid (SY.out.set (x' := d))
              have z0 := SZ.out.bX.cell 0 rfl
              have z1 := SZ.out.bX.cell 1 rfl
              have y0 := SZ.out.s.bC.cell 0 rfl
              have y1 := SZ.out.s.bC.cell 1 rfl
              clear hb SX hwx q0 q1 q2 q3 q4 q5 q6
              go_wp2_with fail
              refine (AW.out _ SZ.out.s.s.bl).mono ?_
              rintro e w9 ⟨rfl, hb⟩
              have S9 := Lib.hid (SZ.out.go hb)
              clear hb
              go_wp2_with fail
              go_returns
              exact ⟨rfl, S9.out.s.s.bl⟩
            · have SX := Lib.hid (show RC4 r l gC wP.heap.size d ⟨0, 0⟩ w (wP.alloc (.cells #[.int .i64 0, .int .i64 0] 72)) from ⟨SP.out.go (below_al _ _), Blk.new _ _ _, by have := SP.out.s.bL.lt; have := SP.out.bC.lt; exact ⟨by omega, by omega⟩⟩)
              obtain ⟨q0, q1, q2, q3, q4, q5, q6⟩ := SX.out.s.s.c
              go_wp2_with fail
              generalize hwx : wP.alloc (.cells #[.int .i64 0, .int .i64 0] 72) = wx at *
              generalize wP.heap.size = gX at *
              refine (RX.out _ SX.out.s.s.bl).mono ?_
              rintro e wY ⟨rfl, hb⟩
              have SY := Lib.hid (SX.out.go hb)
              have f0 := SY.out.bX.fr 0
              have f1 := SY.out.bX.fr 1
              have x0 := SY.out.bX.cell 0 rfl
              have x1 := SY.out.bX.cell 1 rfl
              have SZ := Lib.hid (SY.out.set (x' := d))
              have z0 := SZ.out.bX.cell 0 rfl
              have z1 := SZ.out.bX.cell 1 rfl
              have y0 := SZ.out.s.bC.cell 0 rfl
              have y1 := SZ.out.s.bC.cell 1 rfl
              clear hb SX hwx q0 q1 q2 q3 q4 q5 q6
              go_wp2_with fail
              refine (AW.out _ SZ.out.s.s.bl).mono ?_
              rintro e w9 ⟨rfl, hb⟩
              have S9 := Lib.hid (SZ.out.go hb)
              clear hb
              go_wp2_with fail
              go_returns
              exact ⟨rfl, S9.out.s.s.bl⟩
    · have hE' : (chkE r xs == 0) = false := by simpa using hE
      have hE2 : (chkE r xs != 0) = true := by simpa using hE
      have HC := Lib.hid (cvt_off (may := may) hE)
      rw [HC.out] at CV
      rw [prv_off hE] at PV
      obtain ⟨d, hd⟩ : ∃ d : Ln, d = ⟨0, 0⟩ := ⟨_, rfl⟩
      have CV := Lib.hid (show ∀ W a' c' aX cX, _ → _ → _ → _ → Calls Tryd.prog 40 #[.agg #[.int .i64 r.rows, .int .i64 r.mid, .int .i64 r.gap, .int .i64 r.reach, .slice a' r.ls.length c'], .slice aX xs.length cX, .bool may] W fun e w' => e = .returned (.tuple #[.agg #[.int .i64 d.st, .int .i64 d.dr], .int .i64 (chkE r xs)]) ∧ Below W.heap.size W w' from by rw [hd]; exact CV.out)
      have HD := Lib.hid hd
      generalize chkE r xs = E at *
      clear hE hL hX hN hT hthin HC hn16 hx15 hd
      go_enter Tryd.func6, Tryd.ntmps6
      go_wp2_with fail
      refine (TH.out _).mono ?_
      rintro e w1 ⟨rfl, hb⟩
      have S1 := Lib.hid (S0.out.go hb)
      obtain ⟨r0, r1, r2, r3, r4, l0, l1⟩ := S1.out.c
      clear hb S0
      go_wp2_with fail
      refine (RA.out _ S1.out.bl).mono ?_
      rintro e w2 ⟨a2, c2, rfl, hl, hg, hb⟩
      have S2 := Lib.hid (S1.out.go hb); have L2 := Lib.hid hl; have G2 := Lib.hid hg
      clear hb S1 hl hg r0 r1 r2 r3 r4 l0 l1
      go_wp2_with fail
      refine (LX.out _ S2.out.bl).mono ?_
      rintro e w3 ⟨a3, c3, rfl, hi, hb⟩
      have S3 := Lib.hid (S2.out.go hb)
      have L3 := Lib.hid (L2.out.lo hb); have G3 := Lib.hid (fun g o e => Nat.lt_of_lt_of_le (G2.out g o e) hb.size); have X3 := Lib.hid hi
      clear hb S2 hi L2 G2
      go_wp2_with fail
      refine (CV.out _ _ _ _ _ S3.out.bl L3.out G3.out X3.out).mono ?_
      rintro e w4 ⟨rfl, hb⟩
      have S4 := Lib.hid (show RC3 r l w4.heap.size d w (w4.alloc (.cells #[.int .i64 d.st, .int .i64 d.dr] 73)) from ⟨(S3.out.go hb).go (below_al w4 _), Blk.new w4 _ _, (S3.out.go hb).bL.lt⟩)
      clear hb S3 L3 G3 X3 CV
      have S5 := Lib.hid (S4.out.go (Below.drew (Below.refl _ _)))
      go_wp2_with fail
      generalize w4.alloc _ = w5 at *
      generalize w4.heap.size = gC at *
      refine wp_region_held_drew (S := (fun W => W.cell? ⟨w.heap.size, 0, none⟩ = some (.int .i64 r.rows) ∧ W.cell? ⟨w.heap.size, 1, none⟩ = some (.int .i64 r.mid) ∧ W.cell? ⟨w.heap.size, 2, none⟩ = some (.int .i64 r.gap) ∧ W.cell? ⟨w.heap.size, 3, none⟩ = some (.int .i64 r.reach) ∧ W.cell? ⟨w.heap.size, 4, none⟩ = some (.slice r.la r.ls.length r.lc) ∧ W.cell? ⟨w.heap.size + 1, 0, none⟩ = some (.int .i64 l.st) ∧ W.cell? ⟨w.heap.size + 1, 1, none⟩ = some (.int .i64 l.dr))) (by kernel_rfl) ?_ (fun hHeld => ?_)
      · (try dsimp only); (with_reducible first | exact SC.out.s.c | exact SB.out.s.c | exact SA.out.s.c | exact S5.out.s.c)
      refine wpAnyH_take (i := 0) (oi := { dst := some 29, op := Op.load 24 (Operand.tmp 4), type := 24, pos := "law.go:191", after := #[], guard := none }) (v := ?v_cv4off_16) rfl (by kernel_rfl) (by kernel_rfl) (by kernel_rfl) (fun _ _ _ h => h) (Or.inl ⟨by rfl, ?y_cv4off_16⟩) (by assumption) ?_
      case y_cv4off_16 => intro w hSw; (try dsimp only at hSw); go_simp; with_reducible rfl
      try simp only [Act.put, List.setIfInBounds_toArray, List.set_cons_zero, List.set_cons_succ]
      refine wpAnyH_take (i := 2) (oi := { dst := some 31, op := Op.move (Operand.tmp 1), type := 25, pos := "law.go:191", after := #[], guard := none }) (v := ?v_cv4off_17) rfl (by kernel_rfl) (by kernel_rfl) (by kernel_rfl) (fun _ _ _ h => h) (Or.inl ⟨by rfl, ?y_cv4off_17⟩) (by assumption) ?_
      case y_cv4off_17 => intro w hSw; (try dsimp only at hSw); go_simp; with_reducible rfl
      try simp only [Act.put, List.setIfInBounds_toArray, List.set_cons_zero, List.set_cons_succ]
      refine wpAnyH_take (i := 4) (oi := { dst := some 33, op := Op.fieldAddr 72 (Operand.tmp 7) 0, type := 0, pos := "law.go:191", after := #[], guard := none }) (v := ?v_cv4off_18) rfl (by kernel_rfl) (by kernel_rfl) (by kernel_rfl) (fun _ _ _ h => h) (Or.inl ⟨by rfl, ?y_cv4off_18⟩) (by assumption) ?_
      case y_cv4off_18 => intro w hSw; (try dsimp only at hSw); go_simp; with_reducible rfl
      try simp only [Act.put, List.setIfInBounds_toArray, List.set_cons_zero, List.set_cons_succ]
      refine wpAnyH_take (i := 5) (oi := { dst := some 34, op := Op.load 3 (Operand.tmp 33), type := 3, pos := "law.go:191", after := #[{ on := 4, ground := Ground.data }], guard := none }) (v := ?v_cv4off_19) rfl (by kernel_rfl) (by kernel_rfl) (by kernel_rfl) (fun _ _ _ h => h) (Or.inl ⟨by rfl, ?y_cv4off_19⟩) (by assumption) ?_
      case y_cv4off_19 => intro w hSw; (try dsimp only at hSw); go_simp; with_reducible rfl
      try simp only [Act.put, List.setIfInBounds_toArray, List.set_cons_zero, List.set_cons_succ]
      refine wpAnyH_take (i := 6) (oi := { dst := some 35, op := Op.fieldAddr 72 (Operand.tmp 7) 1, type := 0, pos := "law.go:191", after := #[], guard := none }) (v := ?v_cv4off_20) rfl (by kernel_rfl) (by kernel_rfl) (by kernel_rfl) (fun _ _ _ h => h) (Or.inl ⟨by rfl, ?y_cv4off_20⟩) (by assumption) ?_
      case y_cv4off_20 => intro w hSw; (try dsimp only at hSw); go_simp; with_reducible rfl
      try simp only [Act.put, List.setIfInBounds_toArray, List.set_cons_zero, List.set_cons_succ]
      refine wpAnyH_take (i := 7) (oi := { dst := some 36, op := Op.load 3 (Operand.tmp 35), type := 3, pos := "law.go:191", after := #[{ on := 6, ground := Ground.data }], guard := none }) (v := ?v_cv4off_21) rfl (by kernel_rfl) (by kernel_rfl) (by kernel_rfl) (fun _ _ _ h => h) (Or.inl ⟨by rfl, ?y_cv4off_21⟩) (by assumption) ?_
      case y_cv4off_21 => intro w hSw; (try dsimp only at hSw); go_simp; with_reducible rfl
      try simp only [Act.put, List.setIfInBounds_toArray, List.set_cons_zero, List.set_cons_succ]
      refine wpAnyH_take (i := 8) (oi := { dst := some 37, op := Op.build 73 #[(0, Operand.tmp 34), (1, Operand.tmp 36)], type := 73, pos := "law.go:191", after := #[{ on := 5, ground := Ground.data }, { on := 7, ground := Ground.data }], guard := none }) (v := ?v_cv4off_22) rfl (by kernel_rfl) (by kernel_rfl) (by kernel_rfl) (fun _ _ _ h => h) (Or.inl ⟨by rfl, ?y_cv4off_22⟩) (by assumption) ?_
      case y_cv4off_22 => intro w hSw; (try dsimp only at hSw); go_simp; with_reducible rfl
      try simp only [Act.put, List.setIfInBounds_toArray, List.set_cons_zero, List.set_cons_succ]
      refine wpAnyH_ready (rs := [1]) (by kernel_rfl) (by simp) ?_
      refine AllReadyH.cons (o := { dst := some 30, op := Op.call { callee := Callee.value (Operand.func 18), args := #[Operand.tmp 29], argTypes := #[24] }, type := 32, pos := "law.go:191", after := #[{ on := 0, ground := Ground.data }], guard := none }) rfl (fun K hK => ?_) ?_
      go_simp
      (first | (go_at_call 18; (with_reducible refine (RA.out _ S5.out.s.bl).mono ?_); rintro e wA ⟨aR, cR, rfl, hl, hg, hb⟩; have SA := Lib.hid (S5.out.go hb); have LA := Lib.hid hl; have GA := Lib.hid hg; clear hb hl hg) | (go_at_call 20; (with_reducible refine (LX.out _ SA.out.s.bl).mono ?_); rintro e wB ⟨aX, cX, rfl, hi, hb⟩; have SB := Lib.hid (SA.out.go hb); have LB := Lib.hid (LA.out.lo hb); have GB := Lib.hid (fun g o e => Nat.lt_of_lt_of_le (GA.out g o e) hb.size); have XB := Lib.hid hi; clear hb hi) | (go_at_call 41; (with_reducible refine (PV.out _ _ _ _ _ SB.out.s.bl LB.out GB.out XB.out).mono ?_); rintro e wC ⟨rfl, hb⟩; have SC := Lib.hid (SB.out.go hb); clear hb))
      go_wp2_with fail
      refine hK.out _ _ ?_ (fun hHeld => ?_)
      · (try dsimp only); (with_reducible first | exact SC.out.s.c | exact SB.out.s.c | exact SA.out.s.c | exact S5.out.s.c)
      clear hK K
      try simp only [Act.put, List.setIfInBounds_toArray, List.set_cons_zero, List.set_cons_succ]
      refine wpAnyH_ready (rs := [3]) (by kernel_rfl) (by simp) ?_
      refine AllReadyH.cons (o := { dst := some 32, op := Op.call { callee := Callee.value (Operand.func 20), args := #[Operand.tmp 31], argTypes := #[25] }, type := 25, pos := "law.go:191", after := #[{ on := 2, ground := Ground.data }, { on := 1, ground := Ground.chain }], guard := none }) rfl (fun K hK => ?_) ?_
      go_simp
      (first | (go_at_call 18; (with_reducible refine (RA.out _ S5.out.s.bl).mono ?_); rintro e wA ⟨aR, cR, rfl, hl, hg, hb⟩; have SA := Lib.hid (S5.out.go hb); have LA := Lib.hid hl; have GA := Lib.hid hg; clear hb hl hg) | (go_at_call 20; (with_reducible refine (LX.out _ SA.out.s.bl).mono ?_); rintro e wB ⟨aX, cX, rfl, hi, hb⟩; have SB := Lib.hid (SA.out.go hb); have LB := Lib.hid (LA.out.lo hb); have GB := Lib.hid (fun g o e => Nat.lt_of_lt_of_le (GA.out g o e) hb.size); have XB := Lib.hid hi; clear hb hi) | (go_at_call 41; (with_reducible refine (PV.out _ _ _ _ _ SB.out.s.bl LB.out GB.out XB.out).mono ?_); rintro e wC ⟨rfl, hb⟩; have SC := Lib.hid (SB.out.go hb); clear hb))
      go_wp2_with fail
      refine hK.out _ _ ?_ (fun hHeld => ?_)
      · (try dsimp only); (with_reducible first | exact SC.out.s.c | exact SB.out.s.c | exact SA.out.s.c | exact S5.out.s.c)
      clear hK K
      try simp only [Act.put, List.setIfInBounds_toArray, List.set_cons_zero, List.set_cons_succ]
      refine wpAnyH_ready (rs := [9]) (by kernel_rfl) (by simp) ?_
      refine AllReadyH.cons (o := { dst := some 38, op := Op.call { callee := Callee.value (Operand.func 41), args := #[Operand.tmp 30, Operand.tmp 32, Operand.tmp 37], argTypes := #[32, 25, 73] }, type := 4, pos := "law.go:191", after := #[{ on := 1, ground := Ground.data }, { on := 3, ground := Ground.data }, { on := 8, ground := Ground.data }, { on := 3, ground := Ground.chain }], guard := none }) rfl (fun K hK => ?_) ?_
      go_simp
      (first | (go_at_call 18; (with_reducible refine (RA.out _ S5.out.s.bl).mono ?_); rintro e wA ⟨aR, cR, rfl, hl, hg, hb⟩; have SA := Lib.hid (S5.out.go hb); have LA := Lib.hid hl; have GA := Lib.hid hg; clear hb hl hg) | (go_at_call 20; (with_reducible refine (LX.out _ SA.out.s.bl).mono ?_); rintro e wB ⟨aX, cX, rfl, hi, hb⟩; have SB := Lib.hid (SA.out.go hb); have LB := Lib.hid (LA.out.lo hb); have GB := Lib.hid (fun g o e => Nat.lt_of_lt_of_le (GA.out g o e) hb.size); have XB := Lib.hid hi; clear hb hi) | (go_at_call 41; (with_reducible refine (PV.out _ _ _ _ _ SB.out.s.bl LB.out GB.out XB.out).mono ?_); rintro e wC ⟨rfl, hb⟩; have SC := Lib.hid (SB.out.go hb); clear hb))
      go_wp2_with fail
      refine hK.out _ _ ?_ (fun hHeld => ?_)
      · (try dsimp only); (with_reducible first | exact SC.out.s.c | exact SB.out.s.c | exact SA.out.s.c | exact S5.out.s.c)
      clear hK K
      try simp only [Act.put, List.setIfInBounds_toArray, List.set_cons_zero, List.set_cons_succ]
      refine wpAnyH_take (i := 10) (oi := { dst := some 11, op := Op.assign (Operand.tmp 38), type := 4, pos := "law.go:191", after := #[{ on := 9, ground := Ground.data }, { on := 9, ground := Ground.chain }, { on := 0, ground := Ground.phase }, { on := 1, ground := Ground.phase }, { on := 2, ground := Ground.phase }, { on := 3, ground := Ground.phase }, { on := 4, ground := Ground.phase }, { on := 5, ground := Ground.phase }, { on := 6, ground := Ground.phase }, { on := 7, ground := Ground.phase }, { on := 8, ground := Ground.phase }, { on := 9, ground := Ground.phase }], guard := none }) (v := ?v_cv4off_23) rfl (by kernel_rfl) (by kernel_rfl) (by kernel_rfl) (fun _ _ _ h => h) (Or.inl ⟨by rfl, ?y_cv4off_23⟩) (by assumption) ?_
      case y_cv4off_23 => intro w hSw; (try dsimp only at hSw); go_simp; with_reducible rfl
      try simp only [Act.put, List.setIfInBounds_toArray, List.set_cons_zero, List.set_cons_succ]
      refine wpAnyH_done (by kernel_rfl) ?_ _
      rotate_left 1
      exact AllReadyH.nil
      exact AllReadyH.nil
      exact AllReadyH.nil
      clear S4 S5 SA LA GA SB LB GB XB PV RA LX
      obtain ⟨r0, r1, r2, r3, r4, l0, l1⟩ := SC.out.s.c
      go_wp2_with fail
      refine (PI.out _ SC.out.s.bl).mono ?_
      rintro e w7 ⟨rfl, hb⟩
      have S7 := Lib.hid (SC.out.go hb)
      clear hb SC PI r0 r1 r2 r3 r4 l0 l1
      obtain ⟨r0, r1, r2, r3, r4, l0, l1⟩ := S7.out.s.c
      obtain rfl := HD.out
      have SX := Lib.hid (show RC4 r l gC w7.heap.size ⟨0, 0⟩ ⟨0, 0⟩ w (w7.alloc (.cells #[.int .i64 0, .int .i64 0] 72)) from ⟨S7.out.go (below_al _ _), Blk.new _ _ _, by have := S7.out.s.bL.lt; have := S7.out.bC.lt; exact ⟨by omega, by omega⟩⟩)
      have y0 := SX.out.s.bC.cell 0 rfl
      have y1 := SX.out.s.bC.cell 1 rfl
      go_wp2_with fail
      refine (AW.out _ SX.out.s.s.bl).mono ?_
      rintro e w9 ⟨rfl, hb⟩
      have S9 := Lib.hid (SX.out.go hb)
      clear hb
      go_wp2_with fail
      go_returns
      exact ⟨rfl, S9.out.s.s.bl⟩
  · have hthin' : thinB r xs.length 0 = false := by simpa using hthin
    rw [hthin'] at TH
    clear hthin hthin' hL hX hN hT
    unfold Rk.val Ln.val at *
    go_enter Tryd.func6, Tryd.ntmps6
    go_wp2_with fail
    refine (TH.out _).mono ?_
    rintro e w1 ⟨rfl, hb⟩
    have S1 := Lib.hid (S0.out.go hb)
    clear hb S0
    go_wp2_with fail
    refine (AW.out _ S1.out.bl).mono ?_
    rintro e w3 ⟨rfl, hb⟩
    have S3 := Lib.hid (S1.out.go hb)
    clear hb S1
    go_wp2_with fail
    go_returns
    exact ⟨rfl, S3.out.bl⟩

end Go.Proofs.YtaloffdkadhhnaaDoor
