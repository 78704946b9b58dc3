/- The walk of RackStraight. -/
import Derived.Test.YtaloffdkadhhnaaDoorRs
set_option linter.unusedVariables false
set_option linter.unusedSimpArgs false
namespace Go.Proofs.YtaloffdkadhhnaaDoor
open Go.RowKit

attribute [local go_sem] Oper.semAt_some

/-- Where RackStraight stands. -/
structure St2 (r : Rk) (l : Ln) (w W : World) : Prop where
  bl : Below w.heap.size w W
  bK : Blk W w.heap.size (rCells r) 24
  bL : Blk W (w.heap.size + 1) #[.int .i64 l.st, .int .i64 l.dr] 72
theorem St2.start (r : Rk) (l : Ln) (w : World) : St2 r l w ((w.alloc (.cells (rCells r) 24)).alloc (.cells #[.int .i64 l.st, .int .i64 l.dr] 72)) :=
  ⟨below_al2 (below_al w _) _, Blk.alt (p := fun _ => False) (Blk.new w _ _) ((Alt.refl _ _).alloc _) id, by have := Blk.new (w.alloc (.cells (rCells r) 24)) #[.int .i64 l.st, .int .i64 l.dr] 72; rwa [World.size_alloc] at this⟩
theorem St2.go {r : Rk} {l : Ln} {w W W' : World} (h : St2 r l w W) (hb : Below W.heap.size W W') : St2 r l w W' :=
  ⟨below_go h.bl hb, Blk.alt h.bK (Alt.of_below (p := fun k => W.heap.size ≤ k) hb (fun k _ e => e)) (by have := h.bK.lt; omega), Blk.alt h.bL (Alt.of_below (p := fun k => W.heap.size ≤ k) hb (fun k _ e => e)) (by have := h.bL.lt; omega)⟩
theorem St2.c {r : Rk} {l : Ln} {w W : World} (h : St2 r l w W) : W.cell? ⟨w.heap.size, 0, none⟩ = some (.int .i64 r.rows) ∧ W.cell? ⟨w.heap.size, 1, none⟩ = some (.int .i64 r.mid) ∧ W.cell? ⟨w.heap.size, 2, none⟩ = some (.int .i64 r.gap) ∧ W.cell? ⟨w.heap.size, 3, none⟩ = some (.int .i64 r.reach) ∧ W.cell? ⟨w.heap.size, 4, none⟩ = some (.slice r.la r.ls.length r.lc) :=
  ⟨h.bK.cell 0 rfl, h.bK.cell 1 rfl, h.bK.cell 2 rfl, h.bK.cell 3 rfl, h.bK.cell 4 rfl⟩
theorem St2.c7 {r : Rk} {l : Ln} {w W : World} (h : St2 r l w W) : (W.cell? ⟨w.heap.size, 0, none⟩ = some (.int .i64 r.rows) ∧ W.cell? ⟨w.heap.size, 1, none⟩ = some (.int .i64 r.mid) ∧ W.cell? ⟨w.heap.size, 2, none⟩ = some (.int .i64 r.gap) ∧ W.cell? ⟨w.heap.size, 3, none⟩ = some (.int .i64 r.reach) ∧ W.cell? ⟨w.heap.size, 4, none⟩ = some (.slice r.la r.ls.length r.lc)) ∧ W.cell? ⟨w.heap.size + 1, 0, none⟩ = some (.int .i64 l.st) ∧ W.cell? ⟨w.heap.size + 1, 1, none⟩ = some (.int .i64 l.dr) := ⟨h.c, h.bL.cell 0 rfl, h.bL.cell 1 rfl⟩
/-- .. with the line that Convert told. -/
structure St3 (r : Rk) (l : Ln) (gC : Nat) (d : Ln) (w W : World) : Prop where
  s : St2 r l w W
  bC : Blk W gC #[.int .i64 d.st, .int .i64 d.dr] 73
theorem St3.go {r : Rk} {l : Ln} {gC : Nat} {d : Ln} {w W W' : World} (h : St3 r l gC d w W) (hb : Below W.heap.size W W') : St3 r l gC d w W' :=
  ⟨h.s.go hb, Blk.alt h.bC (Alt.of_below (p := fun k => W.heap.size ≤ k) hb (fun k _ e => e)) (by have := h.bC.lt; omega)⟩
theorem St3.c7 {r : Rk} {l : Ln} {gC : Nat} {d : Ln} {w W : World} (h : St3 r l gC d w W) : (W.cell? ⟨w.heap.size, 0, none⟩ = some (.int .i64 r.rows) ∧ W.cell? ⟨w.heap.size, 1, none⟩ = some (.int .i64 r.mid) ∧ W.cell? ⟨w.heap.size, 2, none⟩ = some (.int .i64 r.gap) ∧ W.cell? ⟨w.heap.size, 3, none⟩ = some (.int .i64 r.reach) ∧ W.cell? ⟨w.heap.size, 4, none⟩ = some (.slice r.la r.ls.length r.lc)) ∧ W.cell? ⟨gC, 0, none⟩ = some (.int .i64 d.st) ∧ W.cell? ⟨gC, 1, none⟩ = some (.int .i64 d.dr) := ⟨h.s.c, h.bC.cell 0 rfl, h.bC.cell 1 rfl⟩

theorem OwnG.push0 {w W W1 : World} {v v' : Value} {zs : List Rg} {b : Rg} {o : Obj} (h : OwnG w W v zs) (hg : (W.alloc o).grownBy W1 v.ownBlock)
    (ho : W1.ownsRow w.heap.size 63 2 v' (zs.length + 1) (rgCells zs ++ [.int .i64 b.lo, .int .i64 b.hi])) : OwnG w W1 v' (zs ++ [b]) :=
  ⟨by rw [rgCells_snoc]; simpa using ho, (below_al2 h.bl o).grown hg (below_al2 h.bl o).size (fun k e => own_base h.ow e)⟩

def NewRk (r : Rk) (w : World) (e : Ending) (w' : World) : Prop := ∃ a c, e = .returned (.agg #[.int .i64 r.rows, .int .i64 r.mid, .int .i64 r.gap, .int .i64 r.reach, .slice a r.ls.length c]) ∧ LinksAt w' a r.ls ∧ (∀ g o, a = some ⟨g, o, none⟩ → g < w'.heap.size) ∧ Below w.heap.size w w'

set_option maxRecDepth 100000 in
set_option maxHeartbeats 8000000 in
theorem rackStraight_any (r : Rk) (xs : List Int) (a : Option Addr) (c : Nat) (l : Ln) (u : Int) (w : World) (hL : LinksAt w r.la r.ls) (hX : IntsAt w a xs) (hN : a = none → xs = [] ∧ c = 0) (hU : 0 ≤ u ∧ u < 65536) (hT : TabOK w) :
    Calls Tryd.prog 12 #[r.val, .slice a xs.length c, l.val, .int .u16 u] w fun e w' => e = .returned (.bool true) ∧ Below w.heap.size w w' := by
  have TH := Lib.hid (fun W => thin_any r a none xs.length c 0 0 W)
  have AW := Lib.hid (fun W (hb : Below w.heap.size w W) => awake_any W (hT.lo hb))
  have S0 := Lib.hid (St2.start r l w)
  unfold rCells at S0
  by_cases hthin : thinB r xs.length 0 = true
  · have hn16 : r.ls.length ≤ 16 := by unfold thinB at hthin; simp at hthin; exact hthin.1
    have hx15 : xs.length ≤ 15 := by unfold thinB at hthin; simp at hthin; exact hthin.2
    have PI := Lib.hid (fun W (hb : Below w.heap.size w W) => pinned_any r xs a c W (hL.lo hb) (by omega) (hX.lo hb) (by omega))
    rw [hthin] at TH
    by_cases hE : chkE r xs = 0
    · have hok := (faultN_ok (chk_ok hE).1).1
      rw [hE] at PI
      have HX := Lib.hid hX
      have RA := Lib.hid (fun W (hb : Below w.heap.size w W) => show Calls Tryd.prog 18 #[.agg #[.int .i64 r.rows, .int .i64 r.mid, .int .i64 r.gap, .int .i64 r.reach, .slice r.la r.ls.length r.lc]] W (NewRk r W) from (lawRack_any r W (hL.lo hb) (by omega)).mono fun e w' ⟨a, c, h⟩ => ⟨a, c, h⟩)
      have LX := Lib.hid (fun W (hb : Below w.heap.size w W) => lawints_any xs a c W (hX.lo hb) hN (by omega))
      have CV := Lib.hid (fun W a' c' aX cX may (hb : Below w.heap.size w W) (g1 : LinksAt W a' r.ls) (g2 : ∀ g o, a' = some ⟨g, o, none⟩ → g < W.heap.size) (g3 : IntsAt W aX xs) =>
        show Calls Tryd.prog 40 #[.agg #[.int .i64 r.rows, .int .i64 r.mid, .int .i64 r.gap, .int .i64 r.reach, .slice a' r.ls.length c'], .slice aX xs.length cX, .bool may] W fun e w' => e = .returned (.tuple #[.agg #[.int .i64 (cvtR r xs may).1.st, .int .i64 (cvtR r xs may).1.dr], .int .i64 (cvtR r xs may).2]) ∧ Below W.heap.size W w' from
        convert_any (r.at a' c') xs aX cX may W g1 (show r.ls.length ≤ 1000 by omega) g2 g3 (by omega) (hT.lo hb))
      have PV := Lib.hid (fun (ys : List Int) (k : Ln) W a' c' aX cX (hb : Below w.heap.size w W) (g1 : LinksAt W a' r.ls) (g2 : ∀ g o, a' = some ⟨g, o, none⟩ → g < W.heap.size) (g3 : IntsAt W aX ys) (g4 : ys.length ≤ 1000) =>
        show Calls Tryd.prog 41 #[.agg #[.int .i64 r.rows, .int .i64 r.mid, .int .i64 r.gap, .int .i64 r.reach, .slice a' r.ls.length c'], .slice aX ys.length cX, .agg #[.int .i64 k.st, .int .i64 k.dr]] W fun e w' => e = .returned (.bool (prvB r ys k)) ∧ Below W.heap.size W w' from
        prove_any (r.at a' c') ys aX cX k W g1 (show r.ls.length ≤ 1000 by omega) g2 g3 g4 (hT.lo hb))
      unfold Rk.val Ln.val at *
      by_cases hcv : (cvtR r xs false).2 = 0
      · obtain ⟨hf0, hpv, hok2, hconv⟩ := cvt_some hE hcv
        obtain ⟨hd1, hd2⟩ := Bool.and_eq_true_iff.1 hok2
        have CVF := Lib.hid (fun W a' c' aX cX hb g1 g2 g3 => CV.out W a' c' aX cX false hb g1 g2 g3)
        have CVT := Lib.hid (fun W a' c' aX cX hb g1 g2 g3 => CV.out W a' c' aX cX true hb g1 g2 g3)
        have PD := Lib.hid (fun W a' c' aX cX hb g1 g2 g3 => PV.out xs (cvtR r xs false).1 W a' c' aX cX hb g1 g2 g3 (by omega))
        have hsub : (fewT xs u xs.length).Sublist xs := by have := fewT_sub xs u xs.length; rwa [List.take_length] at this
        have hflen : (fewT xs u xs.length).length ≤ xs.length := fewT_len _ _ _
        have PF := Lib.hid (fun W a' c' aX cX hb g1 g2 g3 => PV.out (fewT xs u xs.length) (cvtR r xs false).1 W a' c' aX cX hb g1 g2 g3 (by omega))
        have HPF := Lib.hid (fun h0 : r.ls = [] => few_conv hE hsub h0 hok2 hconv)
        rw [hcv] at CVF
        rw [hf0] at CVT
        rw [hpv] at PD
        have IN1 := Lib.hid (fun W => refIn_any (cvtR r xs false).1.st 0 60 W)
        have IN2 := Lib.hid (fun W => refIn_any (cvtR r xs false).1.dr (-3) 3 W)
        rw [hd1] at IN1
        rw [hd2] at IN2
        obtain ⟨n, hn⟩ : ∃ n : Nat, (n : Int) = r.rows := ⟨r.rows.toNat, by have := hok.r1; omega⟩
        have hn4 : n ≤ 4 := by have := hok.r2; omega
        have FA := Lib.hid (fun (ho : onB (cvtR r xs false).1 n = true) W a' c' aX cX aG cG (hb : Below w.heap.size w W) (g1 : LinksAt W a' r.ls) (g2 : ∀ g o, a' = some ⟨g, o, none⟩ → g < W.heap.size) (g3 : IntsAt W aX xs) (g4 : RgsAt W aG (bdL (cvtR r xs false).1 n)) (g5 : ∀ g o, aG = some ⟨g, o, none⟩ → g < W.heap.size) =>
          show Calls Tryd.prog 35 #[.agg #[.int .i64 r.rows, .int .i64 r.mid, .int .i64 r.gap, .int .i64 r.reach, .slice a' r.ls.length c'], .slice aX xs.length cX, .slice aG (bdL (cvtR r xs false).1 n).length cG] W (TwoP xs (els (dif (setN xs) (stayN r (bdL (cvtR r xs false).1 n) (setN xs)))) W) from
          (Falls_any (r.at a' c') xs aX cX (bdL (cvtR r xs false).1 n) aG cG W g1 (show r.ls.length ≤ 1000 by omega) g2 g3 (by omega) g4 (by rw [bdL_len]; omega) g5 (hT.lo hb)).mono fun e w' ⟨v1, v2, h⟩ => by
            have h := h.two (bd_bal hE hn ho)
            have e0 : els (sureN (r.at a' c') (bdL (cvtR r xs false).1 n) (setN xs)) = xs := bd_sure hE hn hconv
            rw [e0] at h
            exact h)
        generalize els (dif (setN xs) (stayN r (bdL (cvtR r xs false).1 n) (setN xs))) = MA at *
        obtain ⟨i63, hj3, hv0, hv1, hv2⟩ := info_parts info63
        obtain ⟨i3, hi3, hy0, hy1, hy2⟩ := info_parts info3
        have HF := Lib.hid (fun n => fewT_len xs u n)
        have HFW := Lib.hid hflen
        have hd1' := inB_iff.1 hd1
        have hd2' := inB_iff.1 hd2
        generalize (cvtR r xs false).1 = d at *
        generalize (cvtR r xs true).1 = d' at *
        have HX15 := Lib.hid hx15
        have HDR := Lib.hid (And.intro hd1' hd2')
        have HRN := Lib.hid hn
        have HN4 := Lib.hid hn4
        have hu0 := hU.1
        have hu1 := hU.2
        have HNC : Hid (2 * 1000 ≤ maxLen) := Lib.hid (by unfold maxLen; omega)
        clear hE hok hL hX hN hU hT hthin hpv hcv hf0 CV PV hn16 hok2 hd1 hd2 hd1' hd2' hconv hsub hflen hn hn4
        go_enter Tryd.func12, Tryd.ntmps12
        go_wp2_with fail
        refine (TH.out _).mono ?_
        rintro e w1 ⟨rfl, hb⟩
        have S1 := Lib.hid (S0.out.go hb)
        obtain ⟨r0, r1, r2, r3, r4⟩ := S1.out.c
        clear hb S0
        go_wp2_with fail
        refine (PI.out _ S1.out.bl).mono ?_
        rintro e w2 ⟨rfl, hb⟩
        have S2 := Lib.hid (S1.out.go hb)
        clear hb S1 r0 r1 r2 r3 r4
        obtain ⟨r0, r1, r2, r3, r4⟩ := S2.out.c
        go_wp2_with fail
        refine (RA.out _ S2.out.bl).mono ?_
        rintro e w3 ⟨a3, c3, rfl, hl, hg, hb⟩
        have S3 := Lib.hid (S2.out.go hb)
        have L3 := Lib.hid hl; have G3 := Lib.hid hg
        clear hb S2 hl hg r0 r1 r2 r3 r4
        go_wp2_with fail
        refine (LX.out _ S3.out.bl).mono ?_
        rintro e w4 ⟨a4, c4, rfl, hi, hb⟩
        have S4 := Lib.hid (S3.out.go hb)
        have L4 := Lib.hid (L3.out.lo hb); have G4 := Lib.hid (fun g o e => Nat.lt_of_lt_of_le (G3.out g o e) hb.size); have X4 := Lib.hid hi
        clear hb S3 hi L3 G3
        go_wp2_with fail
        refine (CVF.out _ _ _ _ _ S4.out.bl L4.out G4.out X4.out).mono ?_
        rintro e w5 ⟨rfl, hb⟩
        have S5 := Lib.hid (St3.mk ((S4.out.go hb).go (below_al w5 (.cells #[.int .i64 d.st, .int .i64 d.dr] 73))) (Blk.new w5 #[.int .i64 d.st, .int .i64 d.dr] 73))
        clear hb S4 L4 G4 X4 CVF
        obtain ⟨r0, r1, r2, r3, r4⟩ := S5.out.s.c
        go_wp2_with fail
        refine (RA.out _ S5.out.s.bl).mono ?_
        rintro e w6 ⟨a6, c6, rfl, hl, hg, hb⟩
        have S6 := Lib.hid (S5.out.go hb)
        have L6 := Lib.hid hl; have G6 := Lib.hid hg
        clear hb S5 hl hg r0 r1 r2 r3 r4
        go_wp2_with fail
        refine (LX.out _ S6.out.s.bl).mono ?_
        rintro e w7 ⟨a7, c7, rfl, hi, hb⟩
        have S7 := Lib.hid (S6.out.go hb)
        have L7 := Lib.hid (L6.out.lo hb); have G7 := Lib.hid (fun g o e => Nat.lt_of_lt_of_le (G6.out g o e) hb.size); have X7 := Lib.hid hi
        clear hb S6 hi L6 G6
        go_wp2_with fail
        refine (CVT.out _ _ _ _ _ S7.out.s.bl L7.out G7.out X7.out).mono ?_
        rintro e w8 ⟨rfl, hb⟩
        have S8 := Lib.hid ((S7.out.go hb).go (below_al w8 (.cells #[.int .i64 d'.st, .int .i64 d'.dr] 73)))
        clear hb S7 L7 G7 X7 CVT
        generalize w5.heap.size = gC at *
        have D9 := Lib.hid (S8.out.go (Below.drew (Below.refl _ _)))
        go_wp2_with fail
        first
        | (go_region_held3 (fun W => (W.cell? ⟨w.heap.size, 0, none⟩ = some (.int .i64 r.rows) ∧ W.cell? ⟨w.heap.size, 1, none⟩ = some (.int .i64 r.mid) ∧ W.cell? ⟨w.heap.size, 2, none⟩ = some (.int .i64 r.gap) ∧ W.cell? ⟨w.heap.size, 3, none⟩ = some (.int .i64 r.reach) ∧ W.cell? ⟨w.heap.size, 4, none⟩ = some (.slice r.la r.ls.length r.lc)) ∧ W.cell? ⟨gC, 0, none⟩ = some (.int .i64 d.st) ∧ W.cell? ⟨gC, 1, none⟩ = some (.int .i64 d.dr))
            (with_reducible first | exact SD.out.c7 | exact SB.out.c7 | exact SA.out.c7 | exact D9.out.c7)
            (first
              | (go_at_call 18; (with_reducible refine (RA.out _ D9.out.s.bl).mono ?_); rintro e wA ⟨aR, cR, rfl, hl, hg, hb⟩; have SA := Lib.hid (D9.out.go hb); have LA := Lib.hid hl; have GA := Lib.hid hg; clear hb hl hg)
              | (go_at_call 20; (with_reducible refine (LX.out _ SA.out.s.bl).mono ?_); rintro e wB ⟨aX, cX, rfl, hi, hb⟩; have SB := Lib.hid (SA.out.go hb); have LB := Lib.hid (LA.out.lo hb); have GB := Lib.hid (fun g o e => Nat.lt_of_lt_of_le (GA.out g o e) hb.size); have XB := Lib.hid hi; clear hb hi)
              | (go_at_call 41; (with_reducible refine (PD.out _ _ _ _ _ SB.out.s.bl LB.out GB.out XB.out).mono ?_); rintro e wD ⟨rfl, hb⟩; have SD := Lib.hid (SB.out.go hb); clear hb)
              | (go_at_call 42; (with_reducible first | refine (IN1.out _).mono ?_ | refine (IN2.out _).mono ?_); rintro e wI ⟨rfl, rfl⟩)))
        | fail "region"
        clear SB LA LB GA GB XB SA D9 S8 PD IN1 IN2
        have O1 := Lib.hid (OwnG.nil wD)
        go_wp2_with fail
        go_loopg [13, 14, 15] n (fun g s13 s14 s15 wx => ∃ (i : Nat) (v : Value), i ≤ n ∧ g = n - i ∧ s15 = .int .i64 (i : Int) ∧ s14 = .bool (onB d i) ∧ s13 = v ∧ Hid (OwnG wD wx v (bdL d i)))
        case atStart => exact ⟨0, _, by omega, by omega, rfl, rfl, rfl, O1⟩
        case round =>
          obtain ⟨i, v, hi, rfl, rfl, rfl, hv, hO⟩ := hrel
          have hv2 := hv.symm
          clear hv O1
          subst hv2
          have SR := Lib.hid (SD.out.go hO.out.bl)
          by_cases hlt : i < n
          · have hz1 : (i : Int) < r.rows := by have := HRN.out; omega
            obtain ⟨⟨r0, r1, r2, r3, r4⟩, q0, q1⟩ := SR.out.c7
            obtain ⟨⟨s0, s1⟩, d0, d1⟩ := HDR.out
            have hmul : -12 ≤ (i : Int) * d.dr ∧ (i : Int) * d.dr ≤ 12 := by
              have hi4 : i = 0 ∨ i = 1 ∨ i = 2 ∨ i = 3 := by have := HN4.out; omega
              rcases hi4 with rfl | rfl | rfl | rfl <;> omega
            have ew1 : IntKind.i64.wrap ((i : Int) * d.dr) = (i : Int) * d.dr := IntWalk.i64_in _ (by omega)
            have ew2 : IntKind.i64.wrap (d.st + (i : Int) * d.dr) = d.st + (i : Int) * d.dr := IntWalk.i64_in _ (by omega)
            have hiw : (i : Int) ≤ 4 := by have := HN4.out; omega
            have HONS := Lib.hid (onB_succ d i)
            have HBDS := Lib.hid (bdL_succ d i)
            have HLn := Lib.hid (bdL_len d i)
            have HAL := Lib.hid (show wD.heap.size ≤ wr.heap.size + 1 by have := hO.out.bl.size; omega)
            clear s0 s1 d0 d1 hmul r1 r2 r3 r4
            unfold bdN at HONS HBDS
            generalize bdL d i = zs at *
            have HL2 := Lib.hid (show (zs.length + 1) * 2 ≤ maxLen by have := HLn.out; have := HNC.out; have := HN4.out; omega)
            have HL2' := Lib.hid (show zs.length + 1 ≤ maxLen by have := HLn.out; have := HNC.out; have := HN4.out; omega)
            have HL3 := Lib.hid (show (zs.length + 1) * 16 ≤ 140737488355328 by have := HLn.out; have := HN4.out; omega)
            cases hon : onB d i
            case' true => have HIN := Lib.hid (fun W => refIn_any (d.st + (i : Int) * d.dr) 0 60 W)
            case' true => rw [hon, Bool.true_and] at HONS
            case' false => rw [hon, Bool.false_and] at HONS
            all_goals
              clear hon
              go_wp2_with (first | (go_at_call 42; (with_reducible refine (HIN.out _).mono ?_); rintro e wI ⟨rfl, rfl⟩) | (at_builtin; go_must (refine wpList_append_lies _ rfl _ _ 51 rfl wD.heap.size 63 i63 _ 2 16 Tryd.underlying51 hj3 hv0 hv1 hv2 rfl (by decide) _ zs.length (rgCells zs) rfl (hO.out.ow.alloc _) ⟨wr.heap.size, 0, none⟩ 1 1 [.int .i64 (d.st + (i : Int) * d.dr), .int .i64 (d.st + (i : Int) * d.dr)] rfl rfl (World.news_of_block (cs := #[.int .i64 (d.st + (i : Int) * d.dr), .int .i64 (d.st + (i : Int) * d.dr)]) (t := 63) (fr := (0, 0)) (heap_alloc_new wr _)) (by simp [Value.oneCell']) (by decide) (by first | exact HL2.out | exact HL2'.out) HL3.out (by simpa using HAL.out) (wr.heap.size + 1) (by simp) ?_); intro gA capA wA hown hgrow hat hlt1; have OP := Lib.hid (hO.out.push0 (b := ⟨d.st + (i : Int) * d.dr, d.st + (i : Int) * d.dr⟩) hgrow hown); clear hown hgrow hat hlt1))
              go_roundg (n - (i + 1))
              case measure => omega
              case rel => exact ⟨i + 1, _, by omega, rfl, by simp, by rw [HONS.out], rfl, by rw [HBDS.out]; exact OP⟩
          · have hz1 : ¬ (i : Int) < r.rows := by have := HRN.out; omega
            obtain rfl : i = n := by omega
            obtain ⟨aG, cG, rfl, hIG, hNG⟩ := hO.out.out
            have RG := Lib.hid hIG; have NG := Lib.hid hNG
            obtain ⟨⟨r0, r1, r2, r3, r4⟩, q0, q1⟩ := SR.out.c7
            clear hIG hNG hO SD hlt hi
            obtain ⟨wZ, hwZ⟩ : ∃ wZ, wZ = wr := ⟨_, rfl⟩
            subst hwZ
            clear r1 r2 r3 r4
            cases hon : onB d i
            · clear FA hon
              have O2 := Lib.hid (OwnI.nil wZ)
              go_wp2_with fail
              go_loopg [20, 21] xs.length (fun g s20 s21 wx => ∃ (j : Nat) (v : Value), j ≤ xs.length ∧ g = xs.length - j ∧ s21 = .int .i64 (j : Int) ∧ s20 = v ∧ Hid (OwnI wZ wx v (fewT xs u j)))
              case atStart => exact ⟨0, _, by omega, by omega, rfl, rfl, O2⟩
              case round =>
                obtain ⟨j, v, hj, rfl, rfl, hv, hO⟩ := hrel
                have hv2 := hv.symm
                clear hv O2
                subst hv2
                by_cases hlt : j < xs.length
                · have hz0 : (0 : Int) ≤ (j : Int) := by omega
                  have hz1 : (j : Int) < (xs.length : Int) := by omega
                  obtain ⟨x, hx⟩ : ∃ x, xs[j]? = some x := ⟨xs[j]'hlt, List.getElem?_eq_getElem _⟩
                  obtain ⟨g, o, rfl, k1⟩ := HX.out _ _ hx
                  have k2 : wr.cell? ⟨g, o + j, none⟩ = some (.int .i64 x) := cell_lo (SR.out.s.go hO.out.bl).bl k1
                  have HTT := Lib.hid (fewT_at (u := u) hx)
                  have HLn := Lib.hid (HF.out j)
                  have HAL := Lib.hid (show wZ.heap.size ≤ wr.heap.size + 1 by have := hO.out.bl.size; omega)
                  generalize fewT xs u j = zs at *
                  have HL2 := Lib.hid (show zs.length + 1 ≤ maxLen by have := HLn.out; have := HX15.out; unfold maxLen; omega)
                  have HL3 := Lib.hid (show (zs.length + 1) * 8 ≤ 140737488355328 by have := HLn.out; have := HX15.out; omega)
                  clear hx k1
                  cases hq : ((u / 2 ^ j).tmod 2 == 1)
                  · have HN := Lib.hid (show fewT xs u (j + 1) = zs by rw [HTT.out]; unfold bitU; rw [hq]; simp)
                    go_wp2_with fail
                    go_roundg (xs.length - (j + 1))
                    case measure => omega
                    case rel => exact ⟨j + 1, _, by omega, rfl, by simp, rfl, by rw [HN.out]; exact hO⟩
                  · have HN := Lib.hid (show fewT xs u (j + 1) = zs ++ [x] by rw [HTT.out]; unfold bitU; rw [hq]; rfl)
                    go_wp2_with (at_builtin; go_must (refine wpList_append_lies _ rfl _ _ 25 rfl wZ.heap.size 3 i3 (.int .i64 0) 1 8 Tryd.underlying25 hi3 hy0 hy1 hy2 rfl (by decide) _ zs.length (zs.map (Value.int .i64)) rfl (hO.out.ow.alloc _) ⟨wr.heap.size, 0, none⟩ 1 1 [.int .i64 x] rfl rfl (World.news_of_block (cs := #[.int .i64 x]) (t := 3) (fr := (0, 0)) (heap_alloc_new wr _)) (by simp [Value.oneCell']) (by decide) HL2.out HL3.out (by simpa using HAL.out) (wr.heap.size + 1) (by simp) ?_); intro gA capA wA hown hgrow hat hlt1; have OP := Lib.hid (hO.out.push hgrow hown); clear hown hgrow hat hlt1)
                    go_roundg (xs.length - (j + 1))
                    case measure => omega
                    case rel => exact ⟨j + 1, _, by omega, rfl, by simp, rfl, by rw [HN.out]; exact OP⟩
                · have hz1 : ¬ (j : Int) < (xs.length : Int) := by omega
                  obtain rfl : j = xs.length := by omega
                  obtain ⟨aW, cW, rfl, hIW, hNW⟩ := hO.out.out
                  have ST := Lib.hid (SR.out.go hO.out.bl)
                  have IW := Lib.hid hIW
                  have DT := Lib.hid (ST.out.go (Below.drew (Below.refl _ _)))
                  clear hIW hNW hlt hj hO
                  by_cases hls : r.ls = []
                  · have hza : ¬ 0 < r.ls.length := by rw [hls]; simp
                    have hpf := HPF.out hls
                    rw [hpf] at PF
                    clear hpf hls HPF
                    generalize fewT xs u xs.length = FW at *
                    go_wp2_with fail
                    refine wp_region_held_drew (S := (fun W => (W.cell? ⟨w.heap.size, 0, none⟩ = some (.int .i64 r.rows) ∧ W.cell? ⟨w.heap.size, 1, none⟩ = some (.int .i64 r.mid) ∧ W.cell? ⟨w.heap.size, 2, none⟩ = some (.int .i64 r.gap) ∧ W.cell? ⟨w.heap.size, 3, none⟩ = some (.int .i64 r.reach) ∧ W.cell? ⟨w.heap.size, 4, none⟩ = some (.slice r.la r.ls.length r.lc)) ∧ W.cell? ⟨gC, 0, none⟩ = some (.int .i64 d.st) ∧ W.cell? ⟨gC, 1, none⟩ = some (.int .i64 d.dr))) (by kernel_rfl) ?_ (fun hHeld => ?_)
                    · (try dsimp only); (with_reducible first | exact SU.out.c7 | exact SQ.out.c7 | exact SP.out.c7 | exact DT.out.c7)
                    refine wpAnyH_take (i := 0) (oi := { dst := some 162, op := Op.fieldAddr 24 (Operand.tmp 4) 4, type := 0, pos := "outright.go:239", after := #[], guard := none }) (v := ?v_st27awZ_0) rfl (by kernel_rfl) (by kernel_rfl) (by kernel_rfl) (fun _ _ _ h => h) (Or.inl ⟨by rfl, ?y_st27awZ_0⟩) (by assumption) ?_
                    case y_st27awZ_0 => intro w hSw; (try dsimp only at hSw); go_simp; with_reducible rfl
                    try simp only [Act.put, List.setIfInBounds_toArray, List.set_cons_zero, List.set_cons_succ]
                    refine wpAnyH_take (i := 1) (oi := { dst := some 163, op := Op.load 22 (Operand.tmp 162), type := 22, pos := "outright.go:239", after := #[{ on := 0, ground := Ground.data }], guard := none }) (v := ?v_st27awZ_1) rfl (by kernel_rfl) (by kernel_rfl) (by kernel_rfl) (fun _ _ _ h => h) (Or.inl ⟨by rfl, ?y_st27awZ_1⟩) (by assumption) ?_
                    case y_st27awZ_1 => intro w hSw; (try dsimp only at hSw); go_simp; with_reducible rfl
                    try simp only [Act.put, List.setIfInBounds_toArray, List.set_cons_zero, List.set_cons_succ]
                    refine wpAnyH_take (i := 2) (oi := { dst := some 164, op := Op.call { callee := Callee.builtin Builtin.len, args := #[Operand.tmp 163], argTypes := #[22] }, type := 3, pos := "outright.go:239", after := #[{ on := 1, ground := Ground.data }], guard := none }) (v := ?v_st27awZ_2) rfl (by kernel_rfl) (by kernel_rfl) (by kernel_rfl) (fun _ _ _ h => h) (Or.inl ⟨by rfl, ?y_st27awZ_2⟩) (by assumption) ?_
                    case y_st27awZ_2 => intro w hSw; (try dsimp only at hSw); go_simp; with_reducible rfl
                    try simp only [Act.put, List.setIfInBounds_toArray, List.set_cons_zero, List.set_cons_succ]
                    refine wpAnyH_take (i := 3) (oi := { dst := some 165, op := Op.binOp BinOp.gtr 3 (Operand.tmp 164) (Operand.const (Value.int IntKind.i64 0)) 3, type := 4, pos := "outright.go:239", after := #[{ on := 2, ground := Ground.data }], guard := none }) (v := ?v_st27awZ_3) rfl (by kernel_rfl) (by kernel_rfl) (by kernel_rfl) (fun _ _ _ h => h) (Or.inl ⟨by rfl, ?y_st27awZ_3⟩) (by assumption) ?_
                    case y_st27awZ_3 => intro w hSw; (try dsimp only at hSw); go_simp; with_reducible rfl
                    try simp only [Act.put, List.setIfInBounds_toArray, List.set_cons_zero, List.set_cons_succ]
                    refine wpAnyH_take (i := 4) (oi := { dst := some 166, op := Op.move (Operand.tmp 165), type := 4, pos := "outright.go:239", after := #[{ on := 3, ground := Ground.data }], guard := none }) (v := ?v_st27awZ_4) rfl (by kernel_rfl) (by kernel_rfl) (by kernel_rfl) (fun _ _ _ h => h) (Or.inl ⟨by rfl, ?y_st27awZ_4⟩) (by assumption) ?_
                    case y_st27awZ_4 => intro w hSw; (try dsimp only at hSw); go_simp; with_reducible rfl
                    try simp only [Act.put, List.setIfInBounds_toArray, List.set_cons_zero, List.set_cons_succ]
                    refine wpAnyH_take (i := 5) (oi := { dst := some 167, op := Op.load 24 (Operand.tmp 4), type := 24, pos := "outright.go:239", after := #[{ on := 4, ground := Ground.guard }], guard := some (4, false) }) (v := ?v_st27awZ_5) rfl (by kernel_rfl) (by kernel_rfl) (by kernel_rfl) (fun _ _ _ h => h) (Or.inl ⟨by rfl, ?y_st27awZ_5⟩) (by assumption) ?_
                    case y_st27awZ_5 => intro w hSw; (try dsimp only at hSw); go_simp; with_reducible rfl
                    try simp only [Act.put, List.setIfInBounds_toArray, List.set_cons_zero, List.set_cons_succ]
                    refine wpAnyH_take (i := 7) (oi := { dst := some 169, op := Op.move (Operand.tmp 20), type := 25, pos := "outright.go:239", after := #[{ on := 4, ground := Ground.guard }], guard := some (4, false) }) (v := ?v_st27awZ_6) rfl (by kernel_rfl) (by kernel_rfl) (by kernel_rfl) (fun _ _ _ h => h) (Or.inl ⟨by rfl, ?y_st27awZ_6⟩) (by assumption) ?_
                    case y_st27awZ_6 => intro w hSw; (try dsimp only at hSw); go_simp; with_reducible rfl
                    try simp only [Act.put, List.setIfInBounds_toArray, List.set_cons_zero, List.set_cons_succ]
                    refine wpAnyH_take (i := 8) (oi := { dst := some 170, op := Op.load 73 (Operand.tmp 9), type := 73, pos := "outright.go:239", after := #[{ on := 4, ground := Ground.guard }], guard := some (4, false) }) (v := ?v_st27awZ_7) rfl (by kernel_rfl) (by kernel_rfl) (by kernel_rfl) (fun _ _ _ h => h) (Or.inl ⟨by rfl, ?y_st27awZ_7⟩) (by assumption) ?_
                    case y_st27awZ_7 => intro w hSw; (try dsimp only at hSw); go_simp; with_reducible rfl
                    try simp only [Act.put, List.setIfInBounds_toArray, List.set_cons_zero, List.set_cons_succ]
                    refine wpAnyH_ready (rs := [6]) (by kernel_rfl) (by simp) ?_
                    refine AllReadyH.cons (o := { dst := some 168, op := Op.call { callee := Callee.value (Operand.func 18), args := #[Operand.tmp 167], argTypes := #[24] }, type := 32, pos := "outright.go:239", after := #[{ on := 5, ground := Ground.data }, { on := 4, ground := Ground.chain }, { on := 4, ground := Ground.guard }], guard := some (4, false) }) rfl (fun K hK => ?_) ?_
                    go_simp
                    (first | (go_at_call 18; (with_reducible refine (RA.out _ DT.out.s.bl).mono ?_); rintro e wP ⟨aP, cP, rfl, hl, hg, hb⟩; have SP := Lib.hid (DT.out.go hb); have LP := Lib.hid hl; have GP := Lib.hid hg; have IP := Lib.hid (IW.out.lo (below_go (Below.drew (Below.refl _ _)) hb)); clear hb hl hg) | (go_at_call 41; (with_reducible refine (PF.out _ _ _ _ _ SP.out.s.bl LP.out GP.out IP.out).mono ?_); rintro e wQ ⟨rfl, hb⟩; have SQ := Lib.hid (SP.out.go hb); clear hb) | (go_at_call 16; (with_reducible refine (AW.out _ SQ.out.s.bl).mono ?_); rintro e wU ⟨rfl, hb⟩; have SU := Lib.hid (SQ.out.go hb); clear hb))
                    go_wp2_with fail
                    refine hK.out _ _ ?_ (fun hHeld => ?_)
                    · (try dsimp only); (with_reducible first | exact SU.out.c7 | exact SQ.out.c7 | exact SP.out.c7 | exact DT.out.c7)
                    clear hK K
                    try simp only [Act.put, List.setIfInBounds_toArray, List.set_cons_zero, List.set_cons_succ]
                    refine wpAnyH_ready (rs := [9]) (by kernel_rfl) (by simp) ?_
                    refine AllReadyH.cons (o := { dst := some 171, op := Op.call { callee := Callee.value (Operand.func 41), args := #[Operand.tmp 168, Operand.tmp 169, Operand.tmp 170], argTypes := #[32, 25, 73] }, type := 4, pos := "outright.go:239", after := #[{ on := 6, ground := Ground.data }, { on := 7, ground := Ground.data }, { on := 8, ground := Ground.data }, { on := 6, ground := Ground.chain }, { on := 4, ground := Ground.guard }], guard := some (4, false) }) rfl (fun K hK => ?_) ?_
                    go_simp
                    (first | (go_at_call 18; (with_reducible refine (RA.out _ DT.out.s.bl).mono ?_); rintro e wP ⟨aP, cP, rfl, hl, hg, hb⟩; have SP := Lib.hid (DT.out.go hb); have LP := Lib.hid hl; have GP := Lib.hid hg; have IP := Lib.hid (IW.out.lo (below_go (Below.drew (Below.refl _ _)) hb)); clear hb hl hg) | (go_at_call 41; (with_reducible refine (PF.out _ _ _ _ _ SP.out.s.bl LP.out GP.out IP.out).mono ?_); rintro e wQ ⟨rfl, hb⟩; have SQ := Lib.hid (SP.out.go hb); clear hb) | (go_at_call 16; (with_reducible refine (AW.out _ SQ.out.s.bl).mono ?_); rintro e wU ⟨rfl, hb⟩; have SU := Lib.hid (SQ.out.go hb); clear hb))
                    go_wp2_with fail
                    refine hK.out _ _ ?_ (fun hHeld => ?_)
                    · (try dsimp only); (with_reducible first | exact SU.out.c7 | exact SQ.out.c7 | exact SP.out.c7 | exact DT.out.c7)
                    clear hK K
                    try simp only [Act.put, List.setIfInBounds_toArray, List.set_cons_zero, List.set_cons_succ]
                    refine wpAnyH_take (i := 10) (oi := { dst := some 172, op := Op.pick (Operand.tmp 166) (Operand.const (Value.bool true)) (Operand.tmp 171), type := 4, pos := "outright.go:239", after := #[{ on := 4, ground := Ground.data }, { on := 9, ground := Ground.data }], guard := none }) (v := ?v_st27awZ_8) rfl (by kernel_rfl) (by kernel_rfl) (by kernel_rfl) (fun _ _ _ h => h) (Or.inl ⟨by rfl, ?y_st27awZ_8⟩) (by assumption) ?_
                    case y_st27awZ_8 => intro w hSw; (try dsimp only at hSw); go_simp; with_reducible rfl
                    try simp only [Act.put, List.setIfInBounds_toArray, List.set_cons_zero, List.set_cons_succ]
                    refine wpAnyH_take (i := 11) (oi := { dst := some 173, op := Op.move (Operand.tmp 172), type := 4, pos := "outright.go:239", after := #[{ on := 10, ground := Ground.data }, { on := 9, ground := Ground.chain }], guard := none }) (v := ?v_st27awZ_9) rfl (by kernel_rfl) (by kernel_rfl) (by kernel_rfl) (fun _ _ _ h => h) (Or.inl ⟨by rfl, ?y_st27awZ_9⟩) (by assumption) ?_
                    case y_st27awZ_9 => intro w hSw; (try dsimp only at hSw); go_simp; with_reducible rfl
                    try simp only [Act.put, List.setIfInBounds_toArray, List.set_cons_zero, List.set_cons_succ]
                    refine wpAnyH_ready (rs := [12]) (by kernel_rfl) (by simp) ?_
                    refine AllReadyH.cons (o := { dst := some 174, op := Op.call { callee := Callee.value (Operand.func 16), args := #[], argTypes := #[] }, type := 4, pos := "outright.go:239", after := #[{ on := 11, ground := Ground.chain }, { on := 11, ground := Ground.guard }], guard := some (11, true) }) rfl (fun K hK => ?_) ?_
                    go_simp
                    (first | (go_at_call 18; (with_reducible refine (RA.out _ DT.out.s.bl).mono ?_); rintro e wP ⟨aP, cP, rfl, hl, hg, hb⟩; have SP := Lib.hid (DT.out.go hb); have LP := Lib.hid hl; have GP := Lib.hid hg; have IP := Lib.hid (IW.out.lo (below_go (Below.drew (Below.refl _ _)) hb)); clear hb hl hg) | (go_at_call 41; (with_reducible refine (PF.out _ _ _ _ _ SP.out.s.bl LP.out GP.out IP.out).mono ?_); rintro e wQ ⟨rfl, hb⟩; have SQ := Lib.hid (SP.out.go hb); clear hb) | (go_at_call 16; (with_reducible refine (AW.out _ SQ.out.s.bl).mono ?_); rintro e wU ⟨rfl, hb⟩; have SU := Lib.hid (SQ.out.go hb); clear hb))
                    go_wp2_with fail
                    refine hK.out _ _ ?_ (fun hHeld => ?_)
                    · (try dsimp only); (with_reducible first | exact SU.out.c7 | exact SQ.out.c7 | exact SP.out.c7 | exact DT.out.c7)
                    clear hK K
                    try simp only [Act.put, List.setIfInBounds_toArray, List.set_cons_zero, List.set_cons_succ]
                    refine wpAnyH_take (i := 13) (oi := { dst := some 175, op := Op.pick (Operand.tmp 173) (Operand.tmp 174) (Operand.const (Value.bool false)), type := 4, pos := "outright.go:239", after := #[{ on := 11, ground := Ground.data }, { on := 12, ground := Ground.data }], guard := none }) (v := ?v_st27awZ_10) rfl (by kernel_rfl) (by kernel_rfl) (by kernel_rfl) (fun _ _ _ h => h) (Or.inl ⟨by rfl, ?y_st27awZ_10⟩) (by assumption) ?_
                    case y_st27awZ_10 => intro w hSw; (try dsimp only at hSw); go_simp; with_reducible rfl
                    try simp only [Act.put, List.setIfInBounds_toArray, List.set_cons_zero, List.set_cons_succ]
                    refine wpAnyH_take (i := 14) (oi := { dst := some 8, op := Op.assign (Operand.tmp 175), type := 4, pos := "outright.go:239", after := #[{ on := 13, ground := Ground.data }, { on := 12, ground := Ground.chain }, { on := 0, ground := Ground.phase }, { on := 1, ground := Ground.phase }, { on := 2, ground := Ground.phase }, { on := 3, ground := Ground.phase }, { on := 4, ground := Ground.phase }, { on := 5, ground := Ground.phase }, { on := 6, ground := Ground.phase }, { on := 7, ground := Ground.phase }, { on := 8, ground := Ground.phase }, { on := 9, ground := Ground.phase }, { on := 10, ground := Ground.phase }, { on := 11, ground := Ground.phase }, { on := 12, ground := Ground.phase }, { on := 13, ground := Ground.phase }], guard := none }) (v := ?v_st27awZ_11) rfl (by kernel_rfl) (by kernel_rfl) (by kernel_rfl) (fun _ _ _ h => h) (Or.inl ⟨by rfl, ?y_st27awZ_11⟩) (by assumption) ?_
                    case y_st27awZ_11 => intro w hSw; (try dsimp only at hSw); go_simp; with_reducible rfl
                    try simp only [Act.put, List.setIfInBounds_toArray, List.set_cons_zero, List.set_cons_succ]
                    refine wpAnyH_done (by kernel_rfl) ?_ _
                    rotate_left 1
                    exact AllReadyH.nil
                    exact AllReadyH.nil
                    exact AllReadyH.nil
                    all_goals
                      go_wp2_with fail
                      go_returns
                      exact ⟨rfl, SU.out.s.bl⟩
                  · have hza : 0 < r.ls.length := List.length_pos_iff.2 hls
                    clear HPF
                    generalize fewT xs u xs.length = FW at *
                    generalize hPV : prvB r FW d = pv at *
                    clear hPV hls
                    go_wp2_with fail
                    refine wp_region_held_drew (S := (fun W => (W.cell? ⟨w.heap.size, 0, none⟩ = some (.int .i64 r.rows) ∧ W.cell? ⟨w.heap.size, 1, none⟩ = some (.int .i64 r.mid) ∧ W.cell? ⟨w.heap.size, 2, none⟩ = some (.int .i64 r.gap) ∧ W.cell? ⟨w.heap.size, 3, none⟩ = some (.int .i64 r.reach) ∧ W.cell? ⟨w.heap.size, 4, none⟩ = some (.slice r.la r.ls.length r.lc)) ∧ W.cell? ⟨gC, 0, none⟩ = some (.int .i64 d.st) ∧ W.cell? ⟨gC, 1, none⟩ = some (.int .i64 d.dr))) (by kernel_rfl) ?_ (fun hHeld => ?_)
                    · (try dsimp only); (with_reducible first | exact SU.out.c7 | exact SQ.out.c7 | exact SP.out.c7 | exact DT.out.c7)
                    refine wpAnyH_take (i := 0) (oi := { dst := some 162, op := Op.fieldAddr 24 (Operand.tmp 4) 4, type := 0, pos := "outright.go:239", after := #[], guard := none }) (v := ?v_st27bwZ_12) rfl (by kernel_rfl) (by kernel_rfl) (by kernel_rfl) (fun _ _ _ h => h) (Or.inl ⟨by rfl, ?y_st27bwZ_12⟩) (by assumption) ?_
                    case y_st27bwZ_12 => intro w hSw; (try dsimp only at hSw); go_simp; with_reducible rfl
                    try simp only [Act.put, List.setIfInBounds_toArray, List.set_cons_zero, List.set_cons_succ]
                    refine wpAnyH_take (i := 1) (oi := { dst := some 163, op := Op.load 22 (Operand.tmp 162), type := 22, pos := "outright.go:239", after := #[{ on := 0, ground := Ground.data }], guard := none }) (v := ?v_st27bwZ_13) rfl (by kernel_rfl) (by kernel_rfl) (by kernel_rfl) (fun _ _ _ h => h) (Or.inl ⟨by rfl, ?y_st27bwZ_13⟩) (by assumption) ?_
                    case y_st27bwZ_13 => intro w hSw; (try dsimp only at hSw); go_simp; with_reducible rfl
                    try simp only [Act.put, List.setIfInBounds_toArray, List.set_cons_zero, List.set_cons_succ]
                    refine wpAnyH_take (i := 2) (oi := { dst := some 164, op := Op.call { callee := Callee.builtin Builtin.len, args := #[Operand.tmp 163], argTypes := #[22] }, type := 3, pos := "outright.go:239", after := #[{ on := 1, ground := Ground.data }], guard := none }) (v := ?v_st27bwZ_14) rfl (by kernel_rfl) (by kernel_rfl) (by kernel_rfl) (fun _ _ _ h => h) (Or.inl ⟨by rfl, ?y_st27bwZ_14⟩) (by assumption) ?_
                    case y_st27bwZ_14 => intro w hSw; (try dsimp only at hSw); go_simp; with_reducible rfl
                    try simp only [Act.put, List.setIfInBounds_toArray, List.set_cons_zero, List.set_cons_succ]
                    refine wpAnyH_take (i := 3) (oi := { dst := some 165, op := Op.binOp BinOp.gtr 3 (Operand.tmp 164) (Operand.const (Value.int IntKind.i64 0)) 3, type := 4, pos := "outright.go:239", after := #[{ on := 2, ground := Ground.data }], guard := none }) (v := ?v_st27bwZ_15) rfl (by kernel_rfl) (by kernel_rfl) (by kernel_rfl) (fun _ _ _ h => h) (Or.inl ⟨by rfl, ?y_st27bwZ_15⟩) (by assumption) ?_
                    case y_st27bwZ_15 => intro w hSw; (try dsimp only at hSw); go_simp; with_reducible rfl
                    try simp only [Act.put, List.setIfInBounds_toArray, List.set_cons_zero, List.set_cons_succ]
                    refine wpAnyH_take (i := 4) (oi := { dst := some 166, op := Op.move (Operand.tmp 165), type := 4, pos := "outright.go:239", after := #[{ on := 3, ground := Ground.data }], guard := none }) (v := ?v_st27bwZ_16) rfl (by kernel_rfl) (by kernel_rfl) (by kernel_rfl) (fun _ _ _ h => h) (Or.inl ⟨by rfl, ?y_st27bwZ_16⟩) (by assumption) ?_
                    case y_st27bwZ_16 => intro w hSw; (try dsimp only at hSw); go_simp; with_reducible rfl
                    try simp only [Act.put, List.setIfInBounds_toArray, List.set_cons_zero, List.set_cons_succ]
                    refine wpAnyH_take (i := 5) (oi := { dst := some 167, op := Op.load 24 (Operand.tmp 4), type := 24, pos := "outright.go:239", after := #[{ on := 4, ground := Ground.guard }], guard := some (4, false) }) (v := undef) rfl (by kernel_rfl) (by kernel_rfl) (by kernel_rfl) (fun _ _ _ h => h) (Or.inr ⟨by rfl, rfl⟩) (by assumption) ?_
                    try simp only [Act.put, List.setIfInBounds_toArray, List.set_cons_zero, List.set_cons_succ]
                    refine wpAnyH_take (i := 6) (oi := { dst := some 168, op := Op.call { callee := Callee.value (Operand.func 18), args := #[Operand.tmp 167], argTypes := #[24] }, type := 32, pos := "outright.go:239", after := #[{ on := 5, ground := Ground.data }, { on := 4, ground := Ground.chain }, { on := 4, ground := Ground.guard }], guard := some (4, false) }) (v := undef) rfl (by kernel_rfl) (by kernel_rfl) (by kernel_rfl) (fun _ _ _ h => h) (Or.inr ⟨by rfl, rfl⟩) (by assumption) ?_
                    try simp only [Act.put, List.setIfInBounds_toArray, List.set_cons_zero, List.set_cons_succ]
                    refine wpAnyH_take (i := 7) (oi := { dst := some 169, op := Op.move (Operand.tmp 20), type := 25, pos := "outright.go:239", after := #[{ on := 4, ground := Ground.guard }], guard := some (4, false) }) (v := undef) rfl (by kernel_rfl) (by kernel_rfl) (by kernel_rfl) (fun _ _ _ h => h) (Or.inr ⟨by rfl, rfl⟩) (by assumption) ?_
                    try simp only [Act.put, List.setIfInBounds_toArray, List.set_cons_zero, List.set_cons_succ]
                    refine wpAnyH_take (i := 8) (oi := { dst := some 170, op := Op.load 73 (Operand.tmp 9), type := 73, pos := "outright.go:239", after := #[{ on := 4, ground := Ground.guard }], guard := some (4, false) }) (v := undef) rfl (by kernel_rfl) (by kernel_rfl) (by kernel_rfl) (fun _ _ _ h => h) (Or.inr ⟨by rfl, rfl⟩) (by assumption) ?_
                    try simp only [Act.put, List.setIfInBounds_toArray, List.set_cons_zero, List.set_cons_succ]
                    refine wpAnyH_take (i := 9) (oi := { dst := some 171, op := Op.call { callee := Callee.value (Operand.func 41), args := #[Operand.tmp 168, Operand.tmp 169, Operand.tmp 170], argTypes := #[32, 25, 73] }, type := 4, pos := "outright.go:239", after := #[{ on := 6, ground := Ground.data }, { on := 7, ground := Ground.data }, { on := 8, ground := Ground.data }, { on := 6, ground := Ground.chain }, { on := 4, ground := Ground.guard }], guard := some (4, false) }) (v := undef) rfl (by kernel_rfl) (by kernel_rfl) (by kernel_rfl) (fun _ _ _ h => h) (Or.inr ⟨by rfl, rfl⟩) (by assumption) ?_
                    try simp only [Act.put, List.setIfInBounds_toArray, List.set_cons_zero, List.set_cons_succ]
                    refine wpAnyH_take (i := 10) (oi := { dst := some 172, op := Op.pick (Operand.tmp 166) (Operand.const (Value.bool true)) (Operand.tmp 171), type := 4, pos := "outright.go:239", after := #[{ on := 4, ground := Ground.data }, { on := 9, ground := Ground.data }], guard := none }) (v := ?v_st27bwZ_17) rfl (by kernel_rfl) (by kernel_rfl) (by kernel_rfl) (fun _ _ _ h => h) (Or.inl ⟨by rfl, ?y_st27bwZ_17⟩) (by assumption) ?_
                    case y_st27bwZ_17 => intro w hSw; (try dsimp only at hSw); go_simp; with_reducible rfl
                    try simp only [Act.put, List.setIfInBounds_toArray, List.set_cons_zero, List.set_cons_succ]
                    refine wpAnyH_take (i := 11) (oi := { dst := some 173, op := Op.move (Operand.tmp 172), type := 4, pos := "outright.go:239", after := #[{ on := 10, ground := Ground.data }, { on := 9, ground := Ground.chain }], guard := none }) (v := ?v_st27bwZ_18) rfl (by kernel_rfl) (by kernel_rfl) (by kernel_rfl) (fun _ _ _ h => h) (Or.inl ⟨by rfl, ?y_st27bwZ_18⟩) (by assumption) ?_
                    case y_st27bwZ_18 => intro w hSw; (try dsimp only at hSw); go_simp; with_reducible rfl
                    try simp only [Act.put, List.setIfInBounds_toArray, List.set_cons_zero, List.set_cons_succ]
                    refine wpAnyH_ready (rs := [12]) (by kernel_rfl) (by simp) ?_
                    refine AllReadyH.cons (o := { dst := some 174, op := Op.call { callee := Callee.value (Operand.func 16), args := #[], argTypes := #[] }, type := 4, pos := "outright.go:239", after := #[{ on := 11, ground := Ground.chain }, { on := 11, ground := Ground.guard }], guard := some (11, true) }) rfl (fun K hK => ?_) ?_
                    go_simp
                    (first | (go_at_call 18; (with_reducible refine (RA.out _ DT.out.s.bl).mono ?_); rintro e wP ⟨aP, cP, rfl, hl, hg, hb⟩; have SP := Lib.hid (DT.out.go hb); have LP := Lib.hid hl; have GP := Lib.hid hg; have IP := Lib.hid (IW.out.lo (below_go (Below.drew (Below.refl _ _)) hb)); clear hb hl hg) | (go_at_call 41; (with_reducible refine (PF.out _ _ _ _ _ SP.out.s.bl LP.out GP.out IP.out).mono ?_); rintro e wQ ⟨rfl, hb⟩; have SQ := Lib.hid (SP.out.go hb); clear hb) | (go_at_call 16; (with_reducible refine (AW.out _ DT.out.s.bl).mono ?_); rintro e wU ⟨rfl, hb⟩; have SU := Lib.hid (DT.out.go hb); clear hb))
                    go_wp2_with fail
                    refine hK.out _ _ ?_ (fun hHeld => ?_)
                    · (try dsimp only); (with_reducible first | exact SU.out.c7 | exact SQ.out.c7 | exact SP.out.c7 | exact DT.out.c7)
                    clear hK K
                    try simp only [Act.put, List.setIfInBounds_toArray, List.set_cons_zero, List.set_cons_succ]
                    refine wpAnyH_take (i := 13) (oi := { dst := some 175, op := Op.pick (Operand.tmp 173) (Operand.tmp 174) (Operand.const (Value.bool false)), type := 4, pos := "outright.go:239", after := #[{ on := 11, ground := Ground.data }, { on := 12, ground := Ground.data }], guard := none }) (v := ?v_st27bwZ_19) rfl (by kernel_rfl) (by kernel_rfl) (by kernel_rfl) (fun _ _ _ h => h) (Or.inl ⟨by rfl, ?y_st27bwZ_19⟩) (by assumption) ?_
                    case y_st27bwZ_19 => intro w hSw; (try dsimp only at hSw); go_simp; with_reducible rfl
                    try simp only [Act.put, List.setIfInBounds_toArray, List.set_cons_zero, List.set_cons_succ]
                    refine wpAnyH_take (i := 14) (oi := { dst := some 8, op := Op.assign (Operand.tmp 175), type := 4, pos := "outright.go:239", after := #[{ on := 13, ground := Ground.data }, { on := 12, ground := Ground.chain }, { on := 0, ground := Ground.phase }, { on := 1, ground := Ground.phase }, { on := 2, ground := Ground.phase }, { on := 3, ground := Ground.phase }, { on := 4, ground := Ground.phase }, { on := 5, ground := Ground.phase }, { on := 6, ground := Ground.phase }, { on := 7, ground := Ground.phase }, { on := 8, ground := Ground.phase }, { on := 9, ground := Ground.phase }, { on := 10, ground := Ground.phase }, { on := 11, ground := Ground.phase }, { on := 12, ground := Ground.phase }, { on := 13, ground := Ground.phase }], guard := none }) (v := ?v_st27bwZ_20) rfl (by kernel_rfl) (by kernel_rfl) (by kernel_rfl) (fun _ _ _ h => h) (Or.inl ⟨by rfl, ?y_st27bwZ_20⟩) (by assumption) ?_
                    case y_st27bwZ_20 => intro w hSw; (try dsimp only at hSw); go_simp; with_reducible rfl
                    try simp only [Act.put, List.setIfInBounds_toArray, List.set_cons_zero, List.set_cons_succ]
                    refine wpAnyH_done (by kernel_rfl) ?_ _
                    rotate_left 1
                    exact AllReadyH.nil
                    all_goals
                      go_wp2_with fail
                      go_returns
                      exact ⟨rfl, SU.out.s.bl⟩
            · have FAo := Lib.hid (fun W a' c' aX cX aG cG => FA.out hon W a' c' aX cX aG cG)
              clear hon FA
              obtain ⟨⟨r0, r1, r2, r3, r4⟩, q0, q1⟩ := SR.out.c7
              go_wp2_with fail
              refine (RA.out _ SR.out.s.bl).mono ?_
              rintro e wE ⟨aE, cE, rfl, hl, hg, hb⟩
              have SE := Lib.hid (SR.out.go hb); have LE := Lib.hid hl; have GE := Lib.hid hg
              have RE := Lib.hid (RG.out.lower hb); have NE := Lib.hid (fun g o e => Nat.lt_of_lt_of_le (NG.out g o e) hb.size)
              clear hb hl hg SR RG NG r0 r1 r2 r3 r4 q0 q1
              go_wp2_with fail
              refine (LX.out _ SE.out.s.bl).mono ?_
              rintro e wF ⟨aF, cF, rfl, hi, hb⟩
              have SF := Lib.hid (SE.out.go hb); have LF := Lib.hid (LE.out.lo hb); have GF := Lib.hid (fun g o e => Nat.lt_of_lt_of_le (GE.out g o e) hb.size)
              have RF := Lib.hid (RE.out.lower hb); have NF := Lib.hid (fun g o e => Nat.lt_of_lt_of_le (NE.out g o e) hb.size); have XF := Lib.hid hi
              clear hb hi SE LE GE RE NE
              go_wp2_with fail
              refine (FAo.out wF aE cE aF cF aG cG SF.out.s.bl LF.out GF.out XF.out RF.out NF.out).mono ?_
              rintro e wH ⟨aS, cS, aM, cM, rfl, hi, hi2, hb⟩
              have SH := Lib.hid (SF.out.go hb); have IS := Lib.hid hi
              clear hb hi hi2 SF LF GF RF NF XF FAo
              go_wp2_with fail
              refine (ints_eq xs aS a cS c _ _ wH IS.out (HX.out.lo SH.out.s.bl) (by have := HX15.out; omega) rfl rfl).mono ?_
              rintro e wJ ⟨rfl, hb⟩
              have SJ := Lib.hid (SH.out.go hb)
              clear hb SH IS
              have O2 := Lib.hid (OwnI.nil wJ)
              go_wp2_with fail
              go_loopg [20, 21] xs.length (fun g s20 s21 wx => ∃ (j : Nat) (v : Value), j ≤ xs.length ∧ g = xs.length - j ∧ s21 = .int .i64 (j : Int) ∧ s20 = v ∧ Hid (OwnI wJ wx v (fewT xs u j)))
              case atStart => exact ⟨0, _, by omega, by omega, rfl, rfl, O2⟩
              case round =>
                obtain ⟨j, v, hj, rfl, rfl, hv, hO⟩ := hrel
                have hv2 := hv.symm
                clear hv O2
                subst hv2
                by_cases hlt : j < xs.length
                · have hz0 : (0 : Int) ≤ (j : Int) := by omega
                  have hz1 : (j : Int) < (xs.length : Int) := by omega
                  obtain ⟨x, hx⟩ : ∃ x, xs[j]? = some x := ⟨xs[j]'hlt, List.getElem?_eq_getElem _⟩
                  obtain ⟨g, o, rfl, k1⟩ := HX.out _ _ hx
                  have k2 : wr.cell? ⟨g, o + j, none⟩ = some (.int .i64 x) := cell_lo (SJ.out.s.go hO.out.bl).bl k1
                  have HTT := Lib.hid (fewT_at (u := u) hx)
                  have HLn := Lib.hid (HF.out j)
                  have HAL := Lib.hid (show wJ.heap.size ≤ wr.heap.size + 1 by have := hO.out.bl.size; omega)
                  generalize fewT xs u j = zs at *
                  have HL2 := Lib.hid (show zs.length + 1 ≤ maxLen by have := HLn.out; have := HX15.out; unfold maxLen; omega)
                  have HL3 := Lib.hid (show (zs.length + 1) * 8 ≤ 140737488355328 by have := HLn.out; have := HX15.out; omega)
                  clear hx k1
                  cases hq : ((u / 2 ^ j).tmod 2 == 1)
                  · have HN := Lib.hid (show fewT xs u (j + 1) = zs by rw [HTT.out]; unfold bitU; rw [hq]; simp)
                    go_wp2_with fail
                    go_roundg (xs.length - (j + 1))
                    case measure => omega
                    case rel => exact ⟨j + 1, _, by omega, rfl, by simp, rfl, by rw [HN.out]; exact hO⟩
                  · have HN := Lib.hid (show fewT xs u (j + 1) = zs ++ [x] by rw [HTT.out]; unfold bitU; rw [hq]; rfl)
                    go_wp2_with (at_builtin; go_must (refine wpList_append_lies _ rfl _ _ 25 rfl wJ.heap.size 3 i3 (.int .i64 0) 1 8 Tryd.underlying25 hi3 hy0 hy1 hy2 rfl (by decide) _ zs.length (zs.map (Value.int .i64)) rfl (hO.out.ow.alloc _) ⟨wr.heap.size, 0, none⟩ 1 1 [.int .i64 x] rfl rfl (World.news_of_block (cs := #[.int .i64 x]) (t := 3) (fr := (0, 0)) (heap_alloc_new wr _)) (by simp [Value.oneCell']) (by decide) HL2.out HL3.out (by simpa using HAL.out) (wr.heap.size + 1) (by simp) ?_); intro gA capA wA hown hgrow hat hlt1; have OP := Lib.hid (hO.out.push hgrow hown); clear hown hgrow hat hlt1)
                    go_roundg (xs.length - (j + 1))
                    case measure => omega
                    case rel => exact ⟨j + 1, _, by omega, rfl, by simp, rfl, by rw [HN.out]; exact OP⟩
                · have hz1 : ¬ (j : Int) < (xs.length : Int) := by omega
                  obtain rfl : j = xs.length := by omega
                  obtain ⟨aW, cW, rfl, hIW, hNW⟩ := hO.out.out
                  have ST := Lib.hid (SJ.out.go hO.out.bl)
                  have IW := Lib.hid hIW
                  have DT := Lib.hid (ST.out.go (Below.drew (Below.refl _ _)))
                  clear hIW hNW hlt hj hO
                  by_cases hls : r.ls = []
                  · have hza : ¬ 0 < r.ls.length := by rw [hls]; simp
                    have hpf := HPF.out hls
                    rw [hpf] at PF
                    clear hpf hls HPF
                    generalize fewT xs u xs.length = FW at *
                    go_wp2_with fail
                    refine wp_region_held_drew (S := (fun W => (W.cell? ⟨w.heap.size, 0, none⟩ = some (.int .i64 r.rows) ∧ W.cell? ⟨w.heap.size, 1, none⟩ = some (.int .i64 r.mid) ∧ W.cell? ⟨w.heap.size, 2, none⟩ = some (.int .i64 r.gap) ∧ W.cell? ⟨w.heap.size, 3, none⟩ = some (.int .i64 r.reach) ∧ W.cell? ⟨w.heap.size, 4, none⟩ = some (.slice r.la r.ls.length r.lc)) ∧ W.cell? ⟨gC, 0, none⟩ = some (.int .i64 d.st) ∧ W.cell? ⟨gC, 1, none⟩ = some (.int .i64 d.dr))) (by kernel_rfl) ?_ (fun hHeld => ?_)
                    · (try dsimp only); (with_reducible first | exact SU.out.c7 | exact SQ.out.c7 | exact SP.out.c7 | exact DT.out.c7)
                    refine wpAnyH_take (i := 0) (oi := { dst := some 162, op := Op.fieldAddr 24 (Operand.tmp 4) 4, type := 0, pos := "outright.go:239", after := #[], guard := none }) (v := ?v_st27awJ_21) rfl (by kernel_rfl) (by kernel_rfl) (by kernel_rfl) (fun _ _ _ h => h) (Or.inl ⟨by rfl, ?y_st27awJ_21⟩) (by assumption) ?_
                    case y_st27awJ_21 => intro w hSw; (try dsimp only at hSw); go_simp; with_reducible rfl
                    try simp only [Act.put, List.setIfInBounds_toArray, List.set_cons_zero, List.set_cons_succ]
                    refine wpAnyH_take (i := 1) (oi := { dst := some 163, op := Op.load 22 (Operand.tmp 162), type := 22, pos := "outright.go:239", after := #[{ on := 0, ground := Ground.data }], guard := none }) (v := ?v_st27awJ_22) rfl (by kernel_rfl) (by kernel_rfl) (by kernel_rfl) (fun _ _ _ h => h) (Or.inl ⟨by rfl, ?y_st27awJ_22⟩) (by assumption) ?_
                    case y_st27awJ_22 => intro w hSw; (try dsimp only at hSw); go_simp; with_reducible rfl
                    try simp only [Act.put, List.setIfInBounds_toArray, List.set_cons_zero, List.set_cons_succ]
                    refine wpAnyH_take (i := 2) (oi := { dst := some 164, op := Op.call { callee := Callee.builtin Builtin.len, args := #[Operand.tmp 163], argTypes := #[22] }, type := 3, pos := "outright.go:239", after := #[{ on := 1, ground := Ground.data }], guard := none }) (v := ?v_st27awJ_23) rfl (by kernel_rfl) (by kernel_rfl) (by kernel_rfl) (fun _ _ _ h => h) (Or.inl ⟨by rfl, ?y_st27awJ_23⟩) (by assumption) ?_
                    case y_st27awJ_23 => intro w hSw; (try dsimp only at hSw); go_simp; with_reducible rfl
                    try simp only [Act.put, List.setIfInBounds_toArray, List.set_cons_zero, List.set_cons_succ]
                    refine wpAnyH_take (i := 3) (oi := { dst := some 165, op := Op.binOp BinOp.gtr 3 (Operand.tmp 164) (Operand.const (Value.int IntKind.i64 0)) 3, type := 4, pos := "outright.go:239", after := #[{ on := 2, ground := Ground.data }], guard := none }) (v := ?v_st27awJ_24) rfl (by kernel_rfl) (by kernel_rfl) (by kernel_rfl) (fun _ _ _ h => h) (Or.inl ⟨by rfl, ?y_st27awJ_24⟩) (by assumption) ?_
                    case y_st27awJ_24 => intro w hSw; (try dsimp only at hSw); go_simp; with_reducible rfl
                    try simp only [Act.put, List.setIfInBounds_toArray, List.set_cons_zero, List.set_cons_succ]
                    refine wpAnyH_take (i := 4) (oi := { dst := some 166, op := Op.move (Operand.tmp 165), type := 4, pos := "outright.go:239", after := #[{ on := 3, ground := Ground.data }], guard := none }) (v := ?v_st27awJ_25) rfl (by kernel_rfl) (by kernel_rfl) (by kernel_rfl) (fun _ _ _ h => h) (Or.inl ⟨by rfl, ?y_st27awJ_25⟩) (by assumption) ?_
                    case y_st27awJ_25 => intro w hSw; (try dsimp only at hSw); go_simp; with_reducible rfl
                    try simp only [Act.put, List.setIfInBounds_toArray, List.set_cons_zero, List.set_cons_succ]
                    refine wpAnyH_take (i := 5) (oi := { dst := some 167, op := Op.load 24 (Operand.tmp 4), type := 24, pos := "outright.go:239", after := #[{ on := 4, ground := Ground.guard }], guard := some (4, false) }) (v := ?v_st27awJ_26) rfl (by kernel_rfl) (by kernel_rfl) (by kernel_rfl) (fun _ _ _ h => h) (Or.inl ⟨by rfl, ?y_st27awJ_26⟩) (by assumption) ?_
                    case y_st27awJ_26 => intro w hSw; (try dsimp only at hSw); go_simp; with_reducible rfl
                    try simp only [Act.put, List.setIfInBounds_toArray, List.set_cons_zero, List.set_cons_succ]
                    refine wpAnyH_take (i := 7) (oi := { dst := some 169, op := Op.move (Operand.tmp 20), type := 25, pos := "outright.go:239", after := #[{ on := 4, ground := Ground.guard }], guard := some (4, false) }) (v := ?v_st27awJ_27) rfl (by kernel_rfl) (by kernel_rfl) (by kernel_rfl) (fun _ _ _ h => h) (Or.inl ⟨by rfl, ?y_st27awJ_27⟩) (by assumption) ?_
                    case y_st27awJ_27 => intro w hSw; (try dsimp only at hSw); go_simp; with_reducible rfl
                    try simp only [Act.put, List.setIfInBounds_toArray, List.set_cons_zero, List.set_cons_succ]
                    refine wpAnyH_take (i := 8) (oi := { dst := some 170, op := Op.load 73 (Operand.tmp 9), type := 73, pos := "outright.go:239", after := #[{ on := 4, ground := Ground.guard }], guard := some (4, false) }) (v := ?v_st27awJ_28) rfl (by kernel_rfl) (by kernel_rfl) (by kernel_rfl) (fun _ _ _ h => h) (Or.inl ⟨by rfl, ?y_st27awJ_28⟩) (by assumption) ?_
                    case y_st27awJ_28 => intro w hSw; (try dsimp only at hSw); go_simp; with_reducible rfl
                    try simp only [Act.put, List.setIfInBounds_toArray, List.set_cons_zero, List.set_cons_succ]
                    refine wpAnyH_ready (rs := [6]) (by kernel_rfl) (by simp) ?_
                    refine AllReadyH.cons (o := { dst := some 168, op := Op.call { callee := Callee.value (Operand.func 18), args := #[Operand.tmp 167], argTypes := #[24] }, type := 32, pos := "outright.go:239", after := #[{ on := 5, ground := Ground.data }, { on := 4, ground := Ground.chain }, { on := 4, ground := Ground.guard }], guard := some (4, false) }) rfl (fun K hK => ?_) ?_
                    go_simp
                    (first | (go_at_call 18; (with_reducible refine (RA.out _ DT.out.s.bl).mono ?_); rintro e wP ⟨aP, cP, rfl, hl, hg, hb⟩; have SP := Lib.hid (DT.out.go hb); have LP := Lib.hid hl; have GP := Lib.hid hg; have IP := Lib.hid (IW.out.lo (below_go (Below.drew (Below.refl _ _)) hb)); clear hb hl hg) | (go_at_call 41; (with_reducible refine (PF.out _ _ _ _ _ SP.out.s.bl LP.out GP.out IP.out).mono ?_); rintro e wQ ⟨rfl, hb⟩; have SQ := Lib.hid (SP.out.go hb); clear hb) | (go_at_call 16; (with_reducible refine (AW.out _ SQ.out.s.bl).mono ?_); rintro e wU ⟨rfl, hb⟩; have SU := Lib.hid (SQ.out.go hb); clear hb))
                    go_wp2_with fail
                    refine hK.out _ _ ?_ (fun hHeld => ?_)
                    · (try dsimp only); (with_reducible first | exact SU.out.c7 | exact SQ.out.c7 | exact SP.out.c7 | exact DT.out.c7)
                    clear hK K
                    try simp only [Act.put, List.setIfInBounds_toArray, List.set_cons_zero, List.set_cons_succ]
                    refine wpAnyH_ready (rs := [9]) (by kernel_rfl) (by simp) ?_
                    refine AllReadyH.cons (o := { dst := some 171, op := Op.call { callee := Callee.value (Operand.func 41), args := #[Operand.tmp 168, Operand.tmp 169, Operand.tmp 170], argTypes := #[32, 25, 73] }, type := 4, pos := "outright.go:239", after := #[{ on := 6, ground := Ground.data }, { on := 7, ground := Ground.data }, { on := 8, ground := Ground.data }, { on := 6, ground := Ground.chain }, { on := 4, ground := Ground.guard }], guard := some (4, false) }) rfl (fun K hK => ?_) ?_
                    go_simp
                    (first | (go_at_call 18; (with_reducible refine (RA.out _ DT.out.s.bl).mono ?_); rintro e wP ⟨aP, cP, rfl, hl, hg, hb⟩; have SP := Lib.hid (DT.out.go hb); have LP := Lib.hid hl; have GP := Lib.hid hg; have IP := Lib.hid (IW.out.lo (below_go (Below.drew (Below.refl _ _)) hb)); clear hb hl hg) | (go_at_call 41; (with_reducible refine (PF.out _ _ _ _ _ SP.out.s.bl LP.out GP.out IP.out).mono ?_); rintro e wQ ⟨rfl, hb⟩; have SQ := Lib.hid (SP.out.go hb); clear hb) | (go_at_call 16; (with_reducible refine (AW.out _ SQ.out.s.bl).mono ?_); rintro e wU ⟨rfl, hb⟩; have SU := Lib.hid (SQ.out.go hb); clear hb))
                    go_wp2_with fail
                    refine hK.out _ _ ?_ (fun hHeld => ?_)
                    · (try dsimp only); (with_reducible first | exact SU.out.c7 | exact SQ.out.c7 | exact SP.out.c7 | exact DT.out.c7)
                    clear hK K
                    try simp only [Act.put, List.setIfInBounds_toArray, List.set_cons_zero, List.set_cons_succ]
                    refine wpAnyH_take (i := 10) (oi := { dst := some 172, op := Op.pick (Operand.tmp 166) (Operand.const (Value.bool true)) (Operand.tmp 171), type := 4, pos := "outright.go:239", after := #[{ on := 4, ground := Ground.data }, { on := 9, ground := Ground.data }], guard := none }) (v := ?v_st27awJ_29) rfl (by kernel_rfl) (by kernel_rfl) (by kernel_rfl) (fun _ _ _ h => h) (Or.inl ⟨by rfl, ?y_st27awJ_29⟩) (by assumption) ?_
                    case y_st27awJ_29 => intro w hSw; (try dsimp only at hSw); go_simp; with_reducible rfl
                    try simp only [Act.put, List.setIfInBounds_toArray, List.set_cons_zero, List.set_cons_succ]
                    refine wpAnyH_take (i := 11) (oi := { dst := some 173, op := Op.move (Operand.tmp 172), type := 4, pos := "outright.go:239", after := #[{ on := 10, ground := Ground.data }, { on := 9, ground := Ground.chain }], guard := none }) (v := ?v_st27awJ_30) rfl (by kernel_rfl) (by kernel_rfl) (by kernel_rfl) (fun _ _ _ h => h) (Or.inl ⟨by rfl, ?y_st27awJ_30⟩) (by assumption) ?_
                    case y_st27awJ_30 => intro w hSw; (try dsimp only at hSw); go_simp; with_reducible rfl
                    try simp only [Act.put, List.setIfInBounds_toArray, List.set_cons_zero, List.set_cons_succ]
                    refine wpAnyH_ready (rs := [12]) (by kernel_rfl) (by simp) ?_
                    refine AllReadyH.cons (o := { dst := some 174, op := Op.call { callee := Callee.value (Operand.func 16), args := #[], argTypes := #[] }, type := 4, pos := "outright.go:239", after := #[{ on := 11, ground := Ground.chain }, { on := 11, ground := Ground.guard }], guard := some (11, true) }) rfl (fun K hK => ?_) ?_
                    go_simp
                    (first | (go_at_call 18; (with_reducible refine (RA.out _ DT.out.s.bl).mono ?_); rintro e wP ⟨aP, cP, rfl, hl, hg, hb⟩; have SP := Lib.hid (DT.out.go hb); have LP := Lib.hid hl; have GP := Lib.hid hg; have IP := Lib.hid (IW.out.lo (below_go (Below.drew (Below.refl _ _)) hb)); clear hb hl hg) | (go_at_call 41; (with_reducible refine (PF.out _ _ _ _ _ SP.out.s.bl LP.out GP.out IP.out).mono ?_); rintro e wQ ⟨rfl, hb⟩; have SQ := Lib.hid (SP.out.go hb); clear hb) | (go_at_call 16; (with_reducible refine (AW.out _ SQ.out.s.bl).mono ?_); rintro e wU ⟨rfl, hb⟩; have SU := Lib.hid (SQ.out.go hb); clear hb))
                    go_wp2_with fail
                    refine hK.out _ _ ?_ (fun hHeld => ?_)
                    · (try dsimp only); (with_reducible first | exact SU.out.c7 | exact SQ.out.c7 | exact SP.out.c7 | exact DT.out.c7)
                    clear hK K
                    try simp only [Act.put, List.setIfInBounds_toArray, List.set_cons_zero, List.set_cons_succ]
                    refine wpAnyH_take (i := 13) (oi := { dst := some 175, op := Op.pick (Operand.tmp 173) (Operand.tmp 174) (Operand.const (Value.bool false)), type := 4, pos := "outright.go:239", after := #[{ on := 11, ground := Ground.data }, { on := 12, ground := Ground.data }], guard := none }) (v := ?v_st27awJ_31) rfl (by kernel_rfl) (by kernel_rfl) (by kernel_rfl) (fun _ _ _ h => h) (Or.inl ⟨by rfl, ?y_st27awJ_31⟩) (by assumption) ?_
                    case y_st27awJ_31 => intro w hSw; (try dsimp only at hSw); go_simp; with_reducible rfl
                    try simp only [Act.put, List.setIfInBounds_toArray, List.set_cons_zero, List.set_cons_succ]
                    refine wpAnyH_take (i := 14) (oi := { dst := some 8, op := Op.assign (Operand.tmp 175), type := 4, pos := "outright.go:239", after := #[{ on := 13, ground := Ground.data }, { on := 12, ground := Ground.chain }, { on := 0, ground := Ground.phase }, { on := 1, ground := Ground.phase }, { on := 2, ground := Ground.phase }, { on := 3, ground := Ground.phase }, { on := 4, ground := Ground.phase }, { on := 5, ground := Ground.phase }, { on := 6, ground := Ground.phase }, { on := 7, ground := Ground.phase }, { on := 8, ground := Ground.phase }, { on := 9, ground := Ground.phase }, { on := 10, ground := Ground.phase }, { on := 11, ground := Ground.phase }, { on := 12, ground := Ground.phase }, { on := 13, ground := Ground.phase }], guard := none }) (v := ?v_st27awJ_32) rfl (by kernel_rfl) (by kernel_rfl) (by kernel_rfl) (fun _ _ _ h => h) (Or.inl ⟨by rfl, ?y_st27awJ_32⟩) (by assumption) ?_
                    case y_st27awJ_32 => intro w hSw; (try dsimp only at hSw); go_simp; with_reducible rfl
                    try simp only [Act.put, List.setIfInBounds_toArray, List.set_cons_zero, List.set_cons_succ]
                    refine wpAnyH_done (by kernel_rfl) ?_ _
                    rotate_left 1
                    exact AllReadyH.nil
                    exact AllReadyH.nil
                    exact AllReadyH.nil
                    all_goals
                      go_wp2_with fail
                      go_returns
                      exact ⟨rfl, SU.out.s.bl⟩
                  · have hza : 0 < r.ls.length := List.length_pos_iff.2 hls
                    clear HPF
                    generalize fewT xs u xs.length = FW at *
                    generalize hPV : prvB r FW d = pv at *
                    clear hPV hls
                    go_wp2_with fail
                    refine wp_region_held_drew (S := (fun W => (W.cell? ⟨w.heap.size, 0, none⟩ = some (.int .i64 r.rows) ∧ W.cell? ⟨w.heap.size, 1, none⟩ = some (.int .i64 r.mid) ∧ W.cell? ⟨w.heap.size, 2, none⟩ = some (.int .i64 r.gap) ∧ W.cell? ⟨w.heap.size, 3, none⟩ = some (.int .i64 r.reach) ∧ W.cell? ⟨w.heap.size, 4, none⟩ = some (.slice r.la r.ls.length r.lc)) ∧ W.cell? ⟨gC, 0, none⟩ = some (.int .i64 d.st) ∧ W.cell? ⟨gC, 1, none⟩ = some (.int .i64 d.dr))) (by kernel_rfl) ?_ (fun hHeld => ?_)
                    · (try dsimp only); (with_reducible first | exact SU.out.c7 | exact SQ.out.c7 | exact SP.out.c7 | exact DT.out.c7)
                    refine wpAnyH_take (i := 0) (oi := { dst := some 162, op := Op.fieldAddr 24 (Operand.tmp 4) 4, type := 0, pos := "outright.go:239", after := #[], guard := none }) (v := ?v_st27bwJ_33) rfl (by kernel_rfl) (by kernel_rfl) (by kernel_rfl) (fun _ _ _ h => h) (Or.inl ⟨by rfl, ?y_st27bwJ_33⟩) (by assumption) ?_
                    case y_st27bwJ_33 => intro w hSw; (try dsimp only at hSw); go_simp; with_reducible rfl
                    try simp only [Act.put, List.setIfInBounds_toArray, List.set_cons_zero, List.set_cons_succ]
                    refine wpAnyH_take (i := 1) (oi := { dst := some 163, op := Op.load 22 (Operand.tmp 162), type := 22, pos := "outright.go:239", after := #[{ on := 0, ground := Ground.data }], guard := none }) (v := ?v_st27bwJ_34) rfl (by kernel_rfl) (by kernel_rfl) (by kernel_rfl) (fun _ _ _ h => h) (Or.inl ⟨by rfl, ?y_st27bwJ_34⟩) (by assumption) ?_
                    case y_st27bwJ_34 => intro w hSw; (try dsimp only at hSw); go_simp; with_reducible rfl
                    try simp only [Act.put, List.setIfInBounds_toArray, List.set_cons_zero, List.set_cons_succ]
                    refine wpAnyH_take (i := 2) (oi := { dst := some 164, op := Op.call { callee := Callee.builtin Builtin.len, args := #[Operand.tmp 163], argTypes := #[22] }, type := 3, pos := "outright.go:239", after := #[{ on := 1, ground := Ground.data }], guard := none }) (v := ?v_st27bwJ_35) rfl (by kernel_rfl) (by kernel_rfl) (by kernel_rfl) (fun _ _ _ h => h) (Or.inl ⟨by rfl, ?y_st27bwJ_35⟩) (by assumption) ?_
                    case y_st27bwJ_35 => intro w hSw; (try dsimp only at hSw); go_simp; with_reducible rfl
                    try simp only [Act.put, List.setIfInBounds_toArray, List.set_cons_zero, List.set_cons_succ]
                    refine wpAnyH_take (i := 3) (oi := { dst := some 165, op := Op.binOp BinOp.gtr 3 (Operand.tmp 164) (Operand.const (Value.int IntKind.i64 0)) 3, type := 4, pos := "outright.go:239", after := #[{ on := 2, ground := Ground.data }], guard := none }) (v := ?v_st27bwJ_36) rfl (by kernel_rfl) (by kernel_rfl) (by kernel_rfl) (fun _ _ _ h => h) (Or.inl ⟨by rfl, ?y_st27bwJ_36⟩) (by assumption) ?_
                    case y_st27bwJ_36 => intro w hSw; (try dsimp only at hSw); go_simp; with_reducible rfl
                    try simp only [Act.put, List.setIfInBounds_toArray, List.set_cons_zero, List.set_cons_succ]
                    refine wpAnyH_take (i := 4) (oi := { dst := some 166, op := Op.move (Operand.tmp 165), type := 4, pos := "outright.go:239", after := #[{ on := 3, ground := Ground.data }], guard := none }) (v := ?v_st27bwJ_37) rfl (by kernel_rfl) (by kernel_rfl) (by kernel_rfl) (fun _ _ _ h => h) (Or.inl ⟨by rfl, ?y_st27bwJ_37⟩) (by assumption) ?_
                    case y_st27bwJ_37 => intro w hSw; (try dsimp only at hSw); go_simp; with_reducible rfl
                    try simp only [Act.put, List.setIfInBounds_toArray, List.set_cons_zero, List.set_cons_succ]
                    refine wpAnyH_take (i := 5) (oi := { dst := some 167, op := Op.load 24 (Operand.tmp 4), type := 24, pos := "outright.go:239", after := #[{ on := 4, ground := Ground.guard }], guard := some (4, false) }) (v := undef) rfl (by kernel_rfl) (by kernel_rfl) (by kernel_rfl) (fun _ _ _ h => h) (Or.inr ⟨by rfl, rfl⟩) (by assumption) ?_
                    try simp only [Act.put, List.setIfInBounds_toArray, List.set_cons_zero, List.set_cons_succ]
                    refine wpAnyH_take (i := 6) (oi := { dst := some 168, op := Op.call { callee := Callee.value (Operand.func 18), args := #[Operand.tmp 167], argTypes := #[24] }, type := 32, pos := "outright.go:239", after := #[{ on := 5, ground := Ground.data }, { on := 4, ground := Ground.chain }, { on := 4, ground := Ground.guard }], guard := some (4, false) }) (v := undef) rfl (by kernel_rfl) (by kernel_rfl) (by kernel_rfl) (fun _ _ _ h => h) (Or.inr ⟨by rfl, rfl⟩) (by assumption) ?_
                    try simp only [Act.put, List.setIfInBounds_toArray, List.set_cons_zero, List.set_cons_succ]
                    refine wpAnyH_take (i := 7) (oi := { dst := some 169, op := Op.move (Operand.tmp 20), type := 25, pos := "outright.go:239", after := #[{ on := 4, ground := Ground.guard }], guard := some (4, false) }) (v := undef) rfl (by kernel_rfl) (by kernel_rfl) (by kernel_rfl) (fun _ _ _ h => h) (Or.inr ⟨by rfl, rfl⟩) (by assumption) ?_
                    try simp only [Act.put, List.setIfInBounds_toArray, List.set_cons_zero, List.set_cons_succ]
                    refine wpAnyH_take (i := 8) (oi := { dst := some 170, op := Op.load 73 (Operand.tmp 9), type := 73, pos := "outright.go:239", after := #[{ on := 4, ground := Ground.guard }], guard := some (4, false) }) (v := undef) rfl (by kernel_rfl) (by kernel_rfl) (by kernel_rfl) (fun _ _ _ h => h) (Or.inr ⟨by rfl, rfl⟩) (by assumption) ?_
                    try simp only [Act.put, List.setIfInBounds_toArray, List.set_cons_zero, List.set_cons_succ]
                    refine wpAnyH_take (i := 9) (oi := { dst := some 171, op := Op.call { callee := Callee.value (Operand.func 41), args := #[Operand.tmp 168, Operand.tmp 169, Operand.tmp 170], argTypes := #[32, 25, 73] }, type := 4, pos := "outright.go:239", after := #[{ on := 6, ground := Ground.data }, { on := 7, ground := Ground.data }, { on := 8, ground := Ground.data }, { on := 6, ground := Ground.chain }, { on := 4, ground := Ground.guard }], guard := some (4, false) }) (v := undef) rfl (by kernel_rfl) (by kernel_rfl) (by kernel_rfl) (fun _ _ _ h => h) (Or.inr ⟨by rfl, rfl⟩) (by assumption) ?_
                    try simp only [Act.put, List.setIfInBounds_toArray, List.set_cons_zero, List.set_cons_succ]
                    refine wpAnyH_take (i := 10) (oi := { dst := some 172, op := Op.pick (Operand.tmp 166) (Operand.const (Value.bool true)) (Operand.tmp 171), type := 4, pos := "outright.go:239", after := #[{ on := 4, ground := Ground.data }, { on := 9, ground := Ground.data }], guard := none }) (v := ?v_st27bwJ_38) rfl (by kernel_rfl) (by kernel_rfl) (by kernel_rfl) (fun _ _ _ h => h) (Or.inl ⟨by rfl, ?y_st27bwJ_38⟩) (by assumption) ?_
                    case y_st27bwJ_38 => intro w hSw; (try dsimp only at hSw); go_simp; with_reducible rfl
                    try simp only [Act.put, List.setIfInBounds_toArray, List.set_cons_zero, List.set_cons_succ]
                    refine wpAnyH_take (i := 11) (oi := { dst := some 173, op := Op.move (Operand.tmp 172), type := 4, pos := "outright.go:239", after := #[{ on := 10, ground := Ground.data }, { on := 9, ground := Ground.chain }], guard := none }) (v := ?v_st27bwJ_39) rfl (by kernel_rfl) (by kernel_rfl) (by kernel_rfl) (fun _ _ _ h => h) (Or.inl ⟨by rfl, ?y_st27bwJ_39⟩) (by assumption) ?_
                    case y_st27bwJ_39 => intro w hSw; (try dsimp only at hSw); go_simp; with_reducible rfl
                    try simp only [Act.put, List.setIfInBounds_toArray, List.set_cons_zero, List.set_cons_succ]
                    refine wpAnyH_ready (rs := [12]) (by kernel_rfl) (by simp) ?_
                    refine AllReadyH.cons (o := { dst := some 174, op := Op.call { callee := Callee.value (Operand.func 16), args := #[], argTypes := #[] }, type := 4, pos := "outright.go:239", after := #[{ on := 11, ground := Ground.chain }, { on := 11, ground := Ground.guard }], guard := some (11, true) }) rfl (fun K hK => ?_) ?_
                    go_simp
                    (first | (go_at_call 18; (with_reducible refine (RA.out _ DT.out.s.bl).mono ?_); rintro e wP ⟨aP, cP, rfl, hl, hg, hb⟩; have SP := Lib.hid (DT.out.go hb); have LP := Lib.hid hl; have GP := Lib.hid hg; have IP := Lib.hid (IW.out.lo (below_go (Below.drew (Below.refl _ _)) hb)); clear hb hl hg) | (go_at_call 41; (with_reducible refine (PF.out _ _ _ _ _ SP.out.s.bl LP.out GP.out IP.out).mono ?_); rintro e wQ ⟨rfl, hb⟩; have SQ := Lib.hid (SP.out.go hb); clear hb) | (go_at_call 16; (with_reducible refine (AW.out _ DT.out.s.bl).mono ?_); rintro e wU ⟨rfl, hb⟩; have SU := Lib.hid (DT.out.go hb); clear hb))
                    go_wp2_with fail
                    refine hK.out _ _ ?_ (fun hHeld => ?_)
                    · (try dsimp only); (with_reducible first | exact SU.out.c7 | exact SQ.out.c7 | exact SP.out.c7 | exact DT.out.c7)
                    clear hK K
                    try simp only [Act.put, List.setIfInBounds_toArray, List.set_cons_zero, List.set_cons_succ]
                    refine wpAnyH_take (i := 13) (oi := { dst := some 175, op := Op.pick (Operand.tmp 173) (Operand.tmp 174) (Operand.const (Value.bool false)), type := 4, pos := "outright.go:239", after := #[{ on := 11, ground := Ground.data }, { on := 12, ground := Ground.data }], guard := none }) (v := ?v_st27bwJ_40) rfl (by kernel_rfl) (by kernel_rfl) (by kernel_rfl) (fun _ _ _ h => h) (Or.inl ⟨by rfl, ?y_st27bwJ_40⟩) (by assumption) ?_
                    case y_st27bwJ_40 => intro w hSw; (try dsimp only at hSw); go_simp; with_reducible rfl
                    try simp only [Act.put, List.setIfInBounds_toArray, List.set_cons_zero, List.set_cons_succ]
                    refine wpAnyH_take (i := 14) (oi := { dst := some 8, op := Op.assign (Operand.tmp 175), type := 4, pos := "outright.go:239", after := #[{ on := 13, ground := Ground.data }, { on := 12, ground := Ground.chain }, { on := 0, ground := Ground.phase }, { on := 1, ground := Ground.phase }, { on := 2, ground := Ground.phase }, { on := 3, ground := Ground.phase }, { on := 4, ground := Ground.phase }, { on := 5, ground := Ground.phase }, { on := 6, ground := Ground.phase }, { on := 7, ground := Ground.phase }, { on := 8, ground := Ground.phase }, { on := 9, ground := Ground.phase }, { on := 10, ground := Ground.phase }, { on := 11, ground := Ground.phase }, { on := 12, ground := Ground.phase }, { on := 13, ground := Ground.phase }], guard := none }) (v := ?v_st27bwJ_41) rfl (by kernel_rfl) (by kernel_rfl) (by kernel_rfl) (fun _ _ _ h => h) (Or.inl ⟨by rfl, ?y_st27bwJ_41⟩) (by assumption) ?_
                    case y_st27bwJ_41 => intro w hSw; (try dsimp only at hSw); go_simp; with_reducible rfl
                    try simp only [Act.put, List.setIfInBounds_toArray, List.set_cons_zero, List.set_cons_succ]
                    refine wpAnyH_done (by kernel_rfl) ?_ _
                    rotate_left 1
                    exact AllReadyH.nil
                    all_goals
                      go_wp2_with fail
                      go_returns
                      exact ⟨rfl, SU.out.s.bl⟩
      · obtain ⟨h9, hf0, hpv⟩ := cvt_fail hE hcv
        have CVF := Lib.hid (fun W a' c' aX cX hb g1 g2 g3 => CV.out W a' c' aX cX false hb g1 g2 g3)
        have CVT := Lib.hid (fun W a' c' aX cX hb g1 g2 g3 => CV.out W a' c' aX cX true hb g1 g2 g3)
        have PL := Lib.hid (fun W a' c' aX cX hb g1 g2 g3 => PV.out xs l W a' c' aX cX hb g1 g2 g3 (by omega))
        rw [h9] at CVF
        rw [hpv l] at PL
        generalize (cvtR r xs false).1 = d at *
        generalize (cvtR r xs true).1 = d' at *
        generalize (cvtR r xs true).2 = f0 at *
        clear hE hok hL hX hN hT hthin hpv hcv h9 CV PV hn16 hx15
        go_enter Tryd.func12, Tryd.ntmps12
        go_wp2_with fail
        refine (TH.out _).mono ?_
        rintro e w1 ⟨rfl, hb⟩
        have S1 := Lib.hid (S0.out.go hb)
        obtain ⟨r0, r1, r2, r3, r4⟩ := S1.out.c
        clear hb S0
        go_wp2_with fail
        refine (PI.out _ S1.out.bl).mono ?_
        rintro e w2 ⟨rfl, hb⟩
        have S2 := Lib.hid (S1.out.go hb)
        clear hb S1 r0 r1 r2 r3 r4
        obtain ⟨r0, r1, r2, r3, r4⟩ := S2.out.c
        go_wp2_with fail
        refine (RA.out _ S2.out.bl).mono ?_
        rintro e w3 ⟨a3, c3, rfl, hl, hg, hb⟩
        have S3 := Lib.hid (S2.out.go hb)
        have L3 := Lib.hid hl; have G3 := Lib.hid hg
        clear hb S2 hl hg r0 r1 r2 r3 r4
        go_wp2_with fail
        refine (LX.out _ S3.out.bl).mono ?_
        rintro e w4 ⟨a4, c4, rfl, hi, hb⟩
        have S4 := Lib.hid (S3.out.go hb)
        have L4 := Lib.hid (L3.out.lo hb); have G4 := Lib.hid (fun g o e => Nat.lt_of_lt_of_le (G3.out g o e) hb.size); have X4 := Lib.hid hi
        clear hb S3 hi L3 G3
        go_wp2_with fail
        refine (CVF.out _ _ _ _ _ S4.out.bl L4.out G4.out X4.out).mono ?_
        rintro e w5 ⟨rfl, hb⟩
        have S5 := Lib.hid (St3.mk ((S4.out.go hb).go (below_al w5 (.cells #[.int .i64 d.st, .int .i64 d.dr] 73))) (Blk.new w5 #[.int .i64 d.st, .int .i64 d.dr] 73))
        clear hb S4 L4 G4 X4 CVF
        obtain ⟨r0, r1, r2, r3, r4⟩ := S5.out.s.c
        go_wp2_with fail
        refine (RA.out _ S5.out.s.bl).mono ?_
        rintro e w6 ⟨a6, c6, rfl, hl, hg, hb⟩
        have S6 := Lib.hid (S5.out.go hb)
        have L6 := Lib.hid hl; have G6 := Lib.hid hg
        clear hb S5 hl hg r0 r1 r2 r3 r4
        go_wp2_with fail
        refine (LX.out _ S6.out.s.bl).mono ?_
        rintro e w7 ⟨a7, c7, rfl, hi, hb⟩
        have S7 := Lib.hid (S6.out.go hb)
        have L7 := Lib.hid (L6.out.lo hb); have G7 := Lib.hid (fun g o e => Nat.lt_of_lt_of_le (G6.out g o e) hb.size); have X7 := Lib.hid hi
        clear hb S6 hi L6 G6
        go_wp2_with fail
        refine (CVT.out _ _ _ _ _ S7.out.s.bl L7.out G7.out X7.out).mono ?_
        rintro e w8 ⟨rfl, hb⟩
        have S8 := Lib.hid ((S7.out.go hb).go (below_al w8 (.cells #[.int .i64 d'.st, .int .i64 d'.dr] 73)))
        clear hb S7 L7 G7 X7 CVT
        generalize w5.heap.size = gC at *
        have D9 := Lib.hid (S8.out.s.go (Below.drew (Below.refl _ _)))
        rcases hf0 with rfl | rfl
        · go_wp2_with fail
          refine wp_region_held_drew (S := (fun W => (W.cell? ⟨w.heap.size, 0, none⟩ = some (.int .i64 r.rows) ∧ W.cell? ⟨w.heap.size, 1, none⟩ = some (.int .i64 r.mid) ∧ W.cell? ⟨w.heap.size, 2, none⟩ = some (.int .i64 r.gap) ∧ W.cell? ⟨w.heap.size, 3, none⟩ = some (.int .i64 r.reach) ∧ W.cell? ⟨w.heap.size, 4, none⟩ = some (.slice r.la r.ls.length r.lc)) ∧ W.cell? ⟨w.heap.size + 1, 0, none⟩ = some (.int .i64 l.st) ∧ W.cell? ⟨w.heap.size + 1, 1, none⟩ = some (.int .i64 l.dr))) (by kernel_rfl) ?_ (fun hHeld => ?_)
          · (try dsimp only); (with_reducible first | exact SE.out.c7 | exact SD.out.c7 | exact SB.out.c7 | exact SA.out.c7 | exact D9.out.c7)
          refine wpAnyH_take (i := 0) (oi := { dst := some 51, op := Op.move (Operand.tmp 10), type := 28, pos := "outright.go:215", after := #[], guard := none }) (v := ?v_st6a_0) rfl (by kernel_rfl) (by kernel_rfl) (by kernel_rfl) (fun _ _ _ h => h) (Or.inl ⟨by rfl, ?y_st6a_0⟩) (by assumption) ?_
          case y_st6a_0 => intro w hSw; (try dsimp only at hSw); go_simp; with_reducible rfl
          try simp only [Act.put, List.setIfInBounds_toArray, List.set_cons_zero, List.set_cons_succ]
          refine wpAnyH_take (i := 1) (oi := { dst := some 52, op := Op.binOp BinOp.eql 28 (Operand.tmp 51) (Operand.const (Value.int IntKind.i64 9)) 28, type := 4, pos := "outright.go:215", after := #[{ on := 0, ground := Ground.data }], guard := none }) (v := ?v_st6a_1) rfl (by kernel_rfl) (by kernel_rfl) (by kernel_rfl) (fun _ _ _ h => h) (Or.inl ⟨by rfl, ?y_st6a_1⟩) (by assumption) ?_
          case y_st6a_1 => intro w hSw; (try dsimp only at hSw); go_simp; with_reducible rfl
          try simp only [Act.put, List.setIfInBounds_toArray, List.set_cons_zero, List.set_cons_succ]
          refine wpAnyH_take (i := 2) (oi := { dst := some 53, op := Op.move (Operand.tmp 52), type := 4, pos := "outright.go:215", after := #[{ on := 1, ground := Ground.data }], guard := none }) (v := ?v_st6a_2) rfl (by kernel_rfl) (by kernel_rfl) (by kernel_rfl) (fun _ _ _ h => h) (Or.inl ⟨by rfl, ?y_st6a_2⟩) (by assumption) ?_
          case y_st6a_2 => intro w hSw; (try dsimp only at hSw); go_simp; with_reducible rfl
          try simp only [Act.put, List.setIfInBounds_toArray, List.set_cons_zero, List.set_cons_succ]
          refine wpAnyH_take (i := 3) (oi := { dst := some 54, op := Op.move (Operand.tmp 12), type := 28, pos := "outright.go:215", after := #[{ on := 2, ground := Ground.guard }], guard := some (2, true) }) (v := ?v_st6a_3) rfl (by kernel_rfl) (by kernel_rfl) (by kernel_rfl) (fun _ _ _ h => h) (Or.inl ⟨by rfl, ?y_st6a_3⟩) (by assumption) ?_
          case y_st6a_3 => intro w hSw; (try dsimp only at hSw); go_simp; with_reducible rfl
          try simp only [Act.put, List.setIfInBounds_toArray, List.set_cons_zero, List.set_cons_succ]
          refine wpAnyH_take (i := 4) (oi := { dst := some 55, op := Op.binOp BinOp.eql 28 (Operand.tmp 54) (Operand.const (Value.int IntKind.i64 0)) 28, type := 4, pos := "outright.go:215", after := #[{ on := 3, ground := Ground.data }, { on := 2, ground := Ground.guard }], guard := some (2, true) }) (v := ?v_st6a_4) rfl (by kernel_rfl) (by kernel_rfl) (by kernel_rfl) (fun _ _ _ h => h) (Or.inl ⟨by rfl, ?y_st6a_4⟩) (by assumption) ?_
          case y_st6a_4 => intro w hSw; (try dsimp only at hSw); go_simp; with_reducible rfl
          try simp only [Act.put, List.setIfInBounds_toArray, List.set_cons_zero, List.set_cons_succ]
          refine wpAnyH_take (i := 5) (oi := { dst := some 56, op := Op.move (Operand.tmp 55), type := 4, pos := "outright.go:215", after := #[{ on := 4, ground := Ground.data }, { on := 2, ground := Ground.chain }, { on := 2, ground := Ground.guard }], guard := some (2, true) }) (v := ?v_st6a_5) rfl (by kernel_rfl) (by kernel_rfl) (by kernel_rfl) (fun _ _ _ h => h) (Or.inl ⟨by rfl, ?y_st6a_5⟩) (by assumption) ?_
          case y_st6a_5 => intro w hSw; (try dsimp only at hSw); go_simp; with_reducible rfl
          try simp only [Act.put, List.setIfInBounds_toArray, List.set_cons_zero, List.set_cons_succ]
          refine wpAnyH_take (i := 6) (oi := { dst := some 57, op := Op.move (Operand.tmp 12), type := 28, pos := "outright.go:215", after := #[{ on := 5, ground := Ground.guard }], guard := some (5, false) }) (v := undef) rfl (by kernel_rfl) (by kernel_rfl) (by kernel_rfl) (fun _ _ _ h => h) (Or.inr ⟨by rfl, rfl⟩) (by assumption) ?_
          try simp only [Act.put, List.setIfInBounds_toArray, List.set_cons_zero, List.set_cons_succ]
          refine wpAnyH_take (i := 7) (oi := { dst := some 58, op := Op.binOp BinOp.eql 28 (Operand.tmp 57) (Operand.const (Value.int IntKind.i64 9)) 28, type := 4, pos := "outright.go:215", after := #[{ on := 6, ground := Ground.data }, { on := 5, ground := Ground.guard }], guard := some (5, false) }) (v := undef) rfl (by kernel_rfl) (by kernel_rfl) (by kernel_rfl) (fun _ _ _ h => h) (Or.inr ⟨by rfl, rfl⟩) (by assumption) ?_
          try simp only [Act.put, List.setIfInBounds_toArray, List.set_cons_zero, List.set_cons_succ]
          refine wpAnyH_take (i := 8) (oi := { dst := some 59, op := Op.pick (Operand.tmp 56) (Operand.const (Value.bool true)) (Operand.tmp 58), type := 4, pos := "outright.go:215", after := #[{ on := 5, ground := Ground.data }, { on := 7, ground := Ground.data }, { on := 2, ground := Ground.guard }], guard := some (2, true) }) (v := ?v_st6a_6) rfl (by kernel_rfl) (by kernel_rfl) (by kernel_rfl) (fun _ _ _ h => h) (Or.inl ⟨by rfl, ?y_st6a_6⟩) (by assumption) ?_
          case y_st6a_6 => intro w hSw; (try dsimp only at hSw); go_simp; with_reducible rfl
          try simp only [Act.put, List.setIfInBounds_toArray, List.set_cons_zero, List.set_cons_succ]
          refine wpAnyH_take (i := 9) (oi := { dst := some 60, op := Op.pick (Operand.tmp 53) (Operand.tmp 59) (Operand.const (Value.bool false)), type := 4, pos := "outright.go:215", after := #[{ on := 2, ground := Ground.data }, { on := 8, ground := Ground.data }], guard := none }) (v := ?v_st6a_7) rfl (by kernel_rfl) (by kernel_rfl) (by kernel_rfl) (fun _ _ _ h => h) (Or.inl ⟨by rfl, ?y_st6a_7⟩) (by assumption) ?_
          case y_st6a_7 => intro w hSw; (try dsimp only at hSw); go_simp; with_reducible rfl
          try simp only [Act.put, List.setIfInBounds_toArray, List.set_cons_zero, List.set_cons_succ]
          refine wpAnyH_take (i := 10) (oi := { dst := some 61, op := Op.move (Operand.tmp 60), type := 4, pos := "outright.go:215", after := #[{ on := 9, ground := Ground.data }, { on := 5, ground := Ground.chain }], guard := none }) (v := ?v_st6a_8) rfl (by kernel_rfl) (by kernel_rfl) (by kernel_rfl) (fun _ _ _ h => h) (Or.inl ⟨by rfl, ?y_st6a_8⟩) (by assumption) ?_
          case y_st6a_8 => intro w hSw; (try dsimp only at hSw); go_simp; with_reducible rfl
          try simp only [Act.put, List.setIfInBounds_toArray, List.set_cons_zero, List.set_cons_succ]
          refine wpAnyH_take (i := 11) (oi := { dst := some 62, op := Op.load 24 (Operand.tmp 4), type := 24, pos := "outright.go:215", after := #[{ on := 10, ground := Ground.guard }], guard := some (10, true) }) (v := ?v_st6a_9) rfl (by kernel_rfl) (by kernel_rfl) (by kernel_rfl) (fun _ _ _ h => h) (Or.inl ⟨by rfl, ?y_st6a_9⟩) (by assumption) ?_
          case y_st6a_9 => intro w hSw; (try dsimp only at hSw); go_simp; with_reducible rfl
          try simp only [Act.put, List.setIfInBounds_toArray, List.set_cons_zero, List.set_cons_succ]
          refine wpAnyH_take (i := 13) (oi := { dst := some 64, op := Op.move (Operand.tmp 1), type := 25, pos := "outright.go:215", after := #[{ on := 10, ground := Ground.guard }], guard := some (10, true) }) (v := ?v_st6a_10) rfl (by kernel_rfl) (by kernel_rfl) (by kernel_rfl) (fun _ _ _ h => h) (Or.inl ⟨by rfl, ?y_st6a_10⟩) (by assumption) ?_
          case y_st6a_10 => intro w hSw; (try dsimp only at hSw); go_simp; with_reducible rfl
          try simp only [Act.put, List.setIfInBounds_toArray, List.set_cons_zero, List.set_cons_succ]
          refine wpAnyH_take (i := 15) (oi := { dst := some 66, op := Op.fieldAddr 72 (Operand.tmp 6) 0, type := 0, pos := "outright.go:215", after := #[{ on := 10, ground := Ground.guard }], guard := some (10, true) }) (v := ?v_st6a_11) rfl (by kernel_rfl) (by kernel_rfl) (by kernel_rfl) (fun _ _ _ h => h) (Or.inl ⟨by rfl, ?y_st6a_11⟩) (by assumption) ?_
          case y_st6a_11 => intro w hSw; (try dsimp only at hSw); go_simp; with_reducible rfl
          try simp only [Act.put, List.setIfInBounds_toArray, List.set_cons_zero, List.set_cons_succ]
          refine wpAnyH_take (i := 16) (oi := { dst := some 67, op := Op.load 3 (Operand.tmp 66), type := 3, pos := "outright.go:215", after := #[{ on := 15, ground := Ground.data }, { on := 10, ground := Ground.guard }], guard := some (10, true) }) (v := ?v_st6a_12) rfl (by kernel_rfl) (by kernel_rfl) (by kernel_rfl) (fun _ _ _ h => h) (Or.inl ⟨by rfl, ?y_st6a_12⟩) (by assumption) ?_
          case y_st6a_12 => intro w hSw; (try dsimp only at hSw); go_simp; with_reducible rfl
          try simp only [Act.put, List.setIfInBounds_toArray, List.set_cons_zero, List.set_cons_succ]
          refine wpAnyH_take (i := 17) (oi := { dst := some 68, op := Op.fieldAddr 72 (Operand.tmp 6) 1, type := 0, pos := "outright.go:215", after := #[{ on := 10, ground := Ground.guard }], guard := some (10, true) }) (v := ?v_st6a_13) rfl (by kernel_rfl) (by kernel_rfl) (by kernel_rfl) (fun _ _ _ h => h) (Or.inl ⟨by rfl, ?y_st6a_13⟩) (by assumption) ?_
          case y_st6a_13 => intro w hSw; (try dsimp only at hSw); go_simp; with_reducible rfl
          try simp only [Act.put, List.setIfInBounds_toArray, List.set_cons_zero, List.set_cons_succ]
          refine wpAnyH_take (i := 18) (oi := { dst := some 69, op := Op.load 3 (Operand.tmp 68), type := 3, pos := "outright.go:215", after := #[{ on := 17, ground := Ground.data }, { on := 10, ground := Ground.guard }], guard := some (10, true) }) (v := ?v_st6a_14) rfl (by kernel_rfl) (by kernel_rfl) (by kernel_rfl) (fun _ _ _ h => h) (Or.inl ⟨by rfl, ?y_st6a_14⟩) (by assumption) ?_
          case y_st6a_14 => intro w hSw; (try dsimp only at hSw); go_simp; with_reducible rfl
          try simp only [Act.put, List.setIfInBounds_toArray, List.set_cons_zero, List.set_cons_succ]
          refine wpAnyH_take (i := 19) (oi := { dst := some 70, op := Op.build 73 #[(0, Operand.tmp 67), (1, Operand.tmp 69)], type := 73, pos := "outright.go:215", after := #[{ on := 16, ground := Ground.data }, { on := 18, ground := Ground.data }, { on := 10, ground := Ground.guard }], guard := some (10, true) }) (v := ?v_st6a_15) rfl (by kernel_rfl) (by kernel_rfl) (by kernel_rfl) (fun _ _ _ h => h) (Or.inl ⟨by rfl, ?y_st6a_15⟩) (by assumption) ?_
          case y_st6a_15 => intro w hSw; (try dsimp only at hSw); go_simp; with_reducible rfl
          try simp only [Act.put, List.setIfInBounds_toArray, List.set_cons_zero, List.set_cons_succ]
          refine wpAnyH_ready (rs := [12]) (by kernel_rfl) (by simp) ?_
          refine AllReadyH.cons (o := { dst := some 63, op := Op.call { callee := Callee.value (Operand.func 18), args := #[Operand.tmp 62], argTypes := #[24] }, type := 32, pos := "outright.go:215", after := #[{ on := 11, ground := Ground.data }, { on := 10, ground := Ground.chain }, { on := 10, ground := Ground.guard }], guard := some (10, true) }) rfl (fun K hK => ?_) ?_
          go_simp
          (first | (go_at_call 18; (with_reducible refine (RA.out _ D9.out.bl).mono ?_); rintro e wA ⟨aR, cR, rfl, hl, hg, hb⟩; have SA := Lib.hid (D9.out.go hb); have LA := Lib.hid hl; have GA := Lib.hid hg; clear hb hl hg) | (go_at_call 20; (with_reducible refine (LX.out _ SA.out.bl).mono ?_); rintro e wB ⟨aX, cX, rfl, hi, hb⟩; have SB := Lib.hid (SA.out.go hb); have LB := Lib.hid (LA.out.lo hb); have GB := Lib.hid (fun g o e => Nat.lt_of_lt_of_le (GA.out g o e) hb.size); have XB := Lib.hid hi; clear hb hi) | (go_at_call 41; (with_reducible refine (PL.out _ _ _ _ _ SB.out.bl LB.out GB.out XB.out).mono ?_); rintro e wD ⟨rfl, hb⟩; have SD := Lib.hid (SB.out.go hb); clear hb) | (go_at_call 16; (with_reducible refine (AW.out _ SD.out.bl).mono ?_); rintro e wE ⟨rfl, hb⟩; have SE := Lib.hid (SD.out.go hb); clear hb))
          go_wp2_with fail
          refine hK.out _ _ ?_ (fun hHeld => ?_)
          · (try dsimp only); (with_reducible first | exact SE.out.c7 | exact SD.out.c7 | exact SB.out.c7 | exact SA.out.c7 | exact D9.out.c7)
          clear hK K
          try simp only [Act.put, List.setIfInBounds_toArray, List.set_cons_zero, List.set_cons_succ]
          refine wpAnyH_ready (rs := [14]) (by kernel_rfl) (by simp) ?_
          refine AllReadyH.cons (o := { dst := some 65, op := Op.call { callee := Callee.value (Operand.func 20), args := #[Operand.tmp 64], argTypes := #[25] }, type := 25, pos := "outright.go:215", after := #[{ on := 13, ground := Ground.data }, { on := 12, ground := Ground.chain }, { on := 10, ground := Ground.guard }], guard := some (10, true) }) rfl (fun K hK => ?_) ?_
          go_simp
          (first | (go_at_call 18; (with_reducible refine (RA.out _ D9.out.bl).mono ?_); rintro e wA ⟨aR, cR, rfl, hl, hg, hb⟩; have SA := Lib.hid (D9.out.go hb); have LA := Lib.hid hl; have GA := Lib.hid hg; clear hb hl hg) | (go_at_call 20; (with_reducible refine (LX.out _ SA.out.bl).mono ?_); rintro e wB ⟨aX, cX, rfl, hi, hb⟩; have SB := Lib.hid (SA.out.go hb); have LB := Lib.hid (LA.out.lo hb); have GB := Lib.hid (fun g o e => Nat.lt_of_lt_of_le (GA.out g o e) hb.size); have XB := Lib.hid hi; clear hb hi) | (go_at_call 41; (with_reducible refine (PL.out _ _ _ _ _ SB.out.bl LB.out GB.out XB.out).mono ?_); rintro e wD ⟨rfl, hb⟩; have SD := Lib.hid (SB.out.go hb); clear hb) | (go_at_call 16; (with_reducible refine (AW.out _ SD.out.bl).mono ?_); rintro e wE ⟨rfl, hb⟩; have SE := Lib.hid (SD.out.go hb); clear hb))
          go_wp2_with fail
          refine hK.out _ _ ?_ (fun hHeld => ?_)
          · (try dsimp only); (with_reducible first | exact SE.out.c7 | exact SD.out.c7 | exact SB.out.c7 | exact SA.out.c7 | exact D9.out.c7)
          clear hK K
          try simp only [Act.put, List.setIfInBounds_toArray, List.set_cons_zero, List.set_cons_succ]
          refine wpAnyH_ready (rs := [20]) (by kernel_rfl) (by simp) ?_
          refine AllReadyH.cons (o := { dst := some 71, op := Op.call { callee := Callee.value (Operand.func 41), args := #[Operand.tmp 63, Operand.tmp 65, Operand.tmp 70], argTypes := #[32, 25, 73] }, type := 4, pos := "outright.go:215", after := #[{ on := 12, ground := Ground.data }, { on := 14, ground := Ground.data }, { on := 19, ground := Ground.data }, { on := 14, ground := Ground.chain }, { on := 10, ground := Ground.guard }], guard := some (10, true) }) rfl (fun K hK => ?_) ?_
          go_simp
          (first | (go_at_call 18; (with_reducible refine (RA.out _ D9.out.bl).mono ?_); rintro e wA ⟨aR, cR, rfl, hl, hg, hb⟩; have SA := Lib.hid (D9.out.go hb); have LA := Lib.hid hl; have GA := Lib.hid hg; clear hb hl hg) | (go_at_call 20; (with_reducible refine (LX.out _ SA.out.bl).mono ?_); rintro e wB ⟨aX, cX, rfl, hi, hb⟩; have SB := Lib.hid (SA.out.go hb); have LB := Lib.hid (LA.out.lo hb); have GB := Lib.hid (fun g o e => Nat.lt_of_lt_of_le (GA.out g o e) hb.size); have XB := Lib.hid hi; clear hb hi) | (go_at_call 41; (with_reducible refine (PL.out _ _ _ _ _ SB.out.bl LB.out GB.out XB.out).mono ?_); rintro e wD ⟨rfl, hb⟩; have SD := Lib.hid (SB.out.go hb); clear hb) | (go_at_call 16; (with_reducible refine (AW.out _ SD.out.bl).mono ?_); rintro e wE ⟨rfl, hb⟩; have SE := Lib.hid (SD.out.go hb); clear hb))
          go_wp2_with fail
          refine hK.out _ _ ?_ (fun hHeld => ?_)
          · (try dsimp only); (with_reducible first | exact SE.out.c7 | exact SD.out.c7 | exact SB.out.c7 | exact SA.out.c7 | exact D9.out.c7)
          clear hK K
          try simp only [Act.put, List.setIfInBounds_toArray, List.set_cons_zero, List.set_cons_succ]
          refine wpAnyH_take (i := 21) (oi := { dst := some 72, op := Op.unOp UnOp.not 4 (Operand.tmp 71), type := 4, pos := "outright.go:215", after := #[{ on := 20, ground := Ground.data }, { on := 10, ground := Ground.guard }], guard := some (10, true) }) (v := ?v_st6a_16) rfl (by kernel_rfl) (by kernel_rfl) (by kernel_rfl) (fun _ _ _ h => h) (Or.inl ⟨by rfl, ?y_st6a_16⟩) (by assumption) ?_
          case y_st6a_16 => intro w hSw; (try dsimp only at hSw); go_simp; with_reducible rfl
          try simp only [Act.put, List.setIfInBounds_toArray, List.set_cons_zero, List.set_cons_succ]
          refine wpAnyH_take (i := 22) (oi := { dst := some 73, op := Op.pick (Operand.tmp 61) (Operand.tmp 72) (Operand.const (Value.bool false)), type := 4, pos := "outright.go:215", after := #[{ on := 10, ground := Ground.data }, { on := 21, ground := Ground.data }], guard := none }) (v := ?v_st6a_17) rfl (by kernel_rfl) (by kernel_rfl) (by kernel_rfl) (fun _ _ _ h => h) (Or.inl ⟨by rfl, ?y_st6a_17⟩) (by assumption) ?_
          case y_st6a_17 => intro w hSw; (try dsimp only at hSw); go_simp; with_reducible rfl
          try simp only [Act.put, List.setIfInBounds_toArray, List.set_cons_zero, List.set_cons_succ]
          refine wpAnyH_take (i := 23) (oi := { dst := some 74, op := Op.move (Operand.tmp 73), type := 4, pos := "outright.go:215", after := #[{ on := 22, ground := Ground.data }, { on := 20, ground := Ground.chain }], guard := none }) (v := ?v_st6a_18) rfl (by kernel_rfl) (by kernel_rfl) (by kernel_rfl) (fun _ _ _ h => h) (Or.inl ⟨by rfl, ?y_st6a_18⟩) (by assumption) ?_
          case y_st6a_18 => intro w hSw; (try dsimp only at hSw); go_simp; with_reducible rfl
          try simp only [Act.put, List.setIfInBounds_toArray, List.set_cons_zero, List.set_cons_succ]
          refine wpAnyH_ready (rs := [24]) (by kernel_rfl) (by simp) ?_
          refine AllReadyH.cons (o := { dst := some 75, op := Op.call { callee := Callee.value (Operand.func 16), args := #[], argTypes := #[] }, type := 4, pos := "outright.go:215", after := #[{ on := 23, ground := Ground.chain }, { on := 23, ground := Ground.guard }], guard := some (23, true) }) rfl (fun K hK => ?_) ?_
          go_simp
          (first | (go_at_call 18; (with_reducible refine (RA.out _ D9.out.bl).mono ?_); rintro e wA ⟨aR, cR, rfl, hl, hg, hb⟩; have SA := Lib.hid (D9.out.go hb); have LA := Lib.hid hl; have GA := Lib.hid hg; clear hb hl hg) | (go_at_call 20; (with_reducible refine (LX.out _ SA.out.bl).mono ?_); rintro e wB ⟨aX, cX, rfl, hi, hb⟩; have SB := Lib.hid (SA.out.go hb); have LB := Lib.hid (LA.out.lo hb); have GB := Lib.hid (fun g o e => Nat.lt_of_lt_of_le (GA.out g o e) hb.size); have XB := Lib.hid hi; clear hb hi) | (go_at_call 41; (with_reducible refine (PL.out _ _ _ _ _ SB.out.bl LB.out GB.out XB.out).mono ?_); rintro e wD ⟨rfl, hb⟩; have SD := Lib.hid (SB.out.go hb); clear hb) | (go_at_call 16; (with_reducible refine (AW.out _ SD.out.bl).mono ?_); rintro e wE ⟨rfl, hb⟩; have SE := Lib.hid (SD.out.go hb); clear hb))
          go_wp2_with fail
          refine hK.out _ _ ?_ (fun hHeld => ?_)
          · (try dsimp only); (with_reducible first | exact SE.out.c7 | exact SD.out.c7 | exact SB.out.c7 | exact SA.out.c7 | exact D9.out.c7)
          clear hK K
          try simp only [Act.put, List.setIfInBounds_toArray, List.set_cons_zero, List.set_cons_succ]
          refine wpAnyH_take (i := 25) (oi := { dst := some 76, op := Op.pick (Operand.tmp 74) (Operand.tmp 75) (Operand.const (Value.bool false)), type := 4, pos := "outright.go:215", after := #[{ on := 23, ground := Ground.data }, { on := 24, ground := Ground.data }], guard := none }) (v := ?v_st6a_19) rfl (by kernel_rfl) (by kernel_rfl) (by kernel_rfl) (fun _ _ _ h => h) (Or.inl ⟨by rfl, ?y_st6a_19⟩) (by assumption) ?_
          case y_st6a_19 => intro w hSw; (try dsimp only at hSw); go_simp; with_reducible rfl
          try simp only [Act.put, List.setIfInBounds_toArray, List.set_cons_zero, List.set_cons_succ]
          refine wpAnyH_take (i := 26) (oi := { dst := some 8, op := Op.assign (Operand.tmp 76), type := 4, pos := "outright.go:215", after := #[{ on := 25, ground := Ground.data }, { on := 24, ground := Ground.chain }, { on := 0, ground := Ground.phase }, { on := 1, ground := Ground.phase }, { on := 2, ground := Ground.phase }, { on := 3, ground := Ground.phase }, { on := 4, ground := Ground.phase }, { on := 5, ground := Ground.phase }, { on := 6, ground := Ground.phase }, { on := 7, ground := Ground.phase }, { on := 8, ground := Ground.phase }, { on := 9, ground := Ground.phase }, { on := 10, ground := Ground.phase }, { on := 11, ground := Ground.phase }, { on := 12, ground := Ground.phase }, { on := 13, ground := Ground.phase }, { on := 14, ground := Ground.phase }, { on := 15, ground := Ground.phase }, { on := 16, ground := Ground.phase }, { on := 17, ground := Ground.phase }, { on := 18, ground := Ground.phase }, { on := 19, ground := Ground.phase }, { on := 20, ground := Ground.phase }, { on := 21, ground := Ground.phase }, { on := 22, ground := Ground.phase }, { on := 23, ground := Ground.phase }, { on := 24, ground := Ground.phase }, { on := 25, ground := Ground.phase }], guard := none }) (v := ?v_st6a_20) rfl (by kernel_rfl) (by kernel_rfl) (by kernel_rfl) (fun _ _ _ h => h) (Or.inl ⟨by rfl, ?y_st6a_20⟩) (by assumption) ?_
          case y_st6a_20 => intro w hSw; (try dsimp only at hSw); go_simp; with_reducible rfl
          try simp only [Act.put, List.setIfInBounds_toArray, List.set_cons_zero, List.set_cons_succ]
          refine wpAnyH_done (by kernel_rfl) ?_ _
          rotate_left 1
          exact AllReadyH.nil
          exact AllReadyH.nil
          exact AllReadyH.nil
          exact AllReadyH.nil
          all_goals
            go_wp2_with fail
            go_returns
            exact ⟨rfl, SE.out.bl⟩
        · go_wp2_with fail
          refine wp_region_held_drew (S := (fun W => (W.cell? ⟨w.heap.size, 0, none⟩ = some (.int .i64 r.rows) ∧ W.cell? ⟨w.heap.size, 1, none⟩ = some (.int .i64 r.mid) ∧ W.cell? ⟨w.heap.size, 2, none⟩ = some (.int .i64 r.gap) ∧ W.cell? ⟨w.heap.size, 3, none⟩ = some (.int .i64 r.reach) ∧ W.cell? ⟨w.heap.size, 4, none⟩ = some (.slice r.la r.ls.length r.lc)) ∧ W.cell? ⟨w.heap.size + 1, 0, none⟩ = some (.int .i64 l.st) ∧ W.cell? ⟨w.heap.size + 1, 1, none⟩ = some (.int .i64 l.dr))) (by kernel_rfl) ?_ (fun hHeld => ?_)
          · (try dsimp only); (with_reducible first | exact SE.out.c7 | exact SD.out.c7 | exact SB.out.c7 | exact SA.out.c7 | exact D9.out.c7)
          refine wpAnyH_take (i := 0) (oi := { dst := some 51, op := Op.move (Operand.tmp 10), type := 28, pos := "outright.go:215", after := #[], guard := none }) (v := ?v_st6b_21) rfl (by kernel_rfl) (by kernel_rfl) (by kernel_rfl) (fun _ _ _ h => h) (Or.inl ⟨by rfl, ?y_st6b_21⟩) (by assumption) ?_
          case y_st6b_21 => intro w hSw; (try dsimp only at hSw); go_simp; with_reducible rfl
          try simp only [Act.put, List.setIfInBounds_toArray, List.set_cons_zero, List.set_cons_succ]
          refine wpAnyH_take (i := 1) (oi := { dst := some 52, op := Op.binOp BinOp.eql 28 (Operand.tmp 51) (Operand.const (Value.int IntKind.i64 9)) 28, type := 4, pos := "outright.go:215", after := #[{ on := 0, ground := Ground.data }], guard := none }) (v := ?v_st6b_22) rfl (by kernel_rfl) (by kernel_rfl) (by kernel_rfl) (fun _ _ _ h => h) (Or.inl ⟨by rfl, ?y_st6b_22⟩) (by assumption) ?_
          case y_st6b_22 => intro w hSw; (try dsimp only at hSw); go_simp; with_reducible rfl
          try simp only [Act.put, List.setIfInBounds_toArray, List.set_cons_zero, List.set_cons_succ]
          refine wpAnyH_take (i := 2) (oi := { dst := some 53, op := Op.move (Operand.tmp 52), type := 4, pos := "outright.go:215", after := #[{ on := 1, ground := Ground.data }], guard := none }) (v := ?v_st6b_23) rfl (by kernel_rfl) (by kernel_rfl) (by kernel_rfl) (fun _ _ _ h => h) (Or.inl ⟨by rfl, ?y_st6b_23⟩) (by assumption) ?_
          case y_st6b_23 => intro w hSw; (try dsimp only at hSw); go_simp; with_reducible rfl
          try simp only [Act.put, List.setIfInBounds_toArray, List.set_cons_zero, List.set_cons_succ]
          refine wpAnyH_take (i := 3) (oi := { dst := some 54, op := Op.move (Operand.tmp 12), type := 28, pos := "outright.go:215", after := #[{ on := 2, ground := Ground.guard }], guard := some (2, true) }) (v := ?v_st6b_24) rfl (by kernel_rfl) (by kernel_rfl) (by kernel_rfl) (fun _ _ _ h => h) (Or.inl ⟨by rfl, ?y_st6b_24⟩) (by assumption) ?_
          case y_st6b_24 => intro w hSw; (try dsimp only at hSw); go_simp; with_reducible rfl
          try simp only [Act.put, List.setIfInBounds_toArray, List.set_cons_zero, List.set_cons_succ]
          refine wpAnyH_take (i := 4) (oi := { dst := some 55, op := Op.binOp BinOp.eql 28 (Operand.tmp 54) (Operand.const (Value.int IntKind.i64 0)) 28, type := 4, pos := "outright.go:215", after := #[{ on := 3, ground := Ground.data }, { on := 2, ground := Ground.guard }], guard := some (2, true) }) (v := ?v_st6b_25) rfl (by kernel_rfl) (by kernel_rfl) (by kernel_rfl) (fun _ _ _ h => h) (Or.inl ⟨by rfl, ?y_st6b_25⟩) (by assumption) ?_
          case y_st6b_25 => intro w hSw; (try dsimp only at hSw); go_simp; with_reducible rfl
          try simp only [Act.put, List.setIfInBounds_toArray, List.set_cons_zero, List.set_cons_succ]
          refine wpAnyH_take (i := 5) (oi := { dst := some 56, op := Op.move (Operand.tmp 55), type := 4, pos := "outright.go:215", after := #[{ on := 4, ground := Ground.data }, { on := 2, ground := Ground.chain }, { on := 2, ground := Ground.guard }], guard := some (2, true) }) (v := ?v_st6b_26) rfl (by kernel_rfl) (by kernel_rfl) (by kernel_rfl) (fun _ _ _ h => h) (Or.inl ⟨by rfl, ?y_st6b_26⟩) (by assumption) ?_
          case y_st6b_26 => intro w hSw; (try dsimp only at hSw); go_simp; with_reducible rfl
          try simp only [Act.put, List.setIfInBounds_toArray, List.set_cons_zero, List.set_cons_succ]
          refine wpAnyH_take (i := 6) (oi := { dst := some 57, op := Op.move (Operand.tmp 12), type := 28, pos := "outright.go:215", after := #[{ on := 5, ground := Ground.guard }], guard := some (5, false) }) (v := ?v_st6b_27) rfl (by kernel_rfl) (by kernel_rfl) (by kernel_rfl) (fun _ _ _ h => h) (Or.inl ⟨by rfl, ?y_st6b_27⟩) (by assumption) ?_
          case y_st6b_27 => intro w hSw; (try dsimp only at hSw); go_simp; with_reducible rfl
          try simp only [Act.put, List.setIfInBounds_toArray, List.set_cons_zero, List.set_cons_succ]
          refine wpAnyH_take (i := 7) (oi := { dst := some 58, op := Op.binOp BinOp.eql 28 (Operand.tmp 57) (Operand.const (Value.int IntKind.i64 9)) 28, type := 4, pos := "outright.go:215", after := #[{ on := 6, ground := Ground.data }, { on := 5, ground := Ground.guard }], guard := some (5, false) }) (v := ?v_st6b_28) rfl (by kernel_rfl) (by kernel_rfl) (by kernel_rfl) (fun _ _ _ h => h) (Or.inl ⟨by rfl, ?y_st6b_28⟩) (by assumption) ?_
          case y_st6b_28 => intro w hSw; (try dsimp only at hSw); go_simp; with_reducible rfl
          try simp only [Act.put, List.setIfInBounds_toArray, List.set_cons_zero, List.set_cons_succ]
          refine wpAnyH_take (i := 8) (oi := { dst := some 59, op := Op.pick (Operand.tmp 56) (Operand.const (Value.bool true)) (Operand.tmp 58), type := 4, pos := "outright.go:215", after := #[{ on := 5, ground := Ground.data }, { on := 7, ground := Ground.data }, { on := 2, ground := Ground.guard }], guard := some (2, true) }) (v := ?v_st6b_29) rfl (by kernel_rfl) (by kernel_rfl) (by kernel_rfl) (fun _ _ _ h => h) (Or.inl ⟨by rfl, ?y_st6b_29⟩) (by assumption) ?_
          case y_st6b_29 => intro w hSw; (try dsimp only at hSw); go_simp; with_reducible rfl
          try simp only [Act.put, List.setIfInBounds_toArray, List.set_cons_zero, List.set_cons_succ]
          refine wpAnyH_take (i := 9) (oi := { dst := some 60, op := Op.pick (Operand.tmp 53) (Operand.tmp 59) (Operand.const (Value.bool false)), type := 4, pos := "outright.go:215", after := #[{ on := 2, ground := Ground.data }, { on := 8, ground := Ground.data }], guard := none }) (v := ?v_st6b_30) rfl (by kernel_rfl) (by kernel_rfl) (by kernel_rfl) (fun _ _ _ h => h) (Or.inl ⟨by rfl, ?y_st6b_30⟩) (by assumption) ?_
          case y_st6b_30 => intro w hSw; (try dsimp only at hSw); go_simp; with_reducible rfl
          try simp only [Act.put, List.setIfInBounds_toArray, List.set_cons_zero, List.set_cons_succ]
          refine wpAnyH_take (i := 10) (oi := { dst := some 61, op := Op.move (Operand.tmp 60), type := 4, pos := "outright.go:215", after := #[{ on := 9, ground := Ground.data }, { on := 5, ground := Ground.chain }], guard := none }) (v := ?v_st6b_31) rfl (by kernel_rfl) (by kernel_rfl) (by kernel_rfl) (fun _ _ _ h => h) (Or.inl ⟨by rfl, ?y_st6b_31⟩) (by assumption) ?_
          case y_st6b_31 => intro w hSw; (try dsimp only at hSw); go_simp; with_reducible rfl
          try simp only [Act.put, List.setIfInBounds_toArray, List.set_cons_zero, List.set_cons_succ]
          refine wpAnyH_take (i := 11) (oi := { dst := some 62, op := Op.load 24 (Operand.tmp 4), type := 24, pos := "outright.go:215", after := #[{ on := 10, ground := Ground.guard }], guard := some (10, true) }) (v := ?v_st6b_32) rfl (by kernel_rfl) (by kernel_rfl) (by kernel_rfl) (fun _ _ _ h => h) (Or.inl ⟨by rfl, ?y_st6b_32⟩) (by assumption) ?_
          case y_st6b_32 => intro w hSw; (try dsimp only at hSw); go_simp; with_reducible rfl
          try simp only [Act.put, List.setIfInBounds_toArray, List.set_cons_zero, List.set_cons_succ]
          refine wpAnyH_take (i := 13) (oi := { dst := some 64, op := Op.move (Operand.tmp 1), type := 25, pos := "outright.go:215", after := #[{ on := 10, ground := Ground.guard }], guard := some (10, true) }) (v := ?v_st6b_33) rfl (by kernel_rfl) (by kernel_rfl) (by kernel_rfl) (fun _ _ _ h => h) (Or.inl ⟨by rfl, ?y_st6b_33⟩) (by assumption) ?_
          case y_st6b_33 => intro w hSw; (try dsimp only at hSw); go_simp; with_reducible rfl
          try simp only [Act.put, List.setIfInBounds_toArray, List.set_cons_zero, List.set_cons_succ]
          refine wpAnyH_take (i := 15) (oi := { dst := some 66, op := Op.fieldAddr 72 (Operand.tmp 6) 0, type := 0, pos := "outright.go:215", after := #[{ on := 10, ground := Ground.guard }], guard := some (10, true) }) (v := ?v_st6b_34) rfl (by kernel_rfl) (by kernel_rfl) (by kernel_rfl) (fun _ _ _ h => h) (Or.inl ⟨by rfl, ?y_st6b_34⟩) (by assumption) ?_
          case y_st6b_34 => intro w hSw; (try dsimp only at hSw); go_simp; with_reducible rfl
          try simp only [Act.put, List.setIfInBounds_toArray, List.set_cons_zero, List.set_cons_succ]
          refine wpAnyH_take (i := 16) (oi := { dst := some 67, op := Op.load 3 (Operand.tmp 66), type := 3, pos := "outright.go:215", after := #[{ on := 15, ground := Ground.data }, { on := 10, ground := Ground.guard }], guard := some (10, true) }) (v := ?v_st6b_35) rfl (by kernel_rfl) (by kernel_rfl) (by kernel_rfl) (fun _ _ _ h => h) (Or.inl ⟨by rfl, ?y_st6b_35⟩) (by assumption) ?_
          case y_st6b_35 => intro w hSw; (try dsimp only at hSw); go_simp; with_reducible rfl
          try simp only [Act.put, List.setIfInBounds_toArray, List.set_cons_zero, List.set_cons_succ]
          refine wpAnyH_take (i := 17) (oi := { dst := some 68, op := Op.fieldAddr 72 (Operand.tmp 6) 1, type := 0, pos := "outright.go:215", after := #[{ on := 10, ground := Ground.guard }], guard := some (10, true) }) (v := ?v_st6b_36) rfl (by kernel_rfl) (by kernel_rfl) (by kernel_rfl) (fun _ _ _ h => h) (Or.inl ⟨by rfl, ?y_st6b_36⟩) (by assumption) ?_
          case y_st6b_36 => intro w hSw; (try dsimp only at hSw); go_simp; with_reducible rfl
          try simp only [Act.put, List.setIfInBounds_toArray, List.set_cons_zero, List.set_cons_succ]
          refine wpAnyH_take (i := 18) (oi := { dst := some 69, op := Op.load 3 (Operand.tmp 68), type := 3, pos := "outright.go:215", after := #[{ on := 17, ground := Ground.data }, { on := 10, ground := Ground.guard }], guard := some (10, true) }) (v := ?v_st6b_37) rfl (by kernel_rfl) (by kernel_rfl) (by kernel_rfl) (fun _ _ _ h => h) (Or.inl ⟨by rfl, ?y_st6b_37⟩) (by assumption) ?_
          case y_st6b_37 => intro w hSw; (try dsimp only at hSw); go_simp; with_reducible rfl
          try simp only [Act.put, List.setIfInBounds_toArray, List.set_cons_zero, List.set_cons_succ]
          refine wpAnyH_take (i := 19) (oi := { dst := some 70, op := Op.build 73 #[(0, Operand.tmp 67), (1, Operand.tmp 69)], type := 73, pos := "outright.go:215", after := #[{ on := 16, ground := Ground.data }, { on := 18, ground := Ground.data }, { on := 10, ground := Ground.guard }], guard := some (10, true) }) (v := ?v_st6b_38) rfl (by kernel_rfl) (by kernel_rfl) (by kernel_rfl) (fun _ _ _ h => h) (Or.inl ⟨by rfl, ?y_st6b_38⟩) (by assumption) ?_
          case y_st6b_38 => intro w hSw; (try dsimp only at hSw); go_simp; with_reducible rfl
          try simp only [Act.put, List.setIfInBounds_toArray, List.set_cons_zero, List.set_cons_succ]
          refine wpAnyH_ready (rs := [12]) (by kernel_rfl) (by simp) ?_
          refine AllReadyH.cons (o := { dst := some 63, op := Op.call { callee := Callee.value (Operand.func 18), args := #[Operand.tmp 62], argTypes := #[24] }, type := 32, pos := "outright.go:215", after := #[{ on := 11, ground := Ground.data }, { on := 10, ground := Ground.chain }, { on := 10, ground := Ground.guard }], guard := some (10, true) }) rfl (fun K hK => ?_) ?_
          go_simp
          (first | (go_at_call 18; (with_reducible refine (RA.out _ D9.out.bl).mono ?_); rintro e wA ⟨aR, cR, rfl, hl, hg, hb⟩; have SA := Lib.hid (D9.out.go hb); have LA := Lib.hid hl; have GA := Lib.hid hg; clear hb hl hg) | (go_at_call 20; (with_reducible refine (LX.out _ SA.out.bl).mono ?_); rintro e wB ⟨aX, cX, rfl, hi, hb⟩; have SB := Lib.hid (SA.out.go hb); have LB := Lib.hid (LA.out.lo hb); have GB := Lib.hid (fun g o e => Nat.lt_of_lt_of_le (GA.out g o e) hb.size); have XB := Lib.hid hi; clear hb hi) | (go_at_call 41; (with_reducible refine (PL.out _ _ _ _ _ SB.out.bl LB.out GB.out XB.out).mono ?_); rintro e wD ⟨rfl, hb⟩; have SD := Lib.hid (SB.out.go hb); clear hb) | (go_at_call 16; (with_reducible refine (AW.out _ SD.out.bl).mono ?_); rintro e wE ⟨rfl, hb⟩; have SE := Lib.hid (SD.out.go hb); clear hb))
          go_wp2_with fail
          refine hK.out _ _ ?_ (fun hHeld => ?_)
          · (try dsimp only); (with_reducible first | exact SE.out.c7 | exact SD.out.c7 | exact SB.out.c7 | exact SA.out.c7 | exact D9.out.c7)
          clear hK K
          try simp only [Act.put, List.setIfInBounds_toArray, List.set_cons_zero, List.set_cons_succ]
          refine wpAnyH_ready (rs := [14]) (by kernel_rfl) (by simp) ?_
          refine AllReadyH.cons (o := { dst := some 65, op := Op.call { callee := Callee.value (Operand.func 20), args := #[Operand.tmp 64], argTypes := #[25] }, type := 25, pos := "outright.go:215", after := #[{ on := 13, ground := Ground.data }, { on := 12, ground := Ground.chain }, { on := 10, ground := Ground.guard }], guard := some (10, true) }) rfl (fun K hK => ?_) ?_
          go_simp
          (first | (go_at_call 18; (with_reducible refine (RA.out _ D9.out.bl).mono ?_); rintro e wA ⟨aR, cR, rfl, hl, hg, hb⟩; have SA := Lib.hid (D9.out.go hb); have LA := Lib.hid hl; have GA := Lib.hid hg; clear hb hl hg) | (go_at_call 20; (with_reducible refine (LX.out _ SA.out.bl).mono ?_); rintro e wB ⟨aX, cX, rfl, hi, hb⟩; have SB := Lib.hid (SA.out.go hb); have LB := Lib.hid (LA.out.lo hb); have GB := Lib.hid (fun g o e => Nat.lt_of_lt_of_le (GA.out g o e) hb.size); have XB := Lib.hid hi; clear hb hi) | (go_at_call 41; (with_reducible refine (PL.out _ _ _ _ _ SB.out.bl LB.out GB.out XB.out).mono ?_); rintro e wD ⟨rfl, hb⟩; have SD := Lib.hid (SB.out.go hb); clear hb) | (go_at_call 16; (with_reducible refine (AW.out _ SD.out.bl).mono ?_); rintro e wE ⟨rfl, hb⟩; have SE := Lib.hid (SD.out.go hb); clear hb))
          go_wp2_with fail
          refine hK.out _ _ ?_ (fun hHeld => ?_)
          · (try dsimp only); (with_reducible first | exact SE.out.c7 | exact SD.out.c7 | exact SB.out.c7 | exact SA.out.c7 | exact D9.out.c7)
          clear hK K
          try simp only [Act.put, List.setIfInBounds_toArray, List.set_cons_zero, List.set_cons_succ]
          refine wpAnyH_ready (rs := [20]) (by kernel_rfl) (by simp) ?_
          refine AllReadyH.cons (o := { dst := some 71, op := Op.call { callee := Callee.value (Operand.func 41), args := #[Operand.tmp 63, Operand.tmp 65, Operand.tmp 70], argTypes := #[32, 25, 73] }, type := 4, pos := "outright.go:215", after := #[{ on := 12, ground := Ground.data }, { on := 14, ground := Ground.data }, { on := 19, ground := Ground.data }, { on := 14, ground := Ground.chain }, { on := 10, ground := Ground.guard }], guard := some (10, true) }) rfl (fun K hK => ?_) ?_
          go_simp
          (first | (go_at_call 18; (with_reducible refine (RA.out _ D9.out.bl).mono ?_); rintro e wA ⟨aR, cR, rfl, hl, hg, hb⟩; have SA := Lib.hid (D9.out.go hb); have LA := Lib.hid hl; have GA := Lib.hid hg; clear hb hl hg) | (go_at_call 20; (with_reducible refine (LX.out _ SA.out.bl).mono ?_); rintro e wB ⟨aX, cX, rfl, hi, hb⟩; have SB := Lib.hid (SA.out.go hb); have LB := Lib.hid (LA.out.lo hb); have GB := Lib.hid (fun g o e => Nat.lt_of_lt_of_le (GA.out g o e) hb.size); have XB := Lib.hid hi; clear hb hi) | (go_at_call 41; (with_reducible refine (PL.out _ _ _ _ _ SB.out.bl LB.out GB.out XB.out).mono ?_); rintro e wD ⟨rfl, hb⟩; have SD := Lib.hid (SB.out.go hb); clear hb) | (go_at_call 16; (with_reducible refine (AW.out _ SD.out.bl).mono ?_); rintro e wE ⟨rfl, hb⟩; have SE := Lib.hid (SD.out.go hb); clear hb))
          go_wp2_with fail
          refine hK.out _ _ ?_ (fun hHeld => ?_)
          · (try dsimp only); (with_reducible first | exact SE.out.c7 | exact SD.out.c7 | exact SB.out.c7 | exact SA.out.c7 | exact D9.out.c7)
          clear hK K
          try simp only [Act.put, List.setIfInBounds_toArray, List.set_cons_zero, List.set_cons_succ]
          refine wpAnyH_take (i := 21) (oi := { dst := some 72, op := Op.unOp UnOp.not 4 (Operand.tmp 71), type := 4, pos := "outright.go:215", after := #[{ on := 20, ground := Ground.data }, { on := 10, ground := Ground.guard }], guard := some (10, true) }) (v := ?v_st6b_39) rfl (by kernel_rfl) (by kernel_rfl) (by kernel_rfl) (fun _ _ _ h => h) (Or.inl ⟨by rfl, ?y_st6b_39⟩) (by assumption) ?_
          case y_st6b_39 => intro w hSw; (try dsimp only at hSw); go_simp; with_reducible rfl
          try simp only [Act.put, List.setIfInBounds_toArray, List.set_cons_zero, List.set_cons_succ]
          refine wpAnyH_take (i := 22) (oi := { dst := some 73, op := Op.pick (Operand.tmp 61) (Operand.tmp 72) (Operand.const (Value.bool false)), type := 4, pos := "outright.go:215", after := #[{ on := 10, ground := Ground.data }, { on := 21, ground := Ground.data }], guard := none }) (v := ?v_st6b_40) rfl (by kernel_rfl) (by kernel_rfl) (by kernel_rfl) (fun _ _ _ h => h) (Or.inl ⟨by rfl, ?y_st6b_40⟩) (by assumption) ?_
          case y_st6b_40 => intro w hSw; (try dsimp only at hSw); go_simp; with_reducible rfl
          try simp only [Act.put, List.setIfInBounds_toArray, List.set_cons_zero, List.set_cons_succ]
          refine wpAnyH_take (i := 23) (oi := { dst := some 74, op := Op.move (Operand.tmp 73), type := 4, pos := "outright.go:215", after := #[{ on := 22, ground := Ground.data }, { on := 20, ground := Ground.chain }], guard := none }) (v := ?v_st6b_41) rfl (by kernel_rfl) (by kernel_rfl) (by kernel_rfl) (fun _ _ _ h => h) (Or.inl ⟨by rfl, ?y_st6b_41⟩) (by assumption) ?_
          case y_st6b_41 => intro w hSw; (try dsimp only at hSw); go_simp; with_reducible rfl
          try simp only [Act.put, List.setIfInBounds_toArray, List.set_cons_zero, List.set_cons_succ]
          refine wpAnyH_ready (rs := [24]) (by kernel_rfl) (by simp) ?_
          refine AllReadyH.cons (o := { dst := some 75, op := Op.call { callee := Callee.value (Operand.func 16), args := #[], argTypes := #[] }, type := 4, pos := "outright.go:215", after := #[{ on := 23, ground := Ground.chain }, { on := 23, ground := Ground.guard }], guard := some (23, true) }) rfl (fun K hK => ?_) ?_
          go_simp
          (first | (go_at_call 18; (with_reducible refine (RA.out _ D9.out.bl).mono ?_); rintro e wA ⟨aR, cR, rfl, hl, hg, hb⟩; have SA := Lib.hid (D9.out.go hb); have LA := Lib.hid hl; have GA := Lib.hid hg; clear hb hl hg) | (go_at_call 20; (with_reducible refine (LX.out _ SA.out.bl).mono ?_); rintro e wB ⟨aX, cX, rfl, hi, hb⟩; have SB := Lib.hid (SA.out.go hb); have LB := Lib.hid (LA.out.lo hb); have GB := Lib.hid (fun g o e => Nat.lt_of_lt_of_le (GA.out g o e) hb.size); have XB := Lib.hid hi; clear hb hi) | (go_at_call 41; (with_reducible refine (PL.out _ _ _ _ _ SB.out.bl LB.out GB.out XB.out).mono ?_); rintro e wD ⟨rfl, hb⟩; have SD := Lib.hid (SB.out.go hb); clear hb) | (go_at_call 16; (with_reducible refine (AW.out _ SD.out.bl).mono ?_); rintro e wE ⟨rfl, hb⟩; have SE := Lib.hid (SD.out.go hb); clear hb))
          go_wp2_with fail
          refine hK.out _ _ ?_ (fun hHeld => ?_)
          · (try dsimp only); (with_reducible first | exact SE.out.c7 | exact SD.out.c7 | exact SB.out.c7 | exact SA.out.c7 | exact D9.out.c7)
          clear hK K
          try simp only [Act.put, List.setIfInBounds_toArray, List.set_cons_zero, List.set_cons_succ]
          refine wpAnyH_take (i := 25) (oi := { dst := some 76, op := Op.pick (Operand.tmp 74) (Operand.tmp 75) (Operand.const (Value.bool false)), type := 4, pos := "outright.go:215", after := #[{ on := 23, ground := Ground.data }, { on := 24, ground := Ground.data }], guard := none }) (v := ?v_st6b_42) rfl (by kernel_rfl) (by kernel_rfl) (by kernel_rfl) (fun _ _ _ h => h) (Or.inl ⟨by rfl, ?y_st6b_42⟩) (by assumption) ?_
          case y_st6b_42 => intro w hSw; (try dsimp only at hSw); go_simp; with_reducible rfl
          try simp only [Act.put, List.setIfInBounds_toArray, List.set_cons_zero, List.set_cons_succ]
          refine wpAnyH_take (i := 26) (oi := { dst := some 8, op := Op.assign (Operand.tmp 76), type := 4, pos := "outright.go:215", after := #[{ on := 25, ground := Ground.data }, { on := 24, ground := Ground.chain }, { on := 0, ground := Ground.phase }, { on := 1, ground := Ground.phase }, { on := 2, ground := Ground.phase }, { on := 3, ground := Ground.phase }, { on := 4, ground := Ground.phase }, { on := 5, ground := Ground.phase }, { on := 6, ground := Ground.phase }, { on := 7, ground := Ground.phase }, { on := 8, ground := Ground.phase }, { on := 9, ground := Ground.phase }, { on := 10, ground := Ground.phase }, { on := 11, ground := Ground.phase }, { on := 12, ground := Ground.phase }, { on := 13, ground := Ground.phase }, { on := 14, ground := Ground.phase }, { on := 15, ground := Ground.phase }, { on := 16, ground := Ground.phase }, { on := 17, ground := Ground.phase }, { on := 18, ground := Ground.phase }, { on := 19, ground := Ground.phase }, { on := 20, ground := Ground.phase }, { on := 21, ground := Ground.phase }, { on := 22, ground := Ground.phase }, { on := 23, ground := Ground.phase }, { on := 24, ground := Ground.phase }, { on := 25, ground := Ground.phase }], guard := none }) (v := ?v_st6b_43) rfl (by kernel_rfl) (by kernel_rfl) (by kernel_rfl) (fun _ _ _ h => h) (Or.inl ⟨by rfl, ?y_st6b_43⟩) (by assumption) ?_
          case y_st6b_43 => intro w hSw; (try dsimp only at hSw); go_simp; with_reducible rfl
          try simp only [Act.put, List.setIfInBounds_toArray, List.set_cons_zero, List.set_cons_succ]
          refine wpAnyH_done (by kernel_rfl) ?_ _
          rotate_left 1
          exact AllReadyH.nil
          exact AllReadyH.nil
          exact AllReadyH.nil
          exact AllReadyH.nil
          all_goals
            go_wp2_with fail
            go_returns
            exact ⟨rfl, SE.out.bl⟩
    · have hE' : (chkE r xs == 0) = false := by simpa using hE
      have hE2 : (chkE r xs != 0) = true := by simpa using hE
      generalize chkE r xs = E at *
      clear hE hL hX hN hT hthin
      unfold Rk.val Ln.val at *
      go_enter Tryd.func12, Tryd.ntmps12
      go_wp2_with fail
      refine (TH.out _).mono ?_
      rintro e w1 ⟨rfl, hb⟩
      have S1 := Lib.hid (S0.out.go hb)
      obtain ⟨r0, r1, r2, r3, r4⟩ := S1.out.c
      clear hb S0
      go_wp2_with fail
      refine (PI.out _ S1.out.bl).mono ?_
      rintro e w2 ⟨rfl, hb⟩
      have S2 := Lib.hid (S1.out.go hb)
      clear hb S1 r0 r1 r2 r3 r4
      go_wp2_with fail
      refine (AW.out _ S2.out.bl).mono ?_
      rintro e w3 ⟨rfl, hb⟩
      have S3 := Lib.hid (S2.out.go hb)
      clear hb S2
      go_wp2_with fail
      go_returns
      exact ⟨rfl, S3.out.bl⟩
  · have hthin' : thinB r xs.length 0 = false := by simpa using hthin
    rw [hthin'] at TH
    clear hthin hthin' hL hX hN hT
    unfold Rk.val Ln.val at *
    go_enter Tryd.func12, Tryd.ntmps12
    go_wp2_with fail
    refine (TH.out _).mono ?_
    rintro e w1 ⟨rfl, hb⟩
    have S1 := Lib.hid (S0.out.go hb)
    clear hb S0
    go_wp2_with fail
    refine (AW.out _ S1.out.bl).mono ?_
    rintro e w3 ⟨rfl, hb⟩
    have S3 := Lib.hid (S1.out.go hb)
    clear hb S1
    go_wp2_with fail
    go_returns
    exact ⟨rfl, S3.out.bl⟩

end Go.Proofs.YtaloffdkadhhnaaDoor
