/- The walk of RackMore. -/
import Derived.Test.YtaloffdkadhhnaaDoorGk
import Derived.Test.YtaloffdkadhhnaaDoorGl
set_option linter.unusedVariables false
set_option linter.unusedSimpArgs false
namespace Go.Proofs.YtaloffdkadhhnaaDoor
open Go.RowKit

attribute [local go_sem] Oper.semAt_some

/-- Some of the pins, by bits. -/
def bitU (u : Int) (i : Nat) : Bool := (u / 2 ^ i).tmod 2 == 1
def fewT (xs : List Int) (u : Int) : Nat → List Int
  | 0 => []
  | n + 1 => fewT xs u n ++ (match xs[n]? with | some x => if bitU u n = true then [x] else [] | none => [])
theorem fewT_at {xs : List Int} {u : Int} {n : Nat} {x : Int} (h : xs[n]? = some x) : fewT xs u (n + 1) = fewT xs u n ++ if bitU u n = true then [x] else [] := by rw [fewT, h]
theorem fewT_sub (xs : List Int) (u : Int) : ∀ n, (fewT xs u n).Sublist (xs.take n)
  | 0 => by simp [fewT]
  | n + 1 => by
    rw [fewT, List.take_add_one]
    refine (fewT_sub xs u n).append ?_
    cases h : xs[n]? with
    | none => exact List.Sublist.refl _
    | some x =>
      show List.Sublist (if bitU u n = true then [x] else []) [x]
      split
      · exact List.Sublist.refl _
      · exact List.nil_sublist _
theorem fewT_len (xs : List Int) (u : Int) (n : Nat) : (fewT xs u n).length ≤ n := Nat.le_trans (fewT_sub xs u n).length_le (by rw [List.length_take]; omega)
theorem few_has {r : Rk} {xs ys : List Int} (h : hasL r xs = true) (hs : ys.Sublist xs) : hasL r ys = true := by
  obtain ⟨h1, h2⟩ := hasL_out h
  exact hasL_in (h1.sublist hs) fun x hx => h2 x (hs.mem hx)
theorem few_bal {r : Rk} {xs ys : List Int} {ball : List Rg} (h : balE r xs ball = 0) (hs : ys.Sublist xs) : balE r ys ball = 0 := by
  obtain ⟨h1, h2, h3⟩ := bal_ok h
  have hf := (chk_ok h1).1
  have hc : chkE r ys = 0 := by unfold chkE; rw [if_pos hf, if_pos (few_has (chk_ok h1).2 hs)]
  unfold balE at h ⊢
  rw [if_pos h1] at h
  rw [if_pos hc]
  exact h
theorem setN_sub {xs ys : List Int} (hs : ∀ y ∈ ys, y ∈ xs) : Sub (setN ys) (setN xs) := fun i hi => by
  rw [setN_bit, List.any_eq_true] at hi ⊢
  obtain ⟨y, hy, he⟩ := hi
  exact ⟨y, hs y hy, he⟩

/-- The truth that is picked is one. -/
theorem ball_len {r : Rk} {xs : List Int} {ball : List Rg} (h0 : balE r xs ball = 0) : (ball.length : Int) = r.rows := by
  obtain ⟨hck, _, _⟩ := bal_ok h0
  unfold balE at h0
  rw [if_pos hck] at h0
  split at h0
  · rename_i hib; unfold isBallB at hib; simp at hib; exact hib.1
  · cases h0
theorem picked_truth {r : Rk} {xs : List Int} {ball : List Rg} (ws : List Int) (h : balE r xs ball = 0) : truthB r ball (pickBs ball ws ball.length) (pickCs r.ls ws r.ls.length) = true := by
  obtain ⟨_, _, hw⟩ := bal_ok h
  have h1 : (((pickBs ball ws ball.length).length : Int) == r.rows) = true := by rw [pickBs_len]; simpa using ball_len h
  have h2 : ((pickCs r.ls ws r.ls.length).length == r.ls.length) = true := by rw [pickCs_len]; simp
  have h3 : rowsB ball (pickBs ball ws ball.length) (pickBs ball ws ball.length).length = true := by
    rw [pickBs_len]
    unfold rowsB
    rw [List.all_eq_true]
    intro i hi
    have hi' := List.mem_range.1 hi
    have e : (pickBs ball ws ball.length).getD i 0 = pickBf ball ws i := by unfold pickBs; rw [List.getD_eq_getElem?_getD, List.getElem?_map, List.getElem?_range hi']; rfl
    rw [e]
    unfold pickBf
    have hb : ball[i]? = some (ball[i]'hi') := List.getElem?_eq_getElem hi'
    rw [getD_of hb]
    have hr := rg_of hw hb
    have m0 := Int.emod_nonneg (wordN ws i) (b := (ball[i]'hi').hi - (ball[i]'hi').lo + 1) (by omega)
    have m1 := Int.emod_lt_of_pos (wordN ws i) (b := (ball[i]'hi').hi - (ball[i]'hi').lo + 1) (by omega)
    exact inB_iff.2 ⟨by omega, by omega⟩
  have h4 : carsB r.ls (pickCs r.ls ws r.ls.length) r.ls.length = true := by
    unfold carsB
    rw [List.all_eq_true]
    intro i hi
    have hi' := List.mem_range.1 hi
    have e : (pickCs r.ls ws r.ls.length).getD i false = pickCf r.ls ws i := by unfold pickCs; rw [List.getD_eq_getElem?_getD, List.getElem?_map, List.getElem?_range hi']; rfl
    rw [e]
    unfold pickCf
    cases (r.ls.getD i ⟨0, 0, false⟩).sr <;> simp
  unfold truthB
  rw [h1, h2, h3, h4]; rfl

theorem car_ok {r : Rk} (hf : faultN r = 0) (cs : List Bool) : LinksOk (r.car cs).ls := fun l hl => linksOk_of hf l (List.of_mem_zip (pickL_mem.1 hl)).1

/-- Each pin that falls by a truth still falls by it if more pins stand. -/
theorem more_within {r : Rk} {xs ys : List Int} {ball : List Rg} (h : balE r xs ball = 0) (hs : ys.Sublist xs) (bs : List Int) (cs : List Bool) :
    withinI (leftL ys (els (hitB r bs cs (setN ys)))) (leftL xs (els (hitB r bs cs (setN xs)))) = true := by
  obtain ⟨h1, _, _⟩ := bal_ok h
  have hset := chk_set h1
  have hxb := hasL_out (chk_ok h1).2
  have hp := (@pinsN_bd r).2
  unfold withinI leftL
  rw [List.all_eq_true]
  intro x hx
  obtain ⟨hx1, hx2⟩ := List.mem_filter.1 hx
  rw [hasI_iff, List.mem_filter]
  have hxx := hs.mem hx1
  refine ⟨hxx, ?_⟩
  cases hl : hasI (els (hitB r bs cs (setN xs))) x
  · rfl
  · exfalso
    have hm := (mem_els _ _).1 (hasI_iff.1 hl)
    have hb := hxb.2 x hxx
    have hy : (setN ys).testBit x.toNat = true := (setN_has (fun y hy => ⟨(hxb.2 y (hs.mem hy)).1, by have := (hxb.2 y (hs.mem hy)).2; omega⟩) hb.1).2 hx1
    have h9 := hit_more (r := r.car cs) (c := toCs bs) (cb := fun _ => true) (St := setN xs) (St' := setN ys) (car_ok (chk_ok h1).1 cs) hset.1 (setN_sub fun y hy => hs.mem hy) x.toNat (by rw [and_bit]; exact Bool.and_eq_true_iff.2 ⟨hm.2.2, hy⟩)
    have : hasI (els (hitB r bs cs (setN ys))) x = true := hasI_iff.2 ((mem_els _ _).2 ⟨hm.1, hm.2.1, h9⟩)
    rw [this] at hx2; cases hx2

theorem hitL_ok {r : Rk} {xs : List Int} {ball : List Rg} {bs : List Int} {cs : List Bool} (h : balE r xs ball = 0) (ht : truthB r ball bs cs = true) : hitE r xs ball bs cs = 0 ∧ hitL r xs ball bs cs = els (hitB r bs cs (setN xs)) := by
  have h1 : hitE r xs ball bs cs = 0 := by unfold hitE; rw [if_pos h, if_pos ht]
  exact ⟨h1, by unfold hitL; rw [if_pos h1]⟩
theorem hitL_cp (r : Rk) (a : Option Addr) (c : Nat) (xs : List Int) (ball : List Rg) (bs : List Int) (cs : List Bool) : hitL (r.at a c) xs ball bs cs = hitL r xs ball bs cs ∧ hitE (r.at a c) xs ball bs cs = hitE r xs ball bs cs := ⟨rfl, rfl⟩

set_option maxRecDepth 100000 in
set_option maxHeartbeats 8000000 in
theorem rackMore_any (r : Rk) (xs : List Int) (a : Option Addr) (c : Nat) (ball : List Rg) (a2 : Option Addr) (c2 : Nat) (ws : List Int) (a3 : Option Addr) (c3 : Nat) (u : Int) (w : World)
    (hL : LinksAt w r.la r.ls) (hX : IntsAt w a xs) (hN : a = none → xs = [] ∧ c = 0) (hG : RgsAt w a2 ball) (hW : WordsAt w a3 ws ∧ (ws.length : Int) ≤ 9223372036854775807) (hU : 0 ≤ u ∧ u < 65536) (hT : TabOK w) :
    Calls Tryd.prog 13 #[r.val, .slice a xs.length c, .slice a2 ball.length c2, .slice a3 ws.length c3, .int .u16 u] w fun e w' => e = .returned (.bool true) ∧ Below w.heap.size w w' := by
  have RD := Lib.hid (fun W (hb : Below w.heap.size w W) => ready_any r xs a c ball a2 c2 W (hL.lo hb) (hX.lo hb) (hG.lower hb))
  have AW := Lib.hid (fun W (hb : Below w.heap.size w W) => awake_any W (hT.lo hb))
  have S0 := Lib.hid (St.start r w)
  unfold rCells at S0
  by_cases hrd : readyB r xs ball = true
  · have hth : thinB r xs.length ball.length = true := by unfold readyB at hrd; simp at hrd; exact hrd.1
    have hbal : balE r xs ball = 0 := by unfold readyB at hrd; simp at hrd; exact hrd.2
    obtain ⟨b1, b2, b3⟩ := thin_bd hth
    obtain ⟨hck, hb4, hbw⟩ := bal_ok hbal
    have HX := Lib.hid hX
    rw [hrd] at RD
    have hu0 := hU.1
    have hu1 := hU.2
    have HF := Lib.hid (fun n => fewT_len xs u n)
    obtain ⟨i3, hi3, hy0, hy1, hy2⟩ := info_parts info3
    unfold Rk.val at RD ⊢
    go_enter Tryd.func13, Tryd.ntmps13
    go_wp2_with fail
    refine (RD.out _ S0.out.bl).mono ?_
    rintro e w1 ⟨rfl, hb⟩
    have S1 := Lib.hid (S0.out.go hb)
    clear hb S0
    go_wp2_with fail
    have O1 := Lib.hid (OwnI.nil w1)
    go_loopg [11, 12] xs.length (fun g s11 s12 wx => ∃ (i : Nat) (v : Value), i ≤ xs.length ∧ g = xs.length - i ∧ s12 = .int .i64 (i : Int) ∧ s11 = v ∧ Hid (OwnI w1 wx v (fewT xs u i)))
    case atStart => exact ⟨0, _, by omega, by omega, rfl, rfl, O1⟩
    case round =>
      obtain ⟨i, v, hi, rfl, rfl, hv, hO⟩ := hrel
      have hv2 := hv.symm
      clear hv O1
      subst hv2
      by_cases hlt : i < xs.length
      · have hz0 : (0 : Int) ≤ (i : Int) := by omega
        have hz1 : (i : Int) < (xs.length : Int) := by omega
        obtain ⟨x, hx⟩ : ∃ x, xs[i]? = some x := ⟨xs[i]'hlt, List.getElem?_eq_getElem _⟩
        obtain ⟨g, o, rfl, k1⟩ := HX.out _ _ hx
        have k2 : wr.cell? ⟨g, o + i, none⟩ = some (.int .i64 x) := cell_lo (S1.out.go hO.out.bl).bl k1
        have HTT := Lib.hid (fewT_at (u := u) hx)
        have HLn := Lib.hid (HF.out i)
        have HAL := Lib.hid (show w1.heap.size ≤ wr.heap.size + 1 by have := hO.out.bl.size; omega)
        generalize fewT xs u i = zs at *
        have HL2 := Lib.hid (show zs.length + 1 ≤ maxLen by have := HLn.out; unfold maxLen; omega)
        have HL3 := Lib.hid (show (zs.length + 1) * 8 ≤ 140737488355328 by have := HLn.out; omega)
        clear hx k1
        cases hq : ((u / 2 ^ i).tmod 2 == 1)
        · have HN := Lib.hid (show fewT xs u (i + 1) = zs by rw [HTT.out]; unfold bitU; rw [hq]; simp)
          go_wp2_with fail
          go_roundg (xs.length - (i + 1))
          case measure => omega
          case rel => exact ⟨i + 1, _, by omega, rfl, by simp, rfl, by rw [HN.out]; exact hO⟩
        · have HN := Lib.hid (show fewT xs u (i + 1) = zs ++ [x] by rw [HTT.out]; unfold bitU; rw [hq]; rfl)
          go_wp2_with (at_builtin; go_must (refine wpList_append_lies _ rfl _ _ 25 rfl w1.heap.size 3 i3 (.int .i64 0) 1 8 Tryd.underlying25 hi3 hy0 hy1 hy2 rfl (by decide) _ zs.length (zs.map (Value.int .i64)) rfl (hO.out.ow.alloc _) ⟨wr.heap.size, 0, none⟩ 1 1 [.int .i64 x] rfl rfl (World.news_of_block (cs := #[.int .i64 x]) (t := 3) (fr := (0, 0)) (heap_alloc_new wr _)) (by simp [Value.oneCell']) (by decide) HL2.out HL3.out (by simpa using HAL.out) (wr.heap.size + 1) (by simp) ?_); intro gA capA wA hown hgrow hat hlt1; have OP := Lib.hid (hO.out.push hgrow hown); clear hown hgrow hat hlt1)
          go_roundg (xs.length - (i + 1))
          case measure => omega
          case rel => exact ⟨i + 1, _, by omega, rfl, by simp, rfl, by rw [HN.out]; exact OP⟩
      · have hz1 : ¬ (i : Int) < (xs.length : Int) := by omega
        obtain rfl : i = xs.length := by omega
        obtain ⟨aF, cF, rfl, hIF, hNF⟩ := hO.out.out
        have S2 := Lib.hid (S1.out.go hO.out.bl)
        have IF := Lib.hid hIF
        have NF := Lib.hid hNF
        have hsub : (fewT xs u xs.length).Sublist xs := by have := fewT_sub xs u xs.length; rwa [List.take_length] at this
        have hfb := few_bal hbal hsub
        have htr := picked_truth ws hbal
        have HWI := Lib.hid (more_within hbal hsub (pickBs ball ws ball.length) (pickCs r.ls ws r.ls.length))
        obtain ⟨e1, l1⟩ := hitL_ok hbal htr
        obtain ⟨e2, l2⟩ := hitL_ok hfb htr
        have hle1 : (els (hitB r (pickBs ball ws ball.length) (pickCs r.ls ws r.ls.length) (setN xs))).length ≤ 16 := els_len
        have hle2 : (els (hitB r (pickBs ball ws ball.length) (pickCs r.ls ws r.ls.length) (setN (fewT xs u xs.length)))).length ≤ 16 := els_len
        rw [← l1] at HWI hle1
        rw [← l2] at HWI hle2
        have hflen : (fewT xs u xs.length).length ≤ xs.length := fewT_len _ _ _
        have hbl := pickBs_len ball ws ball.length
        have hcl := pickCs_len r.ls ws r.ls.length
        have PK := Lib.hid (fun W (hb : Below w.heap.size w W) => picked_any r ball a2 c2 ws a3 c3 W (hL.lo hb) (by omega) (hG.lower hb) (by omega) hbw (hW.1.lo hb) hW.2)
        have RA := Lib.hid (fun W (hb : Below w.heap.size w W) => lawRack_any r W (hL.lo hb) (by omega))
        have LX := Lib.hid (fun W (hb : Below w.heap.size w W) => lawints_any xs a c W (hX.lo hb) hN (by omega))
        have BA := Lib.hid (fun W (hb : Below w.heap.size w W) => lawBall_any ball a2 c2 W (hG.lower hb) (by omega))
        have L32 := Lib.hid (fun (ys zs : List Int) => fun b d e f W h1 h2 h3 h4 => left2_any ys zs b d e f W h1 h2 h3 h4)
        generalize fewT xs u xs.length = FW at *
        generalize pickBs ball ws ball.length = BS at *
        generalize pickCs r.ls ws r.ls.length = CS at *
        have H1 := Lib.hid (fun W a' c' aX cX aG cG aB cB aC cC (hb : Below w.heap.size w W) (g1 : LinksAt W a' r.ls) (g2 : ∀ g o, a' = some ⟨g, o, none⟩ → g < W.heap.size) (g3 : IntsAt W aX xs) (g4 : RgsAt W aG ball) (g5 : IntsAt W aB BS) (g6 : BoolsAt W aC CS) =>
          show Calls Tryd.prog 27 #[.agg #[.int .i64 r.rows, .int .i64 r.mid, .int .i64 r.gap, .int .i64 r.reach, .slice a' r.ls.length c'], .slice aX xs.length cX, .slice aG ball.length cG, .slice aB BS.length cB, .slice aC CS.length cC] W (HitP r xs ball BS CS W) from Hit_any (r.at a' c') xs aX cX ball aG cG BS aB cB CS aC cC W g1 (show r.ls.length ≤ 1000 by omega) g2 g3 (by omega) g4 (by omega) g5 (by omega) g6 (by omega) (hT.lo hb))
        have H2 := Lib.hid (fun W a' c' aX cX aG cG aB cB aC cC (hb : Below w.heap.size w W) (g1 : LinksAt W a' r.ls) (g2 : ∀ g o, a' = some ⟨g, o, none⟩ → g < W.heap.size) (g3 : IntsAt W aX FW) (g4 : RgsAt W aG ball) (g5 : IntsAt W aB BS) (g6 : BoolsAt W aC CS) =>
          show Calls Tryd.prog 27 #[.agg #[.int .i64 r.rows, .int .i64 r.mid, .int .i64 r.gap, .int .i64 r.reach, .slice a' r.ls.length c'], .slice aX FW.length cX, .slice aG ball.length cG, .slice aB BS.length cB, .slice aC CS.length cC] W (HitP r FW ball BS CS W) from Hit_any (r.at a' c') FW aX cX ball aG cG BS aB cB CS aC cC W g1 (show r.ls.length ≤ 1000 by omega) g2 g3 (by omega) g4 (by omega) g5 (by omega) g6 (by omega) (hT.lo hb))
        have HL1 := Lib.hid hle1
        have HL2 := Lib.hid hle2
        have HLF := Lib.hid hflen
        have HBC := Lib.hid (show BS.length ≤ 1000 ∧ CS.length ≤ 1000 by omega)
        have HX15 := Lib.hid b2
        clear hO hIF hNF hlt hsub hfb htr hle1 hle2 hflen hbl hcl l1 l2 hL hX hN hG hW hT hbal hck hb4 hbw hth hrd b1 b2 b3 HF hi S1
        have E1 := Lib.hid e1
        have E2 := Lib.hid e2
        clear e1 e2
        unfold Rk.val at *
        obtain ⟨r0, r1, r2, r3, r4⟩ := S2.out.c
        go_wp2_with fail
        refine (PK.out _ S2.out.bl).mono ?_
        rintro e w2 ⟨aB, cB, aC, cC, rfl, hiB, hnB, hiC, hnC, hb⟩
        have S3 := Lib.hid (S2.out.go hb)
        have IB := Lib.hid hiB; have NB := Lib.hid hnB; have IC := Lib.hid hiC; have NC := Lib.hid hnC
        have IF1 := Lib.hid (IF.out.lo hb)
        clear hb hiB hnB hiC hnC S2 IF r0 r1 r2 r3 r4
        obtain ⟨r0, r1, r2, r3, r4⟩ := S3.out.c
        go_wp2_with fail
        refine (RA.out _ S3.out.bl).mono ?_
        rintro e w4 ⟨a4, c4, rfl, hl4, hg4, hb⟩
        have S4 := Lib.hid (S3.out.go hb)
        have L4 := Lib.hid hl4; have G4 := Lib.hid hg4
        have IB4 := Lib.hid (IB.out.lo hb); have IC4 := Lib.hid (IC.out.lo hb); have IF4 := Lib.hid (IF1.out.lo hb)
        clear hb hl4 hg4 S3 IB IC IF1 r0 r1 r2 r3 r4
        unfold Rk.val
        go_wp2_with fail
        refine (LX.out _ S4.out.bl).mono ?_
        rintro e w5 ⟨a5, c5, rfl, hi5, hb⟩
        have S5 := Lib.hid (S4.out.go hb)
        have L5 := Lib.hid (L4.out.lo hb); have G5 := Lib.hid (fun g o e => Nat.lt_of_lt_of_le (G4.out g o e) hb.size); have X5 := Lib.hid hi5
        have IB5 := Lib.hid (IB4.out.lo hb); have IC5 := Lib.hid (IC4.out.lo hb); have IF5 := Lib.hid (IF4.out.lo hb)
        clear hb hi5 S4 L4 G4 IB4 IC4 IF4
        go_wp2_with fail
        refine (BA.out _ S5.out.bl).mono ?_
        rintro e w6 ⟨a6, c6, rfl, hr6, hg6, hb⟩
        have S6 := Lib.hid (S5.out.go hb)
        have L6 := Lib.hid (L5.out.lo hb); have G6 := Lib.hid (fun g o e => Nat.lt_of_lt_of_le (G5.out g o e) hb.size); have X6 := Lib.hid (X5.out.lo hb); have R6 := Lib.hid hr6
        have IB6 := Lib.hid (IB5.out.lo hb); have IC6 := Lib.hid (IC5.out.lo hb); have IF6 := Lib.hid (IF5.out.lo hb)
        clear hb hr6 hg6 S5 L5 G5 X5 IB5 IC5 IF5
        go_wp2_with fail
        refine (lawints_any BS aB cB w6 IB6.out NB.out HBC.out.1).mono ?_
        rintro e w7 ⟨a7, c7, rfl, hi7, hb⟩
        have S7 := Lib.hid (S6.out.go hb)
        have L7 := Lib.hid (L6.out.lo hb); have G7 := Lib.hid (fun g o e => Nat.lt_of_lt_of_le (G6.out g o e) hb.size); have X7 := Lib.hid (X6.out.lo hb); have R7 := Lib.hid (R6.out.lower hb)
        have IB7 := Lib.hid (IB6.out.lo hb); have IC7 := Lib.hid (IC6.out.lo hb); have IF7 := Lib.hid (IF6.out.lo hb); have Y7 := Lib.hid hi7
        clear hb hi7 S6 L6 G6 X6 R6 IB6 IC6 IF6
        obtain ⟨a8, c8, w8, hrun8, hi8, hb⟩ := run_copy_bools CS aC cC w7 IC7.out NC.out HBC.out.2
        have HR8 := Lib.hid hrun8
        have S8 := Lib.hid (S7.out.go hb)
        have L8 := Lib.hid (L7.out.lo hb); have G8 := Lib.hid (fun g o e => Nat.lt_of_lt_of_le (G7.out g o e) hb.size); have X8 := Lib.hid (X7.out.lo hb); have R8 := Lib.hid (R7.out.lower hb)
        have IB8 := Lib.hid (IB7.out.lo hb); have IC8 := Lib.hid (IC7.out.lo hb); have IF8 := Lib.hid (IF7.out.lo hb); have Y8 := Lib.hid (Y7.out.lo hb); have Z8 := Lib.hid hi8
        clear hb hi8 hrun8 S7 L7 G7 X7 R7 IB7 IC7 IF7 Y7
        go_wp2_with (at_builtin; go_must (refine wpList_append_run rfl _ _ 48 48 rfl _ _ rfl rfl HR8.out ?_))
        refine (H1.out w8 a4 c4 a5 c5 a6 c6 a7 c7 a8 c8 S8.out.bl L8.out G8.out X8.out R8.out Y8.out Z8.out).mono ?_
        rintro e w9 ⟨a9, c9, rfl, hi9, hb, -⟩
        rw [E1.out]
        have S9 := Lib.hid (S8.out.go hb)
        have IB9 := Lib.hid (IB8.out.lo hb); have IC9 := Lib.hid (IC8.out.lo hb); have IF9 := Lib.hid (IF8.out.lo hb); have V9 := Lib.hid hi9
        clear hb hi9 S8 L8 G8 X8 R8 IB8 IC8 IF8 Y8 Z8 HR8 H1
        obtain ⟨r0, r1, r2, r3, r4⟩ := S9.out.c
        generalize hitL r xs ball BS CS = H1L at *
        go_wp2_with fail
        refine (RA.out _ S9.out.bl).mono ?_
        rintro e x4 ⟨p4, q4, rfl, hl4, hg4, hb⟩
        have S4 := Lib.hid (S9.out.go hb)
        have L4 := Lib.hid hl4; have G4 := Lib.hid hg4
        have IB4 := Lib.hid (IB9.out.lo hb); have IC4 := Lib.hid (IC9.out.lo hb); have IF4 := Lib.hid (IF9.out.lo hb); have V4 := Lib.hid (V9.out.lo hb)
        clear hb hl4 hg4 S9 IB9 IC9 IF9 V9 r0 r1 r2 r3 r4
        unfold Rk.val
        go_wp2_with fail
        refine (lawints_any FW aF cF x4 IF4.out NF.out (by have := HLF.out; have := HX15.out; omega)).mono ?_
        rintro e x5 ⟨p5, q5, rfl, hi5, hb⟩
        have S5 := Lib.hid (S4.out.go hb)
        have L5 := Lib.hid (L4.out.lo hb); have G5 := Lib.hid (fun g o e => Nat.lt_of_lt_of_le (G4.out g o e) hb.size); have X5 := Lib.hid hi5
        have IB5 := Lib.hid (IB4.out.lo hb); have IC5 := Lib.hid (IC4.out.lo hb); have IF5 := Lib.hid (IF4.out.lo hb); have V5 := Lib.hid (V4.out.lo hb)
        clear hb hi5 S4 L4 G4 IB4 IC4 IF4 V4
        go_wp2_with fail
        refine (BA.out _ S5.out.bl).mono ?_
        rintro e x6 ⟨p6, q6, rfl, hr6, hg6, hb⟩
        have S6 := Lib.hid (S5.out.go hb)
        have L6 := Lib.hid (L5.out.lo hb); have G6 := Lib.hid (fun g o e => Nat.lt_of_lt_of_le (G5.out g o e) hb.size); have X6 := Lib.hid (X5.out.lo hb); have R6 := Lib.hid hr6
        have IB6 := Lib.hid (IB5.out.lo hb); have IC6 := Lib.hid (IC5.out.lo hb); have IF6 := Lib.hid (IF5.out.lo hb); have V6 := Lib.hid (V5.out.lo hb)
        clear hb hr6 hg6 S5 L5 G5 X5 IB5 IC5 IF5 V5
        go_wp2_with fail
        refine (H2.out x6 p4 q4 p5 q5 p6 q6 aB cB aC cC S6.out.bl L6.out G6.out X6.out R6.out IB6.out IC6.out).mono ?_
        rintro e x7 ⟨p7, q7, rfl, hi7, hb, -⟩
        rw [E2.out]
        have S7 := Lib.hid (S6.out.go hb)
        have IF7 := Lib.hid (IF6.out.lo hb); have V7 := Lib.hid (V6.out.lo hb); have U7 := Lib.hid hi7
        have HX7 := Lib.hid (HX.out.lo S7.out.bl)
        clear hb hi7 S6 L6 G6 X6 R6 IB6 IC6 IF6 V6 H2 E1 E2
        generalize hitL r FW ball BS CS = H2L at *
        go_wp2_with fail
        refine (L32.out FW H2L aF p7 cF q7 x7 IF7.out U7.out (by have := HLF.out; have := HX15.out; omega) (by have := HL2.out; omega)).mono ?_
        rintro e x8 ⟨p8, q8, rfl, hi8, hn8, hb⟩
        have S8 := Lib.hid (S7.out.go hb)
        have V8 := Lib.hid (V7.out.lo hb); have HX8 := Lib.hid (HX7.out.lo hb); have T8 := Lib.hid hi8
        clear hb hi8 hn8 S7 V7 HX7 IF7 U7
        go_wp2_with fail
        refine (L32.out xs H1L a a9 c c9 x8 HX8.out V8.out (by have := HX15.out; omega) (by have := HL1.out; omega)).mono ?_
        rintro e x9 ⟨p9, q9, rfl, hi9, hn9, hb⟩
        have S9 := Lib.hid (S8.out.go hb)
        have T9 := Lib.hid (T8.out.lo hb); have K9 := Lib.hid hi9
        have N1 := Lib.hid (show (leftL FW H2L).length ≤ 1000 by have := leftL_len FW H2L; have := HLF.out; have := HX15.out; omega)
        have N2 := Lib.hid (show (leftL xs H1L).length ≤ 1000 by have := leftL_len xs H1L; have := HX15.out; omega)
        clear hb hi9 hn9 S8 V8 HX8 T8
        generalize leftL FW H2L = LA at *
        generalize leftL xs H1L = LB at *
        go_wp2_with fail
        have hwi := within2_any LA LB p8 p9 q8 q9 x9 T9.out K9.out N1.out N2.out
        rw [HWI.out] at hwi
        refine hwi.mono ?_
        rintro e xa ⟨rfl, rfl⟩
        clear hwi
        go_wp2_with fail
        refine (AW.out _ S9.out.bl).mono ?_
        rintro e xb ⟨rfl, hb⟩
        have S10 := Lib.hid (S9.out.go hb)
        clear hb
        go_wp2_with fail
        go_returns
        exact ⟨rfl, S10.out.bl⟩
  · have hrd' : readyB r xs ball = false := by simpa using hrd
    rw [hrd'] at RD
    clear hrd hrd' hL hX hN hG hW hT
    unfold Rk.val at *
    go_enter Tryd.func13, Tryd.ntmps13
    go_wp2_with fail
    refine (RD.out _ S0.out.bl).mono ?_
    rintro e w1 ⟨rfl, hb⟩
    have S1 := Lib.hid (S0.out.go hb)
    clear hb S0
    go_wp2_with fail
    refine (AW.out _ S1.out.bl).mono ?_
    rintro e w3 ⟨rfl, hb⟩
    have S3 := Lib.hid (S1.out.go hb)
    clear hb S1
    go_wp2_with fail
    go_returns
    exact ⟨rfl, S3.out.bl⟩

end Go.Proofs.YtaloffdkadhhnaaDoor
