/- The walk of RackFalls. -/
import Derived.Test.YtaloffdkadhhnaaDoorLx
set_option linter.unusedVariables false
set_option linter.unusedSimpArgs false
namespace Go.Proofs.YtaloffdkadhhnaaDoor
open Go.RowKit

attribute [local go_sem] Oper.semAt_some

/-- Two lists of the call's own, while they grow. -/
structure Own2 (w W : World) (v1 : Value) (z1 : List Int) (v2 : Value) (z2 : List Int) : Prop where
  o1 : OwnI w W v1 z1
  o2 : OwnI w W v2 z2
  ne : ∀ k, v1.ownBlock = some k → v2.ownBlock ≠ some k
theorem Own2.swap {w W : World} {v1 v2 : Value} {z1 z2 : List Int} (h : Own2 w W v1 z1 v2 z2) : Own2 w W v2 z2 v1 z1 := ⟨h.o2, h.o1, fun k e e' => h.ne k e' e⟩
theorem Own2.lo {w W W' : World} {v1 v2 : Value} {z1 z2 : List Int} (h : Own2 w W v1 z1 v2 z2) (hb : Below W.heap.size W W') : Own2 w W' v1 z1 v2 z2 := ⟨h.o1.lo hb, h.o2.lo hb, h.ne⟩
theorem Own2.push {w W W1 : World} {v1 v2 : Value} {z1 z2 : List Int} {x : Int} {o : Obj} {g n c : Nat} (h : Own2 w W v1 z1 v2 z2) (hg : (W.alloc o).grownBy W1 v1.ownBlock)
    (ho : W1.ownsRow w.heap.size 3 1 (.slice (some ⟨g, 0, none⟩) n c) (z1.length + 1) (z1.map (Value.int .i64) ++ [Value.int .i64 x])) (hat : v1.ownBlock = some g ∨ g = W.heap.size + 1) : Own2 w W1 (.slice (some ⟨g, 0, none⟩) n c) (z1 ++ [x]) v2 z2 := by
  have hb1 := below_grow (below_al2 h.o1.bl o) hg (fun k e => own_base h.o1.ow e)
  refine ⟨h.o1.push hg ho, ⟨(h.o2.ow.alloc o).kept hg ?_, hb1⟩, fun k e e' => ?_⟩
  · cases hk : v2.ownBlock with
    | none => exact .inl rfl
    | some k => exact .inr (fun e => h.ne k e.symm hk)
  · have hgk : g = k := by simpa [Value.ownBlock] using e
    subst hgk
    rcases hat with e1 | e1
    · exact h.ne g e1 e'
    · have := (h.o2.ow.lt g e').2
      omega

/-- What Falls returns, valid or not. -/
def FalP (S M : List Int) (E : Int) (w : World) (e : Ending) (w' : World) : Prop :=
  ∃ a1 c1 a2 c2, e = .returned (.tuple #[.slice a1 S.length c1, .slice a2 M.length c2, .int .i64 E]) ∧ IntsAt w' a1 S ∧ IntsAt w' a2 M ∧ Below w.heap.size w w'
def surL (r : Rk) (xs : List Int) (ball : List Rg) : List Int := if balE r xs ball = 0 then els (sureN r ball (setN xs)) else []
def mayL (r : Rk) (xs : List Int) (ball : List Rg) : List Int := if balE r xs ball = 0 then els (dif (setN xs) (stayN r ball (setN xs))) else []
theorem FsPost.falP {r : Rk} {xs : List Int} {ball : List Rg} {w w' : World} {e : Ending} {v1 v2 : Value} (h : FsPost r xs ball w e w' v1 v2) : FalP (surL r xs ball) (mayL r xs ball) (balE r xs ball) w e w' := by
  obtain ⟨h1, h2, h3, h4⟩ := h
  obtain ⟨a, c, rfl, h2⟩ := h2
  obtain ⟨a', c', rfl, h3⟩ := h3
  exact ⟨a, c, a', c', h1, h2, h3, h4⟩
def NewRkF (r : Rk) (w : World) (e : Ending) (w' : World) : Prop := ∃ a c, e = .returned (.agg #[.int .i64 r.rows, .int .i64 r.mid, .int .i64 r.gap, .int .i64 r.reach, .slice a r.ls.length c]) ∧ LinksAt w' a r.ls ∧ (∀ g o, a = some ⟨g, o, none⟩ → g < w'.heap.size) ∧ Below w.heap.size w w'

def mnF (L : List (List Int)) (m : Int) (i : Nat) : Int := (L.take i).foldl (fun m l => min m ((l.length : Nat) : Int)) m
def mxF (L : List (List Int)) (i : Nat) : Int := (L.take i).foldl (fun m l => max m ((l.length : Nat) : Int)) 0
def cnF (L : List (List Int)) (lv : List Int) (i : Nat) : Bool := (L.take i).any fun l => l == lv
def smF (L : List (List Int)) (x : Int) (i : Nat) : Bool := (L.take i).any fun l => !hasI l x
def evF (L : List (List Int)) (x : Int) (i : Nat) : Bool := (L.take i).all fun l => !hasI l x
theorem mnF_s {L : List (List Int)} {i : Nat} {l : List Int} (m : Int) (h : L[i]? = some l) : mnF L m (i + 1) = min (mnF L m i) ((l.length : Nat) : Int) := by unfold mnF; rw [take_next h, List.foldl_append]; rfl
theorem mxF_s {L : List (List Int)} {i : Nat} {l : List Int} (h : L[i]? = some l) : mxF L (i + 1) = max (mxF L i) ((l.length : Nat) : Int) := by unfold mxF; rw [take_next h, List.foldl_append]; rfl
theorem cnF_s {L : List (List Int)} {i : Nat} {l : List Int} (lv : List Int) (h : L[i]? = some l) : cnF L lv (i + 1) = (cnF L lv i || (l == lv)) := by unfold cnF; rw [take_next h, List.any_append]; simp
theorem smF_s {L : List (List Int)} {i : Nat} {l : List Int} (x : Int) (h : L[i]? = some l) : smF L x (i + 1) = (smF L x i || !hasI l x) := by unfold smF; rw [take_next h, List.any_append]; simp
theorem evF_s {L : List (List Int)} {i : Nat} {l : List Int} (x : Int) (h : L[i]? = some l) : evF L x (i + 1) = (evF L x i && !hasI l x) := by unfold evF; rw [take_next h, List.all_append]; simp
theorem filt_s {xs : List Int} {i : Nat} {x : Int} (p : Int → Bool) (h : xs[i]? = some x) : (xs.take (i + 1)).filter p = (xs.take i).filter p ++ if p x = true then [x] else [] := by
  rw [take_next h, List.filter_append]
  cases hp : p x <;> simp [List.filter, hp]

theorem lvA_len {r : Rk} {xs : List Int} {ball : List Rg} (hbal : balE r xs ball = 0) : (lvA r xs ball).length ≤ 100000000 := by
  obtain ⟨hck, hb4, hbw⟩ := bal_ok hbal
  have h1 := (brdL_len hbw hb4 [] 0).1
  have h2 := (carL_len (faultN_ok (chk_ok hck).1).2.1 [] 0).1
  have e := lvR_len r xs (choices ball) (carsA r.ls)
  rw [lvR_all, List.length_map] at e
  unfold brdL at h1
  unfold carL at h2
  rw [List.length_map, List.drop_zero] at h1 h2
  rw [e]
  exact Nat.le_trans (Nat.mul_le_mul h1 h2) (by decide)
theorem lvA_row {r : Rk} {xs : List Int} {ball : List Rg} {l : List Int} (h : l ∈ lvA r xs ball) : l.length ≤ xs.length := by
  unfold lvA at h
  obtain ⟨bs, _, h⟩ := List.mem_flatMap.1 h
  obtain ⟨cs, _, rfl⟩ := List.mem_map.1 h
  exact leftL_len _ _
theorem ints_any2 (xs ys : List Int) (a b : Option Addr) (c d : Nat) (w : World) (hs : IntsAt w a xs) (ht : IntsAt w b ys) (hn : xs.length ≤ 1000) (hm : ys.length ≤ 1000) :
    Calls Tryd.prog 31 #[.slice a xs.length c, .slice b ys.length d] w fun e w' => e = .returned (.bool (decide (xs = ys))) ∧ Below w.heap.size w w' :=
  (ints_any xs ys a b c d w hs ht hn hm).mono fun e w' ⟨h1, h2⟩ => ⟨h1, ⟨h2.out.os, h2.out.tape, h2.out.output, h2.out.size, fun k hk => h2.out.block k hk (by simp)⟩⟩

set_option maxRecDepth 100000 in
set_option maxHeartbeats 32000000 in
theorem rackFalls_any (r : Rk) (xs : List Int) (a : Option Addr) (c : Nat) (ball : List Rg) (a2 : Option Addr) (c2 : Nat) (lv : List Int) (a3 : Option Addr) (c3 : Nat) (w : World)
    (hL : LinksAt w r.la r.ls) (hX : IntsAt w a xs) (hN : a = none → xs = [] ∧ c = 0) (hG : RgsAt w a2 ball) (hV : IntsAt w a3 lv) (hVN : a3 = none → lv = [] ∧ c3 = 0) (hT : TabOK w) :
    Calls Tryd.prog 5 #[r.val, .slice a xs.length c, .slice a2 ball.length c2, .slice a3 lv.length c3] w fun e w' => e = .returned (.bool true) ∧ Below w.heap.size w w' := by
  have TH := Lib.hid (fun W => thin_any r a a2 xs.length c ball.length c2 W)
  have AW := Lib.hid (fun W (hb : Below w.heap.size w W) => awake_any W (hT.lo hb))
  have S0 := Lib.hid (St.start r w)
  unfold rCells at S0
  by_cases hthin : thinB r xs.length ball.length = true
  · rw [hthin] at TH
    by_cases hv15 : lv.length ≤ 15
    · obtain ⟨b1, b2, b3⟩ := thin_bd hthin
      have FEW := Lib.hid (fun W (hb : Below w.heap.size w W) => few2_any r ball a2 c2 W (hL.lo hb) (by omega) (hG.lower hb) (by omega))
      have RA := Lib.hid (fun W (hb : Below w.heap.size w W) => show Calls Tryd.prog 18 #[.agg #[.int .i64 r.rows, .int .i64 r.mid, .int .i64 r.gap, .int .i64 r.reach, .slice r.la r.ls.length r.lc]] W (NewRkF r W) from (lawRack_any r W (hL.lo hb) (by omega)).mono fun e w' ⟨a, c, h⟩ => ⟨a, c, h⟩)
      have LX := Lib.hid (fun W (hb : Below w.heap.size w W) => lawints_any xs a c W (hX.lo hb) hN (by omega))
      have LY := Lib.hid (fun W (hb : Below w.heap.size w W) => lawints_any lv a3 c3 W (hV.lo hb) hVN (by omega))
      have BA := Lib.hid (fun W (hb : Below w.heap.size w W) => lawBall_any ball a2 c2 W (hG.lower hb) (by omega))
      have THR := Lib.hid (fun W (hb : Below w.heap.size w W) => thrown2_any r xs a c ball a2 c2 W (hL.lo hb) (by omega) (hX.lo hb) (by omega) (hG.lower hb) (by omega))
      have FAL := Lib.hid (fun W a' c' aX cX aG cG (hb : Below w.heap.size w W) (g1 : LinksAt W a' r.ls) (g2 : ∀ g o, a' = some ⟨g, o, none⟩ → g < W.heap.size) (g3 : IntsAt W aX xs) (g4 : RgsAt W aG ball) (g5 : ∀ g o, aG = some ⟨g, o, none⟩ → g < W.heap.size) =>
        show Calls Tryd.prog 35 #[.agg #[.int .i64 r.rows, .int .i64 r.mid, .int .i64 r.gap, .int .i64 r.reach, .slice a' r.ls.length c'], .slice aX xs.length cX, .slice aG ball.length cG] W (FalP (surL r xs ball) (mayL r xs ball) (balE r xs ball) W) from
        (Falls_any (r.at a' c') xs aX cX ball aG cG W g1 (show r.ls.length ≤ 1000 by omega) g2 g3 (by omega) g4 (by omega) g5 (hT.lo hb)).mono fun e w' ⟨v1, v2, h⟩ => h.falP)
      have LEF := Lib.hid (fun W a' c' aX cX aG cG (hb : Below w.heap.size w W) (g1 : LinksAt W a' r.ls) (g2 : ∀ g o, a' = some ⟨g, o, none⟩ → g < W.heap.size) (g3 : IntsAt W aX xs) (g4 : RgsAt W aG ball) (g5 : ∀ g o, aG = some ⟨g, o, none⟩ → g < W.heap.size) =>
        show Calls Tryd.prog 36 #[.agg #[.int .i64 r.rows, .int .i64 r.mid, .int .i64 r.gap, .int .i64 r.reach, .slice a' r.ls.length c'], .slice aX xs.length cX, .slice aG ball.length cG] W (fun e w' => e = .returned (.tuple #[.agg #[.int .i64 (lefV r xs ball).lo, .int .i64 (lefV r xs ball).hi], .int .i64 (balE r xs ball)]) ∧ Below W.heap.size W w') from
        Left_any (r.at a' c') xs aX cX ball aG cG W g1 (show r.ls.length ≤ 1000 by omega) g2 g3 (by omega) g4 (by omega) g5 (hT.lo hb))
      have CAN := Lib.hid (fun W a' c' aX cX aG cG aV cV (hb : Below w.heap.size w W) (g1 : LinksAt W a' r.ls) (g2 : ∀ g o, a' = some ⟨g, o, none⟩ → g < W.heap.size) (g3 : IntsAt W aX xs) (g4 : RgsAt W aG ball) (g5 : ∀ g o, aG = some ⟨g, o, none⟩ → g < W.heap.size) (g6 : IntsAt W aV lv) =>
        show Calls Tryd.prog 37 #[.agg #[.int .i64 r.rows, .int .i64 r.mid, .int .i64 r.gap, .int .i64 r.reach, .slice a' r.ls.length c'], .slice aX xs.length cX, .slice aG ball.length cG, .slice aV lv.length cV] W (fun e w' => e = .returned (.bool (canB r xs ball lv)) ∧ Below W.heap.size W w') from
        CanLeave_any (r.at a' c') xs aX cX ball aG cG lv aV cV W g1 (show r.ls.length ≤ 1000 by omega) g2 g3 (by omega) g4 (by omega) g5 g6 (by omega) (hT.lo hb))
      have LVS := Lib.hid (fun (h : balE r xs ball = 0) W (hb : Below w.heap.size w W) => leaves2_any r xs a c ball a2 c2 W (hL.lo hb) h (hX.lo hb) (hG.lower hb))
      have HFA := Lib.hid (fun (h : balE r xs ball = 0) => falls_all h)
      have HE0 := Lib.hid (show balE r xs ball ≠ 0 → surL r xs ball = [] ∧ mayL r xs ball = [] ∧ (lefV r xs ball).lo = 0 ∧ (lefV r xs ball).hi = 0 ∧ canB r xs ball lv = false from fun h => by
        unfold surL mayL lefV canB
        rw [if_neg h, if_neg h, if_neg h, beq_eq_false_iff_ne.2 h]
        exact ⟨rfl, rfl, rfl, rfl, rfl⟩)
      have HE1 := Lib.hid (show balE r xs ball = 0 → surL r xs ball = els (sureN r ball (setN xs)) ∧ mayL r xs ball = els (dif (setN xs) (stayN r ball (setN xs))) ∧ (lefV r xs ball).lo = lowN r ball (setN xs) xs.length ∧ (lefV r xs ball).hi = topN r ball (setN xs) from fun h => by
        unfold surL mayL lefV
        rw [if_pos h, if_pos h, if_pos h]
        exact ⟨rfl, rfl, rfl, rfl⟩)
      have HX := Lib.hid hX
      have HV := Lib.hid hV
      have hv15' : ¬ (15 : Int) < (lv.length : Int) := by omega
      clear hL hX hN hG hV hVN hT hthin b1 b3
      generalize surL r xs ball = SU at *
      generalize mayL r xs ball = MA at *
      generalize (lefV r xs ball).lo = LO at *
      generalize (lefV r xs ball).hi = HI at *
      generalize hCN : canB r xs ball lv = CN at *
      have HCN := Lib.hid hCN
      clear hCN
      unfold Rk.val at *
      go_enter Tryd.func5, Tryd.ntmps5
      go_wp2_with fail
      refine (TH.out _).mono ?_
      rintro e w1 ⟨rfl, hb⟩
      have S1 := Lib.hid (S0.out.go hb)
      clear hb S0
      obtain ⟨r0, r1, r2, r3, r4⟩ := S1.out.c
      go_wp2_with fail
      refine (FEW.out _ S1.out.bl).mono ?_
      rintro e w2 ⟨bf, rfl, hb⟩
      have S2 := Lib.hid (S1.out.go hb)
      clear hb S1 r0 r1 r2 r3 r4 FEW
      cases bf
      · go_wp2_with fail
        refine (AW.out _ S2.out.bl).mono ?_
        rintro e w3 ⟨rfl, hb⟩
        have S3 := Lib.hid (S2.out.go hb)
        clear hb S2
        go_wp2_with fail
        go_returns
        exact ⟨by first | done | rfl, S3.out.bl⟩
      · go_upto_region 3 with fail
        obtain ⟨r0, r1, r2, r3, r4⟩ := S2.out.c
        go_wp2_with fail
        refine (RA.out _ S2.out.bl).mono ?_
        rintro e wa1 ⟨aR1, cR1, rfl, hl, hg, hb⟩
        have S2a := Lib.hid (S2.out.go hb); have L1 := Lib.hid hl; have G1 := Lib.hid hg

        clear hb hl hg S2 r0 r1 r2 r3 r4
        go_wp2_with fail
        refine (LX.out _ S2a.out.bl).mono ?_
        rintro e wb1 ⟨aX1, cX1, rfl, hi, hb⟩
        have S2b := Lib.hid (S2a.out.go hb)
        have L1 := Lib.hid (L1.out.lo hb); have G1 := Lib.hid (fun g o e => Nat.lt_of_lt_of_le (G1.out g o e) hb.size); have X1 := Lib.hid hi

        clear hb hi S2a
        go_wp2_with fail
        refine (BA.out _ S2b.out.bl).mono ?_
        rintro e wc1 ⟨aG1, cG1, rfl, hr, hga, hb⟩
        have S2c := Lib.hid (S2b.out.go hb)
        have L1 := Lib.hid (L1.out.lo hb); have G1 := Lib.hid (fun g o e => Nat.lt_of_lt_of_le (G1.out g o e) hb.size); have X1 := Lib.hid (X1.out.lo hb); have R1 := Lib.hid hr; have Z1 := Lib.hid hga

        clear hb hr hga S2b
        go_wp2_with fail
        refine (FAL.out wc1 aR1 cR1 aX1 cX1 aG1 cG1 S2c.out.bl L1.out G1.out X1.out R1.out Z1.out).mono ?_
        rintro e w3 ⟨aS, cS, aM, cM, rfl, hi, hi2, hb⟩
        have S3 := Lib.hid (S2c.out.go hb); have SU3 := Lib.hid hi; have MA3 := Lib.hid hi2
        clear hb hi hi2 S2c L1 G1 X1 R1 Z1 FAL
        obtain ⟨r0, r1, r2, r3, r4⟩ := S3.out.c
        go_wp2_with fail
        refine (RA.out _ S3.out.bl).mono ?_
        rintro e wa2 ⟨aR2, cR2, rfl, hl, hg, hb⟩
        have S3a := Lib.hid (S3.out.go hb); have L2 := Lib.hid hl; have G2 := Lib.hid hg
        have SU3 := Lib.hid (SU3.out.lo hb); have MA3 := Lib.hid (MA3.out.lo hb)
        clear hb hl hg S3 r0 r1 r2 r3 r4
        go_wp2_with fail
        refine (LX.out _ S3a.out.bl).mono ?_
        rintro e wb2 ⟨aX2, cX2, rfl, hi, hb⟩
        have S3b := Lib.hid (S3a.out.go hb)
        have L2 := Lib.hid (L2.out.lo hb); have G2 := Lib.hid (fun g o e => Nat.lt_of_lt_of_le (G2.out g o e) hb.size); have X2 := Lib.hid hi
        have SU3 := Lib.hid (SU3.out.lo hb); have MA3 := Lib.hid (MA3.out.lo hb)
        clear hb hi S3a
        go_wp2_with fail
        refine (BA.out _ S3b.out.bl).mono ?_
        rintro e wc2 ⟨aG2, cG2, rfl, hr, hga, hb⟩
        have S3c := Lib.hid (S3b.out.go hb)
        have L2 := Lib.hid (L2.out.lo hb); have G2 := Lib.hid (fun g o e => Nat.lt_of_lt_of_le (G2.out g o e) hb.size); have X2 := Lib.hid (X2.out.lo hb); have R2 := Lib.hid hr; have Z2 := Lib.hid hga
        have SU3 := Lib.hid (SU3.out.lo hb); have MA3 := Lib.hid (MA3.out.lo hb)
        clear hb hr hga S3b
        go_wp2_with fail
        refine (LEF.out wc2 aR2 cR2 aX2 cX2 aG2 cG2 S3c.out.bl L2.out G2.out X2.out R2.out Z2.out).mono ?_
        rintro e w4 ⟨rfl, hb⟩
        have S4' := Lib.hid (S3c.out.go hb); have SU4' := Lib.hid (SU3.out.lo hb); have MA4' := Lib.hid (MA3.out.lo hb)
        clear hb S3c L2 G2 X2 R2 Z2 LEF SU3 MA3
        have BN := Lib.hid (Blk.new w4 #[.int .i64 LO, .int .i64 HI] 63)
        have hb := below_al w4 (.cells #[.int .i64 LO, .int .i64 HI] 63)
        have HGN := Lib.hid (show w.heap.size < w4.heap.size from S4'.out.bK.lt)
        have S4 := Lib.hid (S4'.out.go hb); have SU4 := Lib.hid (SU4'.out.lo hb); have MA4 := Lib.hid (MA4'.out.lo hb)
        clear hb S4' SU4' MA4'
        obtain ⟨r0, r1, r2, r3, r4⟩ := S4.out.c
        go_upto_region 5 with fail
        generalize hw5 : w4.alloc (.cells #[.int .i64 LO, .int .i64 HI] 63) = w5 at *
        generalize hgN : w4.heap.size = gN at *
        clear hw5 hgN
        have BN := Lib.hid (And.intro (BN.out.cell 0 rfl) (BN.out.cell 1 rfl))
        have KN5 := Lib.hid (fun W (hb : Below w5.heap.size w5 W) => And.intro (cell_lo hb BN.out.1) (cell_lo hb BN.out.2))
        have C5 := Lib.hid (Below.refl w5.heap.size w5)
        clear BN HGN
        go_wp2_with fail
        refine (RA.out _ S4.out.bl).mono ?_
        rintro e wa3 ⟨aR3, cR3, rfl, hl, hg, hb⟩
        have S4a := Lib.hid (S4.out.go hb); have L3 := Lib.hid hl; have G3 := Lib.hid hg
        have SU4 := Lib.hid (SU4.out.lo hb); have MA4 := Lib.hid (MA4.out.lo hb); have C5 := Lib.hid (below_go C5.out hb)
        clear hb hl hg S4 r0 r1 r2 r3 r4
        go_wp2_with fail
        refine (LX.out _ S4a.out.bl).mono ?_
        rintro e wb3 ⟨aX3, cX3, rfl, hi, hb⟩
        have S4b := Lib.hid (S4a.out.go hb)
        have L3 := Lib.hid (L3.out.lo hb); have G3 := Lib.hid (fun g o e => Nat.lt_of_lt_of_le (G3.out g o e) hb.size); have X3 := Lib.hid hi
        have SU4 := Lib.hid (SU4.out.lo hb); have MA4 := Lib.hid (MA4.out.lo hb); have C5 := Lib.hid (below_go C5.out hb)
        clear hb hi S4a
        go_wp2_with fail
        refine (BA.out _ S4b.out.bl).mono ?_
        rintro e wc3 ⟨aG3, cG3, rfl, hr, hga, hb⟩
        have S4c := Lib.hid (S4b.out.go hb)
        have L3 := Lib.hid (L3.out.lo hb); have G3 := Lib.hid (fun g o e => Nat.lt_of_lt_of_le (G3.out g o e) hb.size); have X3 := Lib.hid (X3.out.lo hb); have R3 := Lib.hid hr; have Z3 := Lib.hid hga
        have SU4 := Lib.hid (SU4.out.lo hb); have MA4 := Lib.hid (MA4.out.lo hb); have C5 := Lib.hid (below_go C5.out hb)
        clear hb hr hga S4b
        go_wp2_with fail
        refine (LY.out _ S4c.out.bl).mono ?_
        rintro e wd3 ⟨aY, cY, rfl, hi, hb⟩
        have S4d := Lib.hid (S4c.out.go hb)
        have L3 := Lib.hid (L3.out.lo hb); have G3 := Lib.hid (fun g o e => Nat.lt_of_lt_of_le (G3.out g o e) hb.size); have X3 := Lib.hid (X3.out.lo hb); have R3 := Lib.hid (R3.out.lower hb); have Z3 := Lib.hid (fun g o e => Nat.lt_of_lt_of_le (Z3.out g o e) hb.size); have Y3 := Lib.hid hi
        have SU4 := Lib.hid (SU4.out.lo hb); have MA4 := Lib.hid (MA4.out.lo hb); have C5 := Lib.hid (below_go C5.out hb)
        clear hb hi S4c
        go_wp2_with fail
        refine (CAN.out wd3 aR3 cR3 aX3 cX3 aG3 cG3 aY cY S4d.out.bl L3.out G3.out X3.out R3.out Z3.out Y3.out).mono ?_
        rintro e w6 ⟨rfl, hb⟩
        have S6 := Lib.hid (S4d.out.go hb); have SU6 := Lib.hid (SU4.out.lo hb); have MA6 := Lib.hid (MA4.out.lo hb); have C6 := Lib.hid (below_go C5.out hb)
        clear hb S4d L3 G3 X3 R3 Z3 Y3 CAN SU4 MA4 C5 RA LX LY BA
        obtain ⟨r0, r1, r2, r3, r4⟩ := S6.out.c
        go_wp2_with fail
        refine (THR.out _ S6.out.bl).mono ?_
        rintro e w7 ⟨rfl, hb⟩
        have S7 := Lib.hid (S6.out.go hb); have SU7 := Lib.hid (SU6.out.lo hb); have MA7 := Lib.hid (MA6.out.lo hb); have C7 := Lib.hid (below_go C6.out hb)
        clear hb S6 SU6 MA6 C6 THR r0 r1 r2 r3 r4
        by_cases hE : balE r xs ball = 0
        · have LV0 := Lib.hid (LVS.out hE)
          obtain ⟨q1, q2, q3, q4⟩ := HE1.out hE
          obtain ⟨f1, f2, f3, f4, f5⟩ := HFA.out hE
          have F3 := f3 lv
          rw [← q1] at f4
          rw [← q2] at f5
          rw [← q3] at f1
          rw [← q4] at f2
          rw [HCN.out] at F3
          have F1 := Lib.hid f1; have F2 := Lib.hid f2; have F3 := Lib.hid F3; have F4 := Lib.hid f4; have F5 := Lib.hid f5
          rw [lvR_all] at LV0
          have hE9 := hE
          rw [hE]
          clear LVS HFA HE0 HE1 hE f1 f2 f3 f4 f5 q1 q2 q3 q4 HCN
          have HVL := Lib.hid (lvA_len hE9)
          have HVR := Lib.hid (fun l (h : l ∈ lvA r xs ball) => lvA_row h)
          generalize lvA r xs ball = LV at *
          clear hE9
          obtain ⟨r0, r1, r2, r3, r4⟩ := S7.out.c
          go_wp2_with fail
          refine (LV0.out _ S7.out.bl).mono ?_
          rintro e w8 ⟨v8, rfl, hO, hb⟩
          have S8 := Lib.hid (S7.out.go hb); have SU8 := Lib.hid (SU7.out.lo hb); have MA8 := Lib.hid (MA7.out.lo hb); have C8 := Lib.hid (below_go C7.out hb)
          obtain ⟨aV, cV, rfl, hLL, _⟩ := hO.out
          rw [List.length_map]
          have HLV : Hid (∀ i l, LV[i]? = some l → ∃ g o a' c', aV = some ⟨g, o, none⟩ ∧ w8.cell? ⟨g, o + i, none⟩ = some (.slice a' l.length c') ∧ IntsAt w8 a' l) := Lib.hid (fun i l hl => by
            obtain ⟨g, o, a', c', e, h1, h2⟩ := hLL i (l.map (Value.int .i64)) (by rw [List.getElem?_map, hl]; rfl)
            rw [List.length_map] at h1
            exact ⟨g, o, a', c', e, h1, h2.ints⟩)
          clear hO hLL hb LV0 S7 SU7 MA7 C7 r0 r1 r2 r3 r4
          go_wp2_with fail
          have HX8 := Lib.hid (fun i x (h : xs[i]? = some x) => HX.out i x h)
          have C80 := Lib.hid (Below.refl w8.heap.size w8)
          have B8 := Lib.hid S8.out.bl
          have HV8 := Lib.hid (HV.out.lo S8.out.bl)
          have N8 := Lib.hid (fun W (hb : Below w8.heap.size w8 W) => KN5.out W (below_go C8.out hb))
          clear KN5 C8
          go_loopg [19, 20, 21, 22] LV.length (fun g s19 s20 s21 s22 wx => ∃ i : Nat, i ≤ LV.length ∧ g = LV.length - i ∧ s22 = .int .i64 (i : Int) ∧ s19 = .int .i64 (mnF LV (xs.length : Nat) i) ∧ s20 = .int .i64 (mxF LV i) ∧ s21 = .bool (cnF LV lv i) ∧ Hid (Below w8.heap.size w8 wx))
          case atStart => exact ⟨0, by omega, by omega, rfl, rfl, rfl, rfl, C80⟩
          case round =>
            obtain ⟨i, hi, rfl, rfl, rfl, rfl, rfl, hB⟩ := hrel
            clear C80
            by_cases hlt : i < LV.length
            · obtain ⟨l, hl⟩ : ∃ l, LV[i]? = some l := ⟨LV[i]'hlt, List.getElem?_eq_getElem _⟩
              obtain ⟨g, o, aR, cR, rfl, k1, hI⟩ := HLV.out i l hl
              have HM1 := Lib.hid (show mnF LV ((xs.length : Nat) : Int) (i + 1) = if ((l.length : Nat) : Int) < mnF LV ((xs.length : Nat) : Int) i then ((l.length : Nat) : Int) else mnF LV ((xs.length : Nat) : Int) i by rw [mnF_s _ hl, Int.min_def]; split <;> split <;> omega)
              have HM2 := Lib.hid (show mxF LV (i + 1) = if mxF LV i < ((l.length : Nat) : Int) then ((l.length : Nat) : Int) else mxF LV i by rw [mxF_s hl, Int.max_def]; split <;> split <;> omega)
              have HM3 := Lib.hid (show cnF LV lv (i + 1) = (cnF LV lv i || decide (l = lv)) by rw [cnF_s lv hl]; congr 1; rw [Bool.eq_iff_iff]; simp)
              have hlr := HVR.out l (List.mem_of_getElem? hl)
              have hz0 : (0 : Int) ≤ (i : Int) := by omega
              have hz1 : (i : Int) < (LV.length : Int) := by omega
              have hi9 : i ≤ 100000000 := by have := HVL.out; omega
              have DR := Lib.hid (show Below w8.heap.size w8 wr.drew from Below.drew hB.out)
              have K1 := Lib.hid (show wr.drew.cell? ⟨g, o + i, none⟩ = some (.slice aR l.length cR) from cell_lo DR.out k1)
              have IA := Lib.hid (ints_any2 l lv aR a3 cR c3 wr.drew (hI.lo DR.out) (HV8.out.lo DR.out) (by omega) (by omega))
              generalize mnF LV ((xs.length : Nat) : Int) i = mn at *
              generalize hmn2 : mnF LV ((xs.length : Nat) : Int) (i + 1) = mn2 at *
              generalize mxF LV i = mx at *
              generalize hmx2 : mxF LV (i + 1) = mx2 at *
              generalize hcn1 : cnF LV lv i = cn at *
              generalize hcn2 : cnF LV lv (i + 1) = cn2 at *
              clear hl k1 hI hB hlt
              go_wp2_with fail
              refine wp_region_held_drew (S := (fun W => W.cell? ⟨g, o + i, none⟩ = some (.slice aR l.length cR))) (by kernel_rfl) ?_ (fun hHeld => ?_)
              · (try dsimp only) <;> (with_reducible exact K1.out)
              refine wpAnyH_take (i := 0) (oi := { dst := some 121, op := Op.move (Operand.tmp 19), type := 3, pos := "law.go:166", after := #[], guard := none }) (v := ?v_fa15_0) rfl (by kernel_rfl) (by kernel_rfl) (by kernel_rfl) (fun _ _ _ h => h) (Or.inl ⟨by rfl, ?y_fa15_0⟩) (by assumption) ?_
              case y_fa15_0 => intro w hSw; (try dsimp only at hSw); go_simp; with_reducible rfl
              try simp only [Act.put, List.setIfInBounds_toArray, List.set_cons_zero, List.set_cons_succ]
              refine wpAnyH_take (i := 1) (oi := { dst := some 122, op := Op.move (Operand.tmp 16), type := 67, pos := "law.go:166", after := #[], guard := none }) (v := ?v_fa15_1) rfl (by kernel_rfl) (by kernel_rfl) (by kernel_rfl) (fun _ _ _ h => h) (Or.inl ⟨by rfl, ?y_fa15_1⟩) (by assumption) ?_
              case y_fa15_1 => intro w hSw; (try dsimp only at hSw); go_simp; with_reducible rfl
              try simp only [Act.put, List.setIfInBounds_toArray, List.set_cons_zero, List.set_cons_succ]
              refine wpAnyH_take (i := 2) (oi := { dst := some 123, op := Op.move (Operand.tmp 22), type := 3, pos := "law.go:166", after := #[], guard := none }) (v := ?v_fa15_2) rfl (by kernel_rfl) (by kernel_rfl) (by kernel_rfl) (fun _ _ _ h => h) (Or.inl ⟨by rfl, ?y_fa15_2⟩) (by assumption) ?_
              case y_fa15_2 => intro w hSw; (try dsimp only at hSw); go_simp; with_reducible rfl
              try simp only [Act.put, List.setIfInBounds_toArray, List.set_cons_zero, List.set_cons_succ]
              refine wpAnyH_take (i := 3) (oi := { dst := some 124, op := Op.indexAddr 67 (Operand.tmp 122) (Operand.tmp 123), type := 0, pos := "law.go:166", after := #[{ on := 1, ground := Ground.data }, { on := 2, ground := Ground.data }], guard := none }) (v := ?v_fa15_3) rfl (by kernel_rfl) (by kernel_rfl) (by kernel_rfl) (fun _ _ _ h => h) (Or.inl ⟨by rfl, ?y_fa15_3⟩) (by assumption) ?_
              case y_fa15_3 => intro w hSw; (try dsimp only at hSw); go_simp; with_reducible rfl
              try simp only [Act.put, List.setIfInBounds_toArray, List.set_cons_zero, List.set_cons_succ]
              refine wpAnyH_take (i := 4) (oi := { dst := some 125, op := Op.load 25 (Operand.tmp 124), type := 25, pos := "law.go:166", after := #[{ on := 3, ground := Ground.data }], guard := none }) (v := ?v_fa15_4) rfl (by kernel_rfl) (by kernel_rfl) (by kernel_rfl) (fun _ _ _ h => h) (Or.inl ⟨by rfl, ?y_fa15_4⟩) (by assumption) ?_
              case y_fa15_4 => intro w hSw; (try dsimp only at hSw); go_simp; with_reducible rfl
              try simp only [Act.put, List.setIfInBounds_toArray, List.set_cons_zero, List.set_cons_succ]
              refine wpAnyH_take (i := 5) (oi := { dst := some 126, op := Op.call { callee := Callee.builtin Builtin.len, args := #[Operand.tmp 125], argTypes := #[25] }, type := 3, pos := "law.go:166", after := #[{ on := 4, ground := Ground.data }], guard := none }) (v := ?v_fa15_5) rfl (by kernel_rfl) (by kernel_rfl) (by kernel_rfl) (fun _ _ _ h => h) (Or.inl ⟨by rfl, ?y_fa15_5⟩) (by assumption) ?_
              case y_fa15_5 => intro w hSw; (try dsimp only at hSw); go_simp; with_reducible rfl
              try simp only [Act.put, List.setIfInBounds_toArray, List.set_cons_zero, List.set_cons_succ]
              refine wpAnyH_take (i := 7) (oi := { dst := some 128, op := Op.move (Operand.tmp 20), type := 3, pos := "law.go:166", after := #[], guard := none }) (v := ?v_fa15_6) rfl (by kernel_rfl) (by kernel_rfl) (by kernel_rfl) (fun _ _ _ h => h) (Or.inl ⟨by rfl, ?y_fa15_6⟩) (by assumption) ?_
              case y_fa15_6 => intro w hSw; (try dsimp only at hSw); go_simp; with_reducible rfl
              try simp only [Act.put, List.setIfInBounds_toArray, List.set_cons_zero, List.set_cons_succ]
              refine wpAnyH_take (i := 8) (oi := { dst := some 129, op := Op.move (Operand.tmp 16), type := 67, pos := "law.go:166", after := #[], guard := none }) (v := ?v_fa15_7) rfl (by kernel_rfl) (by kernel_rfl) (by kernel_rfl) (fun _ _ _ h => h) (Or.inl ⟨by rfl, ?y_fa15_7⟩) (by assumption) ?_
              case y_fa15_7 => intro w hSw; (try dsimp only at hSw); go_simp; with_reducible rfl
              try simp only [Act.put, List.setIfInBounds_toArray, List.set_cons_zero, List.set_cons_succ]
              refine wpAnyH_take (i := 9) (oi := { dst := some 130, op := Op.move (Operand.tmp 22), type := 3, pos := "law.go:166", after := #[], guard := none }) (v := ?v_fa15_8) rfl (by kernel_rfl) (by kernel_rfl) (by kernel_rfl) (fun _ _ _ h => h) (Or.inl ⟨by rfl, ?y_fa15_8⟩) (by assumption) ?_
              case y_fa15_8 => intro w hSw; (try dsimp only at hSw); go_simp; with_reducible rfl
              try simp only [Act.put, List.setIfInBounds_toArray, List.set_cons_zero, List.set_cons_succ]
              refine wpAnyH_take (i := 10) (oi := { dst := some 131, op := Op.indexAddr 67 (Operand.tmp 129) (Operand.tmp 130), type := 0, pos := "law.go:166", after := #[{ on := 8, ground := Ground.data }, { on := 9, ground := Ground.data }], guard := none }) (v := ?v_fa15_9) rfl (by kernel_rfl) (by kernel_rfl) (by kernel_rfl) (fun _ _ _ h => h) (Or.inl ⟨by rfl, ?y_fa15_9⟩) (by assumption) ?_
              case y_fa15_9 => intro w hSw; (try dsimp only at hSw); go_simp; with_reducible rfl
              try simp only [Act.put, List.setIfInBounds_toArray, List.set_cons_zero, List.set_cons_succ]
              refine wpAnyH_take (i := 11) (oi := { dst := some 132, op := Op.load 25 (Operand.tmp 131), type := 25, pos := "law.go:166", after := #[{ on := 10, ground := Ground.data }], guard := none }) (v := ?v_fa15_10) rfl (by kernel_rfl) (by kernel_rfl) (by kernel_rfl) (fun _ _ _ h => h) (Or.inl ⟨by rfl, ?y_fa15_10⟩) (by assumption) ?_
              case y_fa15_10 => intro w hSw; (try dsimp only at hSw); go_simp; with_reducible rfl
              try simp only [Act.put, List.setIfInBounds_toArray, List.set_cons_zero, List.set_cons_succ]
              refine wpAnyH_take (i := 12) (oi := { dst := some 133, op := Op.call { callee := Callee.builtin Builtin.len, args := #[Operand.tmp 132], argTypes := #[25] }, type := 3, pos := "law.go:166", after := #[{ on := 11, ground := Ground.data }], guard := none }) (v := ?v_fa15_11) rfl (by kernel_rfl) (by kernel_rfl) (by kernel_rfl) (fun _ _ _ h => h) (Or.inl ⟨by rfl, ?y_fa15_11⟩) (by assumption) ?_
              case y_fa15_11 => intro w hSw; (try dsimp only at hSw); go_simp; with_reducible rfl
              try simp only [Act.put, List.setIfInBounds_toArray, List.set_cons_zero, List.set_cons_succ]
              refine wpAnyH_ready (rs := [6, 13]) (by kernel_rfl) (by simp) ?_
              refine AllReadyH.cons (o := { dst := some 127, op := Op.call { callee := Callee.builtin Builtin.min, args := #[Operand.tmp 121, Operand.tmp 126], argTypes := #[3, 3] }, type := 3, pos := "law.go:166", after := #[{ on := 0, ground := Ground.data }, { on := 5, ground := Ground.data }], guard := none }) rfl (fun K hK => ?_) ?_
              go_simp
              refine hK.out _ _ ?_ (fun hHeld => ?_)
              · (try dsimp only) <;> (with_reducible exact K1.out)
              clear hK K
              try simp only [Act.put, List.setIfInBounds_toArray, List.set_cons_zero, List.set_cons_succ]
              refine wpAnyH_take (i := 14) (oi := { dst := some 19, op := Op.assign (Operand.tmp 127), type := 3, pos := "law.go:166", after := #[{ on := 6, ground := Ground.data }, { on := 0, ground := Ground.phase }, { on := 1, ground := Ground.phase }, { on := 2, ground := Ground.phase }, { on := 3, ground := Ground.phase }, { on := 4, ground := Ground.phase }, { on := 5, ground := Ground.phase }, { on := 6, ground := Ground.phase }, { on := 7, ground := Ground.textOnly Departure.lateStores }, { on := 8, ground := Ground.textOnly Departure.lateStores }, { on := 9, ground := Ground.textOnly Departure.lateStores }, { on := 10, ground := Ground.textOnly Departure.lateStores }, { on := 11, ground := Ground.textOnly Departure.lateStores }, { on := 12, ground := Ground.textOnly Departure.lateStoresUnsure }, { on := 13, ground := Ground.textOnly Departure.lateStoresUnsure }], guard := none }) (v := ?v_fa15_12) rfl (by kernel_rfl) (by kernel_rfl) (by kernel_rfl) (fun _ _ _ h => h) (Or.inl ⟨by rfl, ?y_fa15_12⟩) (by assumption) ?_
              case y_fa15_12 => intro w hSw; (try dsimp only at hSw); go_simp; with_reducible rfl
              try simp only [Act.put, List.setIfInBounds_toArray, List.set_cons_zero, List.set_cons_succ]
              refine wpAnyH_ready (rs := [13]) (by kernel_rfl) (by simp) ?_
              refine AllReadyH.cons (o := { dst := some 134, op := Op.call { callee := Callee.builtin Builtin.max, args := #[Operand.tmp 128, Operand.tmp 133], argTypes := #[3, 3] }, type := 3, pos := "law.go:166", after := #[{ on := 7, ground := Ground.data }, { on := 12, ground := Ground.data }], guard := none }) rfl (fun K hK => ?_) ?_
              go_simp
              refine hK.out _ _ ?_ (fun hHeld => ?_)
              · (try dsimp only) <;> (with_reducible exact K1.out)
              clear hK K
              try simp only [Act.put, List.setIfInBounds_toArray, List.set_cons_zero, List.set_cons_succ]
              refine wpAnyH_take (i := 15) (oi := { dst := some 20, op := Op.assign (Operand.tmp 134), type := 3, pos := "law.go:166", after := #[{ on := 13, ground := Ground.data }, { on := 14, ground := Ground.chain }, { on := 0, ground := Ground.phase }, { on := 1, ground := Ground.phase }, { on := 2, ground := Ground.phase }, { on := 3, ground := Ground.phase }, { on := 4, ground := Ground.phase }, { on := 5, ground := Ground.phase }, { on := 6, ground := Ground.phase }, { on := 7, ground := Ground.phase }, { on := 8, ground := Ground.phase }, { on := 9, ground := Ground.phase }, { on := 10, ground := Ground.phase }, { on := 11, ground := Ground.phase }, { on := 12, ground := Ground.phase }, { on := 13, ground := Ground.phase }, { on := 14, ground := Ground.phase }], guard := none }) (v := ?v_fa15_13) rfl (by kernel_rfl) (by kernel_rfl) (by kernel_rfl) (fun _ _ _ h => h) (Or.inl ⟨by rfl, ?y_fa15_13⟩) (by assumption) ?_
              case y_fa15_13 => intro w hSw; (try dsimp only at hSw); go_simp; with_reducible rfl
              try simp only [Act.put, List.setIfInBounds_toArray, List.set_cons_zero, List.set_cons_succ]
              refine wpAnyH_done (by kernel_rfl) ?_ _
              rotate_left 1
              exact AllReadyH.nil
              refine AllReadyH.cons (o := { dst := some 134, op := Op.call { callee := Callee.builtin Builtin.max, args := #[Operand.tmp 128, Operand.tmp 133], argTypes := #[3, 3] }, type := 3, pos := "law.go:166", after := #[{ on := 7, ground := Ground.data }, { on := 12, ground := Ground.data }], guard := none }) rfl (fun K hK => ?_) ?_
              go_simp
              refine hK.out _ _ ?_ (fun hHeld => ?_)
              · (try dsimp only) <;> (with_reducible exact K1.out)
              clear hK K
              try simp only [Act.put, List.setIfInBounds_toArray, List.set_cons_zero, List.set_cons_succ]
              refine wpAnyH_ready (rs := [6]) (by kernel_rfl) (by simp) ?_
              refine AllReadyH.cons (o := { dst := some 127, op := Op.call { callee := Callee.builtin Builtin.min, args := #[Operand.tmp 121, Operand.tmp 126], argTypes := #[3, 3] }, type := 3, pos := "law.go:166", after := #[{ on := 0, ground := Ground.data }, { on := 5, ground := Ground.data }], guard := none }) rfl (fun K hK => ?_) ?_
              go_simp
              refine hK.out _ _ ?_ (fun hHeld => ?_)
              · (try dsimp only) <;> (with_reducible exact K1.out)
              clear hK K
              try simp only [Act.put, List.setIfInBounds_toArray, List.set_cons_zero, List.set_cons_succ]
              refine wpAnyH_take (i := 14) (oi := { dst := some 19, op := Op.assign (Operand.tmp 127), type := 3, pos := "law.go:166", after := #[{ on := 6, ground := Ground.data }, { on := 0, ground := Ground.phase }, { on := 1, ground := Ground.phase }, { on := 2, ground := Ground.phase }, { on := 3, ground := Ground.phase }, { on := 4, ground := Ground.phase }, { on := 5, ground := Ground.phase }, { on := 6, ground := Ground.phase }, { on := 7, ground := Ground.textOnly Departure.lateStores }, { on := 8, ground := Ground.textOnly Departure.lateStores }, { on := 9, ground := Ground.textOnly Departure.lateStores }, { on := 10, ground := Ground.textOnly Departure.lateStores }, { on := 11, ground := Ground.textOnly Departure.lateStores }, { on := 12, ground := Ground.textOnly Departure.lateStoresUnsure }, { on := 13, ground := Ground.textOnly Departure.lateStoresUnsure }], guard := none }) (v := ?v_fa15_14) rfl (by kernel_rfl) (by kernel_rfl) (by kernel_rfl) (fun _ _ _ h => h) (Or.inl ⟨by rfl, ?y_fa15_14⟩) (by assumption) ?_
              case y_fa15_14 => intro w hSw; (try dsimp only at hSw); go_simp; with_reducible rfl
              try simp only [Act.put, List.setIfInBounds_toArray, List.set_cons_zero, List.set_cons_succ]
              refine wpAnyH_take (i := 15) (oi := { dst := some 20, op := Op.assign (Operand.tmp 134), type := 3, pos := "law.go:166", after := #[{ on := 13, ground := Ground.data }, { on := 14, ground := Ground.chain }, { on := 0, ground := Ground.phase }, { on := 1, ground := Ground.phase }, { on := 2, ground := Ground.phase }, { on := 3, ground := Ground.phase }, { on := 4, ground := Ground.phase }, { on := 5, ground := Ground.phase }, { on := 6, ground := Ground.phase }, { on := 7, ground := Ground.phase }, { on := 8, ground := Ground.phase }, { on := 9, ground := Ground.phase }, { on := 10, ground := Ground.phase }, { on := 11, ground := Ground.phase }, { on := 12, ground := Ground.phase }, { on := 13, ground := Ground.phase }, { on := 14, ground := Ground.phase }], guard := none }) (v := ?v_fa15_15) rfl (by kernel_rfl) (by kernel_rfl) (by kernel_rfl) (fun _ _ _ h => h) (Or.inl ⟨by rfl, ?y_fa15_15⟩) (by assumption) ?_
              case y_fa15_15 => intro w hSw; (try dsimp only at hSw); go_simp; with_reducible rfl
              try simp only [Act.put, List.setIfInBounds_toArray, List.set_cons_zero, List.set_cons_succ]
              refine wpAnyH_done (by kernel_rfl) ?_ _
              rotate_left 1
              exact AllReadyH.nil
              exact AllReadyH.nil
              all_goals
                have kk := K1.out
                rw [← HM1.out, ← HM2.out]
                cases cn
                · go_wp2_with fail
                  refine IA.out.mono ?_
                  rintro e wI ⟨rfl, hb⟩
                  have B2 := Lib.hid (below_go DR.out hb)
                  clear hb kk K1 DR IA
                  go_wp2_with fail
                  go_roundg (LV.length - (i + 1))
                  case measure => omega
                  case rel => exact ⟨i + 1, by omega, rfl, by simp, by rw [hmn2], by rw [hmx2], by rw [hcn2, HM3.out]; rfl, B2⟩
                · go_wp2_with fail
                  go_roundg (LV.length - (i + 1))
                  case measure => omega
                  case rel => exact ⟨i + 1, by omega, rfl, by simp, by rw [hmn2], by rw [hmx2], by rw [hcn2, HM3.out]; rfl, DR⟩
            · have hz1 : ¬ (i : Int) < (LV.length : Int) := by omega
              obtain rfl : i = LV.length := by omega
              have e1 : mnF LV ((xs.length : Nat) : Int) LV.length = LO := by unfold mnF; rw [List.take_length]; exact F1.out
              have e2 : mxF LV LV.length = HI := by unfold mxF; rw [List.take_length]; exact F2.out
              have e3 : cnF LV lv LV.length = CN := by unfold cnF; rw [List.take_length]; exact F3.out
              rw [e1, e2, e3]
              clear e1 e2 e3 F1 F2 F3 HV8 hlt
              obtain ⟨w9, hw9⟩ : ∃ W, W = wr := ⟨_, rfl⟩
              subst hw9
              have OO := Lib.hid (show Own2 w9 w9 (.slice none 0 0) ((xs.take 0).filter fun x => LV.all fun l => !hasI l x) (.slice none 0 0) ((xs.take 0).filter fun x => LV.any fun l => !hasI l x) from ⟨OwnI.nil w9, OwnI.nil w9, fun k e => by cases e⟩)
              have HP1 : Hid (∀ x, (LV.all fun l => !hasI l x) = evF LV x LV.length) := Lib.hid (fun x => by unfold evF; rw [List.take_length])
              have HP2 : Hid (∀ x, (LV.any fun l => !hasI l x) = smF LV x LV.length) := Lib.hid (fun x => by unfold smF; rw [List.take_length])
              have HL1 := Lib.hid (fun j => show ((xs.take j).filter fun x => LV.all fun l => !hasI l x).length ≤ 15 from Nat.le_trans (List.length_filter_le _ _) (by rw [List.length_take]; omega))
              have HL2 := Lib.hid (fun j => show ((xs.take j).filter fun x => LV.any fun l => !hasI l x).length ≤ 15 from Nat.le_trans (List.length_filter_le _ _) (by rw [List.length_take]; omega))
              obtain ⟨P1, hP1⟩ : ∃ P : Int → Bool, P = fun x => LV.all fun l => !hasI l x := ⟨_, rfl⟩
              obtain ⟨P2, hP2⟩ : ∃ P : Int → Bool, P = fun x => LV.any fun l => !hasI l x := ⟨_, rfl⟩
              rw [← hP1] at F4 OO HL1
              rw [← hP2] at F5 OO HL2
              have HF1 := Lib.hid (fun i x (h : xs[i]? = some x) => filt_s P1 h)
              have HF2 := Lib.hid (fun i x (h : xs[i]? = some x) => filt_s P2 h)
              have HP1 := Lib.hid (show ∀ x, P1 x = evF LV x LV.length from fun x => by rw [hP1]; exact HP1.out x)
              have HP2 := Lib.hid (show ∀ x, P2 x = smF LV x LV.length from fun x => by rw [hP2]; exact HP2.out x)
              clear hP1 hP2
              obtain ⟨i3, hi3, hy0, hy1, hy2⟩ := info_parts info3
              go_wp2_with fail
              go_loopg [17, 18, 23, 24, 25, 26, 27] xs.length (fun g s17 s18 s23 s24 s25 s26 s27 wx => ∃ j : Nat, j ≤ xs.length ∧ g = xs.length - j ∧ s23 = .int .i64 (j : Int) ∧ Hid (Own2 w9 wx s17 ((xs.take j).filter P1) s18 ((xs.take j).filter P2)))
              case atStart => exact ⟨0, by omega, by omega, rfl, OO⟩
              case round =>
                obtain ⟨j, hj, rfl, rfl, hO⟩ := hrel
                clear OO
                by_cases hlj : j < xs.length
                · obtain ⟨x, hx⟩ : ∃ x, xs[j]? = some x := ⟨xs[j]'hlj, List.getElem?_eq_getElem _⟩
                  obtain ⟨gX, oX, rfl, kx⟩ := HX8.out j x hx
                  have KX := Lib.hid (fun W (hb : Below w9.heap.size w9 W) => cell_lo (below_go (below_go B8.out hB.out) hb) kx)
                  have hy0' : (0 : Int) ≤ (j : Int) := by omega
                  have hy1' : (j : Int) < (xs.length : Int) := by omega
                  have HQ1 := Lib.hid (HF1.out j x hx)
                  have HQ2 := Lib.hid (HF2.out j x hx)
                  have HG1 := Lib.hid (HL1.out j)
                  have HG2 := Lib.hid (HL2.out j)
                  have HPx1 := Lib.hid (HP1.out x)
                  have HPx2 := Lib.hid (HP2.out x)
                  generalize (xs.take j).filter P1 = z1 at *
                  generalize hz1' : (xs.take (j + 1)).filter P1 = y1 at *
                  generalize (xs.take j).filter P2 = z2 at *
                  generalize hz2' : (xs.take (j + 1)).filter P2 = y2 at *
                  have hx5 : xs.length ≤ 15 := b2
                  clear hx kx
                  go_wp2_with fail
                  go_loopg [24, 25, 26, 27] LV.length (fun g s24 s25 s26 s27 wx => ∃ k : Nat, k ≤ LV.length ∧ g = LV.length - k ∧ s26 = .int .i64 (k : Int) ∧ s24 = .bool (smF LV x k) ∧ s25 = .bool (evF LV x k) ∧ Hid (Own2 w9 wx u17 z1 u18 z2))
                  case atStart => exact ⟨0, by omega, by omega, rfl, rfl, rfl, hO⟩
                  case round =>
                    clear hO
                    obtain ⟨k, hk, rfl, rfl, rfl, rfl, hO⟩ := hrel
                    by_cases hlk : k < LV.length
                    · obtain ⟨l, hl⟩ : ∃ l, LV[k]? = some l := ⟨LV[k]'hlk, List.getElem?_eq_getElem _⟩
                      obtain ⟨g, o, aR, cR, rfl, k1, hI⟩ := HLV.out k l hl
                      have HS1 := Lib.hid (smF_s x hl)
                      have HS2 := Lib.hid (evF_s x hl)
                      have hlr := HVR.out l (List.mem_of_getElem? hl)
                      have hz0 : (0 : Int) ≤ (k : Int) := by omega
                      have hz1 : (k : Int) < (LV.length : Int) := by omega
                      have hi9 : k ≤ 100000000 := by have := HVL.out; omega
                      have OD := Lib.hid (hO.out.lo (Below.drew (Below.refl wr.heap.size wr)))
                      have DR := Lib.hid (below_go hB.out OD.out.o1.bl)
                      have K1 := Lib.hid (And.intro (show wr.drew.cell? ⟨g, o + k, none⟩ = some (.slice aR l.length cR) from cell_lo DR.out k1) (KX.out _ OD.out.o1.bl))
                      have HHx := Lib.hid (has_any l x aR cR wr.drew (hI.lo DR.out) (by omega))
                      generalize smF LV x k = sm at *
                      generalize hsm2 : smF LV x (k + 1) = sm2 at *
                      generalize evF LV x k = ev at *
                      generalize hev2 : evF LV x (k + 1) = ev2 at *
                      generalize hasI l x = hh at *
                      clear hl k1 hI hO hlk
                      go_wp2_with fail
                      refine wp_region_held_drew (S := (fun W => W.cell? ⟨g, o + k, none⟩ = some (.slice aR l.length cR) ∧ W.cell? ⟨gX, oX + j, none⟩ = some (.int .i64 x))) (by kernel_rfl) ?_ (fun hHeld => ?_)
                      · (try dsimp only) <;> (with_reducible exact K1.out)
                      refine wpAnyH_take (i := 0) (oi := { dst := some 156, op := Op.move (Operand.tmp 16), type := 67, pos := "law.go:172", after := #[], guard := none }) (v := ?v_fa24_16) rfl (by kernel_rfl) (by kernel_rfl) (by kernel_rfl) (fun _ _ _ h => h) (Or.inl ⟨by rfl, ?y_fa24_16⟩) (by assumption) ?_
                      case y_fa24_16 => intro w hSw; (try dsimp only at hSw); go_simp; with_reducible rfl
                      try simp only [Act.put, List.setIfInBounds_toArray, List.set_cons_zero, List.set_cons_succ]
                      refine wpAnyH_take (i := 1) (oi := { dst := some 157, op := Op.move (Operand.tmp 26), type := 3, pos := "law.go:172", after := #[], guard := none }) (v := ?v_fa24_17) rfl (by kernel_rfl) (by kernel_rfl) (by kernel_rfl) (fun _ _ _ h => h) (Or.inl ⟨by rfl, ?y_fa24_17⟩) (by assumption) ?_
                      case y_fa24_17 => intro w hSw; (try dsimp only at hSw); go_simp; with_reducible rfl
                      try simp only [Act.put, List.setIfInBounds_toArray, List.set_cons_zero, List.set_cons_succ]
                      refine wpAnyH_take (i := 2) (oi := { dst := some 158, op := Op.indexAddr 67 (Operand.tmp 156) (Operand.tmp 157), type := 0, pos := "law.go:172", after := #[{ on := 0, ground := Ground.data }, { on := 1, ground := Ground.data }], guard := none }) (v := ?v_fa24_18) rfl (by kernel_rfl) (by kernel_rfl) (by kernel_rfl) (fun _ _ _ h => h) (Or.inl ⟨by rfl, ?y_fa24_18⟩) (by assumption) ?_
                      case y_fa24_18 => intro w hSw; (try dsimp only at hSw); go_simp; with_reducible rfl
                      try simp only [Act.put, List.setIfInBounds_toArray, List.set_cons_zero, List.set_cons_succ]
                      refine wpAnyH_take (i := 3) (oi := { dst := some 159, op := Op.load 25 (Operand.tmp 158), type := 25, pos := "law.go:172", after := #[{ on := 2, ground := Ground.data }], guard := none }) (v := ?v_fa24_19) rfl (by kernel_rfl) (by kernel_rfl) (by kernel_rfl) (fun _ _ _ h => h) (Or.inl ⟨by rfl, ?y_fa24_19⟩) (by assumption) ?_
                      case y_fa24_19 => intro w hSw; (try dsimp only at hSw); go_simp; with_reducible rfl
                      try simp only [Act.put, List.setIfInBounds_toArray, List.set_cons_zero, List.set_cons_succ]
                      refine wpAnyH_take (i := 4) (oi := { dst := some 160, op := Op.move (Operand.tmp 1), type := 25, pos := "law.go:172", after := #[], guard := none }) (v := ?v_fa24_20) rfl (by kernel_rfl) (by kernel_rfl) (by kernel_rfl) (fun _ _ _ h => h) (Or.inl ⟨by rfl, ?y_fa24_20⟩) (by assumption) ?_
                      case y_fa24_20 => intro w hSw; (try dsimp only at hSw); go_simp; with_reducible rfl
                      try simp only [Act.put, List.setIfInBounds_toArray, List.set_cons_zero, List.set_cons_succ]
                      refine wpAnyH_take (i := 5) (oi := { dst := some 161, op := Op.move (Operand.tmp 23), type := 3, pos := "law.go:172", after := #[], guard := none }) (v := ?v_fa24_21) rfl (by kernel_rfl) (by kernel_rfl) (by kernel_rfl) (fun _ _ _ h => h) (Or.inl ⟨by rfl, ?y_fa24_21⟩) (by assumption) ?_
                      case y_fa24_21 => intro w hSw; (try dsimp only at hSw); go_simp; with_reducible rfl
                      try simp only [Act.put, List.setIfInBounds_toArray, List.set_cons_zero, List.set_cons_succ]
                      refine wpAnyH_take (i := 6) (oi := { dst := some 162, op := Op.indexAddr 25 (Operand.tmp 160) (Operand.tmp 161), type := 0, pos := "law.go:172", after := #[{ on := 4, ground := Ground.data }, { on := 5, ground := Ground.data }], guard := none }) (v := ?v_fa24_22) rfl (by kernel_rfl) (by kernel_rfl) (by kernel_rfl) (fun _ _ _ h => h) (Or.inl ⟨by rfl, ?y_fa24_22⟩) (by assumption) ?_
                      case y_fa24_22 => intro w hSw; (try dsimp only at hSw); go_simp; with_reducible rfl
                      try simp only [Act.put, List.setIfInBounds_toArray, List.set_cons_zero, List.set_cons_succ]
                      refine wpAnyH_take (i := 7) (oi := { dst := some 163, op := Op.load 3 (Operand.tmp 162), type := 3, pos := "law.go:172", after := #[{ on := 6, ground := Ground.data }], guard := none }) (v := ?v_fa24_23) rfl (by kernel_rfl) (by kernel_rfl) (by kernel_rfl) (fun _ _ _ h => h) (Or.inl ⟨by rfl, ?y_fa24_23⟩) (by assumption) ?_
                      case y_fa24_23 => intro w hSw; (try dsimp only at hSw); go_simp; with_reducible rfl
                      try simp only [Act.put, List.setIfInBounds_toArray, List.set_cons_zero, List.set_cons_succ]
                      refine wpAnyH_ready (rs := [8]) (by kernel_rfl) (by simp) ?_
                      refine AllReadyH.cons (o := { dst := some 164, op := Op.call { callee := Callee.value (Operand.func 39), args := #[Operand.tmp 159, Operand.tmp 163], argTypes := #[25, 3] }, type := 4, pos := "law.go:172", after := #[{ on := 3, ground := Ground.data }, { on := 7, ground := Ground.data }], guard := none }) rfl (fun K hK => ?_) ?_
                      go_simp
                      (first | (go_at_call 39; (with_reducible refine HHx.out.mono ?_); rintro e wI ⟨rfl, rfl⟩))
                      go_wp2_with fail
                      refine hK.out _ _ ?_ (fun hHeld => ?_)
                      · (try dsimp only) <;> (with_reducible exact K1.out)
                      clear hK K
                      try simp only [Act.put, List.setIfInBounds_toArray, List.set_cons_zero, List.set_cons_succ]
                      refine wpAnyH_take (i := 9) (oi := { dst := some 165, op := Op.unOp UnOp.not 4 (Operand.tmp 164), type := 4, pos := "law.go:172", after := #[{ on := 8, ground := Ground.data }], guard := none }) (v := ?v_fa24_24) rfl (by kernel_rfl) (by kernel_rfl) (by kernel_rfl) (fun _ _ _ h => h) (Or.inl ⟨by rfl, ?y_fa24_24⟩) (by assumption) ?_
                      case y_fa24_24 => intro w hSw; (try dsimp only at hSw); go_simp; with_reducible rfl
                      try simp only [Act.put, List.setIfInBounds_toArray, List.set_cons_zero, List.set_cons_succ]
                      refine wpAnyH_take (i := 10) (oi := { dst := some 27, op := Op.assign (Operand.tmp 165), type := 4, pos := "law.go:172", after := #[{ on := 9, ground := Ground.data }, { on := 8, ground := Ground.chain }, { on := 0, ground := Ground.phase }, { on := 1, ground := Ground.phase }, { on := 2, ground := Ground.phase }, { on := 3, ground := Ground.phase }, { on := 4, ground := Ground.phase }, { on := 5, ground := Ground.phase }, { on := 6, ground := Ground.phase }, { on := 7, ground := Ground.phase }, { on := 8, ground := Ground.phase }, { on := 9, ground := Ground.phase }], guard := none }) (v := ?v_fa24_25) rfl (by kernel_rfl) (by kernel_rfl) (by kernel_rfl) (fun _ _ _ h => h) (Or.inl ⟨by rfl, ?y_fa24_25⟩) (by assumption) ?_
                      case y_fa24_25 => intro w hSw; (try dsimp only at hSw); go_simp; with_reducible rfl
                      try simp only [Act.put, List.setIfInBounds_toArray, List.set_cons_zero, List.set_cons_succ]
                      refine wpAnyH_done (by kernel_rfl) ?_ _
                      rotate_left 1
                      exact AllReadyH.nil
                      clear K1 DR HHx
                      cases sm <;> cases ev <;> cases hh
                      all_goals
                        go_wp2_with fail
                        go_roundg (LV.length - (k + 1))
                        case measure => omega
                        case rel => exact ⟨k + 1, by omega, rfl, by simp, by rw [hsm2, HS1.out]; rfl, by rw [hev2, HS2.out]; rfl, OD⟩
                    · have hz1 : ¬ (k : Int) < (LV.length : Int) := by omega
                      obtain rfl : k = LV.length := by omega
                      rw [← HPx1.out, ← HPx2.out]
                      have kx := KX.out _ hO.out.o1.bl
                      have HSZ := Lib.hid (show w9.heap.size ≤ wr.heap.size from hO.out.o1.bl.size)
                      have KX9 := Lib.hid (fun W (hb : Below w9.heap.size w9 W) => KX.out W hb)
                      clear hlk KX HPx1 HPx2 HF1 HF2 HL1 HL2
                      generalize P1 x = p1 at *
                      generalize P2 x = p2 at *
                      cases p1 <;> cases p2
                      · have E1 := Lib.hid (show y1 = z1 by rw [HQ1.out]; simp)
                        have E2 := Lib.hid (show y2 = z2 by rw [HQ2.out]; simp)
                        clear HQ1 HQ2
                        go_wp2_with fail
                        go_roundg (xs.length - (j + 1))
                        case measure => omega
                        case rel => exact ⟨j + 1, by omega, rfl, by simp, by rw [hz1', hz2', E1.out, E2.out]; exact hO⟩
                      · have E1 := Lib.hid (show y1 = z1 by rw [HQ1.out]; simp)
                        have E2 := Lib.hid (show y2 = z2 ++ [x] by rw [HQ2.out]; simp)
                        have OX := Lib.hid hO.out.swap
                        clear HQ1 HQ2 hO
                        go_wp2_with (at_builtin; go_must (refine wpList_append_lies _ rfl _ _ 25 rfl w9.heap.size 3 i3 (.int .i64 0) 1 8 Tryd.underlying25 hi3 hy0 hy1 hy2 rfl (by decide) _ z2.length (z2.map (Value.int .i64)) rfl (OX.out.o1.ow.alloc _) ⟨wr.heap.size, 0, none⟩ 1 1 [.int .i64 x] rfl rfl (World.news_of_block (cs := #[.int .i64 x]) (t := 3) (fr := (0, 0)) (heap_alloc_new wr _)) (by simp [Value.oneCell']) (by decide) (by have := HG2.out; unfold maxLen; omega) (by have := HG2.out; omega) (by have := HSZ.out; simp; omega) (wr.heap.size + 1) (by simp) ?_); intro gA capA w1 hown hgrow hat hlt1; have OP := Lib.hid (OX.out.push hgrow hown hat).swap; clear hown hgrow hat hlt1)
                        go_roundg (xs.length - (j + 1))
                        case measure => omega
                        case rel => exact ⟨j + 1, by omega, rfl, by simp, by rw [hz1', hz2', E1.out, E2.out]; exact OP⟩
                      · have E1 := Lib.hid (show y1 = z1 ++ [x] by rw [HQ1.out]; simp)
                        have E2 := Lib.hid (show y2 = z2 by rw [HQ2.out]; simp)
                        have OX := Lib.hid hO.out
                        clear HQ1 HQ2 hO
                        go_wp2_with (at_builtin; go_must (refine wpList_append_lies _ rfl _ _ 25 rfl w9.heap.size 3 i3 (.int .i64 0) 1 8 Tryd.underlying25 hi3 hy0 hy1 hy2 rfl (by decide) _ z1.length (z1.map (Value.int .i64)) rfl (OX.out.o1.ow.alloc _) ⟨wr.heap.size, 0, none⟩ 1 1 [.int .i64 x] rfl rfl (World.news_of_block (cs := #[.int .i64 x]) (t := 3) (fr := (0, 0)) (heap_alloc_new wr _)) (by simp [Value.oneCell']) (by decide) (by have := HG1.out; unfold maxLen; omega) (by have := HG1.out; omega) (by have := HSZ.out; simp; omega) (wr.heap.size + 1) (by simp) ?_); intro gA capA w1 hown hgrow hat hlt1; have OP := Lib.hid (OX.out.push hgrow hown hat); clear hown hgrow hat hlt1)
                        go_roundg (xs.length - (j + 1))
                        case measure => omega
                        case rel => exact ⟨j + 1, by omega, rfl, by simp, by rw [hz1', hz2', E1.out, E2.out]; exact OP⟩
                      · have E1 := Lib.hid (show y1 = z1 ++ [x] by rw [HQ1.out]; simp)
                        have E2 := Lib.hid (show y2 = z2 ++ [x] by rw [HQ2.out]; simp)
                        have OX := Lib.hid hO.out
                        clear HQ1 HQ2 hO
                        go_upto_region 28 with (at_builtin; go_must (refine wpList_append_lies _ rfl _ _ 25 rfl w9.heap.size 3 i3 (.int .i64 0) 1 8 Tryd.underlying25 hi3 hy0 hy1 hy2 rfl (by decide) _ z1.length (z1.map (Value.int .i64)) rfl (OX.out.o1.ow.alloc _) ⟨wr.heap.size, 0, none⟩ 1 1 [.int .i64 x] rfl rfl (World.news_of_block (cs := #[.int .i64 x]) (t := 3) (fr := (0, 0)) (heap_alloc_new wr _)) (by simp [Value.oneCell']) (by decide) (by have := HG1.out; unfold maxLen; omega) (by have := HG1.out; omega) (by have := HSZ.out; simp; omega) (wr.heap.size + 1) (by simp) ?_); intro gA capA w1 hown hgrow hat hlt1; have OY := Lib.hid (OX.out.push hgrow hown hat).swap; clear hown hgrow hat hlt1)
                        have kx1 := KX9.out _ OY.out.o1.bl
                        have HSZ := Lib.hid (show w9.heap.size ≤ w1.heap.size from OY.out.o1.bl.size)
                        go_wp2_with (at_builtin; go_must (refine wpList_append_lies _ rfl _ _ 25 rfl w9.heap.size 3 i3 (.int .i64 0) 1 8 Tryd.underlying25 hi3 hy0 hy1 hy2 rfl (by decide) _ z2.length (z2.map (Value.int .i64)) rfl (OY.out.o1.ow.alloc _) ⟨w1.heap.size, 0, none⟩ 1 1 [.int .i64 x] rfl rfl (World.news_of_block (cs := #[.int .i64 x]) (t := 3) (fr := (0, 0)) (heap_alloc_new w1 _)) (by simp [Value.oneCell']) (by decide) (by have := HG2.out; unfold maxLen; omega) (by have := HG2.out; omega) (by have := HSZ.out; simp; omega) (w1.heap.size + 1) (by simp) ?_); intro gB capB w2 hown hgrow hat hlt1; have OP := Lib.hid (OY.out.push hgrow hown hat).swap; clear hown hgrow hat hlt1)
                        go_roundg (xs.length - (j + 1))
                        case measure => omega
                        case rel => exact ⟨j + 1, by omega, rfl, by simp, by rw [hz1', hz2', E1.out, E2.out]; exact OP⟩
                · have hy1' : ¬ (j : Int) < (xs.length : Int) := by omega
                  obtain rfl : j = xs.length := by omega
                  have hO2 := hO.out
                  rw [List.take_length, F4.out, F5.out] at hO2
                  obtain ⟨a11, c11, rfl, hI1, _⟩ := hO2.o1.out
                  obtain ⟨a12, c12, rfl, hI2, _⟩ := hO2.o2.out
                  have HL1 := Lib.hid (show SU.length ≤ 1000 by have := HL1.out xs.length; rw [List.take_length, F4.out] at this; omega)
                  have HL2 := Lib.hid (show MA.length ≤ 1000 by have := HL2.out xs.length; rw [List.take_length, F5.out] at this; omega)
                  have B10 := Lib.hid (below_go hB.out hO2.o1.bl)
                  have I1 := Lib.hid hI1; have I2 := Lib.hid hI2
                  have SU9 := Lib.hid (SU8.out.lo B10.out); have MA9 := Lib.hid (MA8.out.lo B10.out)
                  clear hO hO2 hI1 hI2 hlj hB F4 F5 HP1 HP2 HF1 HF2 SU8 MA8
                  go_wp2_with fail
                  refine (ints_eq SU aS a11 cS c11 SU.length SU.length wr SU9.out I1.out HL1.out rfl rfl).mono ?_
                  rintro e w11 ⟨rfl, hb⟩
                  have B11 := Lib.hid (below_go B10.out hb); have I2 := Lib.hid (I2.out.lo hb); have MA9 := Lib.hid (MA9.out.lo hb)
                  clear hb I1 SU9 B10
                  go_wp2_with fail
                  refine (ints_eq MA aM a12 cM c12 MA.length MA.length w11 MA9.out I2.out HL2.out rfl rfl).mono ?_
                  rintro e w12 ⟨rfl, hb⟩
                  have B12 := Lib.hid (below_go B11.out hb)
                  clear hb I2 MA9 B11
                  obtain ⟨n0, n1⟩ := N8.out _ B12.out
                  have BZ := Lib.hid (below_go B8.out B12.out)
                  go_wp2_with fail
                  refine (AW.out _ BZ.out).mono ?_
                  rintro e w13 ⟨rfl, hb⟩
                  have B13 := Lib.hid (below_go BZ.out hb)
                  clear hb
                  go_wp2_with fail
                  go_returns
                  exact ⟨by first | done | rfl, B13.out⟩
        · obtain ⟨rfl, rfl, rfl, rfl, rfl⟩ := HE0.out hE
          have hE' : (balE r xs ball == 0) = false := by simpa using hE
          have n5 := KN5.out _ C7.out
          obtain ⟨n0, n1⟩ := n5
          generalize balE r xs ball = E at *
          clear hE LVS HFA HE0 HE1 SU7 MA7 HCN KN5 C7
          go_wp2_with fail
          refine (AW.out _ S7.out.bl).mono ?_
          rintro e w8 ⟨rfl, hb⟩
          have S8 := Lib.hid (S7.out.go hb)
          clear hb S7
          go_wp2_with fail
          go_returns
          exact ⟨by first | done | rfl, S8.out.bl⟩
    · have hv15' : (15 : Int) < (lv.length : Int) := by omega
      clear hthin hL hX hN hG hV hVN hT
      unfold Rk.val at *
      go_enter Tryd.func5, Tryd.ntmps5
      go_wp2_with fail
      refine (TH.out _).mono ?_
      rintro e w1 ⟨rfl, hb⟩
      have S1 := Lib.hid (S0.out.go hb)
      clear hb S0
      go_wp2_with fail
      refine (AW.out _ S1.out.bl).mono ?_
      rintro e w2 ⟨rfl, hb⟩
      have S2 := Lib.hid (S1.out.go hb)
      clear hb S1
      go_wp2_with fail
      go_returns
      exact ⟨by first | done | rfl, S2.out.bl⟩
  · rw [show thinB r xs.length ball.length = false from by simpa using hthin] at TH
    clear hthin hL hX hN hG hV hVN hT
    unfold Rk.val at *
    go_enter Tryd.func5, Tryd.ntmps5
    go_wp2_with fail
    refine (TH.out _).mono ?_
    rintro e w1 ⟨rfl, hb⟩
    have S1 := Lib.hid (S0.out.go hb)
    clear hb S0
    go_wp2_with fail
    refine (AW.out _ S1.out.bl).mono ?_
    rintro e w2 ⟨rfl, hb⟩
    have S2 := Lib.hid (S1.out.go hb)
    clear hb S1
    go_wp2_with fail
    go_returns
    exact ⟨by first | done | rfl, S2.out.bl⟩

end Go.Proofs.YtaloffdkadhhnaaDoor
