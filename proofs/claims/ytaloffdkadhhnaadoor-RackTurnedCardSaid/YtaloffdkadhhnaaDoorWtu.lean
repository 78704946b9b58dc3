/- The walk of RackTurned. -/
import Derived.Test.YtaloffdkadhhnaaDoorTy
set_option linter.unusedVariables false
set_option linter.unusedSimpArgs false
namespace Go.Proofs.YtaloffdkadhhnaaDoor
open Go.RowKit

attribute [local go_sem] Oper.semAt_some

def NewRkT (r : Rk) (ls : List Lk) (w : World) (e : Ending) (w' : World) : Prop := ∃ a c, e = .returned (.agg #[.int .i64 r.rows, .int .i64 r.mid, .int .i64 r.gap, .int .i64 r.reach, .slice a ls.length c]) ∧ LinksAt w' a ls ∧ (∀ g o, a = some ⟨g, o, none⟩ → g < w'.heap.size) ∧ Below w.heap.size w w'
def TwoT (S M : List Int) (w : World) (e : Ending) (w' : World) : Prop :=
  ∃ a1 c1 a2 c2, e = .returned (.tuple #[.slice a1 S.length c1, .slice a2 M.length c2, .int .i64 0]) ∧ IntsAt w' a1 S ∧ IntsAt w' a2 M ∧ Below w.heap.size w w'
def HitT (HL : List Int) (w : World) (e : Ending) (w' : World) : Prop := ∃ a c, e = .returned (.tuple #[.slice a HL.length c, .int .i64 0]) ∧ IntsAt w' a HL ∧ Below w.heap.size w w'
theorem FsPost.twoT {r : Rk} {xs : List Int} {ball : List Rg} {w w' : World} {e : Ending} {v1 v2 : Value} (h : FsPost r xs ball w e w' v1 v2) (h0 : balE r xs ball = 0) : TwoT (els (sureN r ball (setN xs))) (els (dif (setN xs) (stayN r ball (setN xs)))) w e w' := by
  obtain ⟨h1, h2, h3, h4⟩ := h
  rw [if_pos h0] at h2 h3
  rw [h0] at h1
  obtain ⟨a, c, rfl, h2⟩ := h2
  obtain ⟨a', c', rfl, h3⟩ := h3
  exact ⟨a, c, a', c', h1, h2, h3, h4⟩
theorem HitP.hitT {r : Rk} {xs : List Int} {ball : List Rg} {bs : List Int} {cs : List Bool} {w w' : World} {e : Ending} (h : HitP r xs ball bs cs w e w') (h0 : hitE r xs ball bs cs = 0) : HitT (hitL r xs ball bs cs) w e w' := by
  obtain ⟨a, c, h1, h2, h3, _⟩ := h
  rw [h0] at h1
  exact ⟨a, c, h1, h2, h3⟩
theorem hitL_len16 (r : Rk) (xs : List Int) (ball : List Rg) (bs : List Int) (cs : List Bool) : (hitL r xs ball bs cs).length ≤ 16 := by
  unfold hitL; split
  · exact els_len
  · simp
theorem turL_len (r : Rk) (L : List Int) : (turL r L).length ≤ 10 := by
  have h := List.length_filter_le (fun p => hasI L (mir p)) (pinL r)
  have := (@pinsN_bd r).2
  have h2 := pinL_len r
  unfold turL; omega

set_option maxRecDepth 100000 in
set_option maxHeartbeats 64000000 in
theorem rackTurned_any (r : Rk) (xs : List Int) (a : Option Addr) (c : Nat) (ball : List Rg) (a2 : Option Addr) (c2 : Nat) (ws : List Int) (a3 : Option Addr) (c3 : Nat) (w : World)
    (hL : LinksAt w r.la r.ls) (hX : IntsAt w a xs) (hN : a = none → xs = [] ∧ c = 0) (hG : RgsAt w a2 ball) (hW : WordsAt w a3 ws ∧ (ws.length : Int) ≤ 9223372036854775807) (hT : TabOK w) :
    Calls Tryd.prog 11 #[r.val, .slice a xs.length c, .slice a2 ball.length c2, .slice a3 ws.length c3] w fun e w' => e = .returned (.bool true) ∧ Below w.heap.size w w' := by
  have RD := Lib.hid (fun W (hb : Below w.heap.size w W) => ready_any r xs a c ball a2 c2 W (hL.lo hb) (hX.lo hb) (hG.lower hb))
  have AW := Lib.hid (fun W (hb : Below w.heap.size w W) => awake_any W (hT.lo hb))
  have S0 := Lib.hid (St.start r w)
  unfold rCells at S0
  by_cases hrd : readyB r xs ball = true
  · have hth : thinB r xs.length ball.length = true := by unfold readyB at hrd; simp at hrd; exact hrd.1
    have hbal : balE r xs ball = 0 := by unfold readyB at hrd; simp at hrd; exact hrd.2
    obtain ⟨b1, b2, b3⟩ := thin_bd hth
    obtain ⟨hck, hb4, hbw⟩ := bal_ok hbal
    have hok := (faultN_ok (chk_ok hck).1).1
    have htn := turn_of hck
    have htr := picked_truth ws hbal
    rw [hrd] at RD
    have hbl := pickBs_len ball ws ball.length
    have hcl := pickCs_len r.ls ws r.ls.length
    have hpin := (@pinsN_bd r).2
    have hxlen : (r.ls.map mirLk).length = r.ls.length := List.length_map ..
    have hyl := turL_len r xs
    have hol : (mirB r.mid ball).length = ball.length := by unfold mirB; simp
    have PK := Lib.hid (fun W (hb : Below w.heap.size w W) => picked_any r ball a2 c2 ws a3 c3 W (hL.lo hb) (by omega) (hG.lower hb) (by omega) hbw (hW.1.lo hb) hW.2)
    have RA := Lib.hid (fun W (hb : Below w.heap.size w W) => show Calls Tryd.prog 18 #[.agg #[.int .i64 r.rows, .int .i64 r.mid, .int .i64 r.gap, .int .i64 r.reach, .slice r.la r.ls.length r.lc]] W (NewRkT r r.ls W) from (lawRack_any r W (hL.lo hb) (by omega)).mono fun e w' ⟨a, c, h⟩ => ⟨a, c, h⟩)
    have RX := Lib.hid (fun W aX cX (hb : Below w.heap.size w W) (g1 : LinksAt W aX (r.ls.map mirLk)) => show Calls Tryd.prog 18 #[.agg #[.int .i64 r.rows, .int .i64 r.mid, .int .i64 r.gap, .int .i64 r.reach, .slice aX (r.ls.map mirLk).length cX]] W (NewRkT r (r.ls.map mirLk) W) from (lawRack_any ((mirR r).at aX cX) W g1 (show (r.ls.map mirLk).length ≤ 1000 by omega)).mono fun e w' ⟨a, c, h⟩ => ⟨a, c, h⟩)
    have LX := Lib.hid (fun W (hb : Below w.heap.size w W) => lawints_any xs a c W (hX.lo hb) hN (by omega))
    have TU := Lib.hid (fun (L : List Int) a c W (hI : IntsAt W a L) (hn : L.length ≤ 1000) => show Calls Tryd.prog 52 #[.agg #[.int .i64 r.rows, .int .i64 r.mid, .int .i64 r.gap, .int .i64 r.reach, .slice r.la r.ls.length r.lc], .slice a L.length c] W (RetI (turL r L) W) from turned_any r L a c W ⟨hok.r1, hok.r2⟩ hI hn)
    have BA := Lib.hid (fun W (hb : Below w.heap.size w W) => lawBall_any ball a2 c2 W (hG.lower hb) (by omega))
    have BX := Lib.hid (fun W aO cO (g : RgsAt W aO (mirB r.mid ball)) => lawBall_any (mirB r.mid ball) aO cO W g (by omega))
    have KI := Lib.hid (fun W a1 c1 a2 c2 (hb : Below w.heap.size w W) (h1 : LinksAt W a1 r.ls) (h2 : IntsAt W a2 xs) => show Calls Tryd.prog 19 #[.agg #[.int .i64 r.rows, .int .i64 r.mid, .int .i64 r.gap, .int .i64 r.reach, .slice a1 r.ls.length c1], .slice a2 xs.length c2] W (fun e w' => e = .returned (.tuple #[.int .u8 (kindN r (setN xs)), .int .i64 0]) ∧ Below W.heap.size W w') from
      (Kind_any (r.at a1 c1) xs a2 c2 W h1 (show r.ls.length ≤ 1000 by omega) h2 (by omega) (hT.lo hb)).mono fun e w' h => by
        have e1 : chkE (r.at a1 c1) xs = 0 := hck
        have e2 : kndN (r.at a1 c1) xs = kindN r (setN xs) := by unfold kndN; rw [if_pos e1]; rfl
        rw [e1, e2] at h
        exact h)
    have KX := Lib.hid (fun W a1 c1 a2 c2 (hb : Below w.heap.size w W) (h1 : LinksAt W a1 (r.ls.map mirLk)) (h2 : IntsAt W a2 (turL r xs)) => show Calls Tryd.prog 19 #[.agg #[.int .i64 r.rows, .int .i64 r.mid, .int .i64 r.gap, .int .i64 r.reach, .slice a1 (r.ls.map mirLk).length c1], .slice a2 (turL r xs).length c2] W (fun e w' => e = .returned (.tuple #[.int .u8 (kindN r (setN xs)), .int .i64 0]) ∧ Below W.heap.size W w') from
      (Kind_any ((mirR r).at a1 c1) (turL r xs) a2 c2 W h1 (show (r.ls.map mirLk).length ≤ 1000 by omega) h2 (by omega) (hT.lo hb)).mono fun e w' h => by
        have e1 : chkE ((mirR r).at a1 c1) (turL r xs) = 0 := htn.ck
        have e2 : kndN ((mirR r).at a1 c1) (turL r xs) = kindN r (setN xs) := by unfold kndN; rw [if_pos e1]; exact kind_mir htn hck
        rw [e1, e2] at h
        exact h)
    have RDX := Lib.hid (fun W aX cX aT cT aO cO (g1 : LinksAt W aX (r.ls.map mirLk)) (g2 : IntsAt W aT (turL r xs)) (g3 : RgsAt W aO (mirB r.mid ball)) => show Calls Tryd.prog 48 #[.agg #[.int .i64 r.rows, .int .i64 r.mid, .int .i64 r.gap, .int .i64 r.reach, .slice aX (r.ls.map mirLk).length cX], .slice aT (turL r xs).length cT, .slice aO (mirB r.mid ball).length cO] W (fun e w' => e = .returned (.bool (readyB (mirR r) (turL r xs) (mirB r.mid ball))) ∧ Below W.heap.size W w') from
      ready_any ((mirR r).at aX cX) (turL r xs) aT cT (mirB r.mid ball) aO cO W g1 g2 g3)
    have hrdx : readyB (mirR r) (turL r xs) (mirB r.mid ball) = true → balE (mirR r) (turL r xs) (mirB r.mid ball) = 0 := fun h => by unfold readyB at h; simp at h; exact h.2
    have HRX := Lib.hid hrdx
    have HTA := Lib.hid (fun h => have t := turned_all (bs := pickBs ball ws ball.length) (cs := pickCs r.ls ws r.ls.length) hbal h htr; And.intro t.hE (And.intro t.hE' (And.intro t.hL (And.intro t.sL t.mL))))
    generalize pickBs ball ws ball.length = BS at *
    generalize pickCs r.ls ws r.ls.length = CS at *
    have hvl : (ovr r.mid BS).length = BS.length := by unfold ovr; simp
    have HR := Lib.hid (fun W a' c' aX cX aG cG aB cB aC cC (hb : Below w.heap.size w W) (h0 : hitE r xs ball BS CS = 0) (g1 : LinksAt W a' r.ls) (g2 : ∀ g o, a' = some ⟨g, o, none⟩ → g < W.heap.size) (g3 : IntsAt W aX xs) (g4 : RgsAt W aG ball) (g5 : IntsAt W aB BS) (g6 : BoolsAt W aC CS) =>
      show Calls Tryd.prog 27 #[.agg #[.int .i64 r.rows, .int .i64 r.mid, .int .i64 r.gap, .int .i64 r.reach, .slice a' r.ls.length c'], .slice aX xs.length cX, .slice aG ball.length cG, .slice aB BS.length cB, .slice aC CS.length cC] W (HitT (hitL r xs ball BS CS) W) from
      (Hit_any (r.at a' c') xs aX cX ball aG cG BS aB cB CS aC cC W g1 (show r.ls.length ≤ 1000 by omega) g2 g3 (by omega) g4 (by omega) g5 (by omega) g6 (by omega) (hT.lo hb)).mono fun e w' h => HitP.hitT (r := r) h h0)
    have HXX := Lib.hid (fun W a' c' aX cX aG cG aB cB aC cC (hb : Below w.heap.size w W) (h0 : hitE (mirR r) (turL r xs) (mirB r.mid ball) (ovr r.mid BS) CS = 0) (g1 : LinksAt W a' (r.ls.map mirLk)) (g2 : ∀ g o, a' = some ⟨g, o, none⟩ → g < W.heap.size) (g3 : IntsAt W aX (turL r xs)) (g4 : RgsAt W aG (mirB r.mid ball)) (g5 : IntsAt W aB (ovr r.mid BS)) (g6 : BoolsAt W aC CS) =>
      show Calls Tryd.prog 27 #[.agg #[.int .i64 r.rows, .int .i64 r.mid, .int .i64 r.gap, .int .i64 r.reach, .slice a' (r.ls.map mirLk).length c'], .slice aX (turL r xs).length cX, .slice aG (mirB r.mid ball).length cG, .slice aB (ovr r.mid BS).length cB, .slice aC CS.length cC] W (HitT (hitL (mirR r) (turL r xs) (mirB r.mid ball) (ovr r.mid BS) CS) W) from
      (Hit_any ((mirR r).at a' c') (turL r xs) aX cX (mirB r.mid ball) aG cG (ovr r.mid BS) aB cB CS aC cC W g1 (show (r.ls.map mirLk).length ≤ 1000 by omega) g2 g3 (by omega) g4 (by omega) g5 (by omega) g6 (by omega) (hT.lo hb)).mono fun e w' h => HitP.hitT (r := mirR r) h h0)
    have FR := Lib.hid (fun W a' c' aX cX aG cG (hb : Below w.heap.size w W) (g1 : LinksAt W a' r.ls) (g2 : ∀ g o, a' = some ⟨g, o, none⟩ → g < W.heap.size) (g3 : IntsAt W aX xs) (g4 : RgsAt W aG ball) (g5 : ∀ g o, aG = some ⟨g, o, none⟩ → g < W.heap.size) =>
      show Calls Tryd.prog 35 #[.agg #[.int .i64 r.rows, .int .i64 r.mid, .int .i64 r.gap, .int .i64 r.reach, .slice a' r.ls.length c'], .slice aX xs.length cX, .slice aG ball.length cG] W (TwoT (els (sureN r ball (setN xs))) (els (dif (setN xs) (stayN r ball (setN xs)))) W) from
      (Falls_any (r.at a' c') xs aX cX ball aG cG W g1 (show r.ls.length ≤ 1000 by omega) g2 g3 (by omega) g4 (by omega) g5 (hT.lo hb)).mono fun e w' ⟨v1, v2, h⟩ => h.twoT hbal)
    have FX := Lib.hid (fun (h0 : balE (mirR r) (turL r xs) (mirB r.mid ball) = 0) W a' c' aX cX aG cG (hb : Below w.heap.size w W) (g1 : LinksAt W a' (r.ls.map mirLk)) (g2 : ∀ g o, a' = some ⟨g, o, none⟩ → g < W.heap.size) (g3 : IntsAt W aX (turL r xs)) (g4 : RgsAt W aG (mirB r.mid ball)) (g5 : ∀ g o, aG = some ⟨g, o, none⟩ → g < W.heap.size) =>
      show Calls Tryd.prog 35 #[.agg #[.int .i64 r.rows, .int .i64 r.mid, .int .i64 r.gap, .int .i64 r.reach, .slice a' (r.ls.map mirLk).length c'], .slice aX (turL r xs).length cX, .slice aG (mirB r.mid ball).length cG] W (TwoT (els (sureN (mirR r) (mirB r.mid ball) (setN (turL r xs)))) (els (dif (setN (turL r xs)) (stayN (mirR r) (mirB r.mid ball) (setN (turL r xs))))) W) from
      (Falls_any ((mirR r).at a' c') (turL r xs) aX cX (mirB r.mid ball) aG cG W g1 (show (r.ls.map mirLk).length ≤ 1000 by omega) g2 g3 (by omega) g4 (by omega) g5 (hT.lo hb)).mono fun e w' ⟨v1, v2, h⟩ => h.twoT h0)
    have HH16 := Lib.hid (hitL_len16 r xs ball BS CS)
    have HS16 : Hid ((els (sureN r ball (setN xs))).length ≤ 16) := Lib.hid els_len
    have HM16 : Hid ((els (dif (setN xs) (stayN r ball (setN xs)))).length ≤ 16) := Lib.hid els_len
    have HLK := Lib.hid (fun i l (h : r.ls[i]? = some l) => htn.lb l (List.mem_of_getElem? h))
    have HBW := Lib.hid (fun i b (h : ball[i]? = some b) => rg_of hbw h)
    have HTK := Lib.hid (fun i l (h : r.ls[i]? = some l) => show (r.ls.take (i + 1)).map mirLk = (r.ls.take i).map mirLk ++ [mirLk l] by rw [take_next h, List.map_append]; rfl)
    have HT0 := Lib.hid (show (r.ls.take r.ls.length).map mirLk = r.ls.map mirLk by rw [List.take_length])
    have HTL := Lib.hid (fun i (h : i ≤ r.ls.length) => show ((r.ls.take i).map mirLk).length = i by rw [List.length_map, List.length_take]; omega)
    have HBK := Lib.hid (fun i b (h : ball[i]? = some b) => show mirB r.mid (ball.take (i + 1)) = mirB r.mid (ball.take i) ++ [⟨2 * r.mid - b.hi, 2 * r.mid - b.lo⟩] by unfold mirB; rw [take_next h, List.map_append]; rfl)
    have HBL := Lib.hid (fun i (h : i ≤ ball.length) => show (mirB r.mid (ball.take i)).length = i by unfold mirB; rw [List.length_map, List.length_take]; omega)
    have HOK := Lib.hid (fun i b (h : BS[i]? = some b) => show ovr r.mid (BS.take (i + 1)) = ovr r.mid (BS.take i) ++ [2 * r.mid - b] by unfold ovr; rw [take_next h, List.map_append]; rfl)
    have HOL := Lib.hid (fun i => show (ovr r.mid (BS.take i)).length ≤ 16 by unfold ovr; rw [List.length_map, List.length_take]; omega)
    have HBB := Lib.hid (fun b (h : b ∈ BS) => choice_bd2 hbw (truth_choice (xs := xs) (ball_len hbal) htr) b h)
    have HBSL := Lib.hid (show BS.length ≤ 10 by omega)
    have HX := Lib.hid hX; have HG := Lib.hid hG; have HLI := Lib.hid hL
    have hm1 := hok.m1; have hm2 := hok.m2
    have ew0 : IntKind.i64.wrap (2 * r.mid) = 2 * r.mid := IntWalk.i64_in _ (by omega)
    have MI := Lib.hid (fun p W (h : 0 ≤ p ∧ p ≤ 9) => mirrored_any p W h.1 h.2)
    clear hL hX hN hG hW hT hbal hth hrd htn htr hck hok hbw hrdx hxlen hol hvl hbl hcl hyl
    unfold Rk.val
    go_enter Tryd.func11, Tryd.ntmps11
    go_wp2_with fail
    refine (RD.out _ S0.out.bl).mono ?_
    rintro e w1 ⟨rfl, hb⟩
    have S1 := Lib.hid (S0.out.go hb)
    clear hb S0
    obtain ⟨r0, r1, r2, r3, r4⟩ := S1.out.c
    go_upto_region 5 with fail
    have X0 := Lib.hid (show TX r w w1.heap.size (w1.alloc (.cells #[.int .i64 r.rows, .int .i64 r.mid, .int .i64 r.gap, .int .i64 r.reach, .slice none 0 0] 24)) (.slice none 0 0) ((r.ls.take 0).map mirLk) from
      ⟨S1.out.go (below_al _ _), Blk.new _ _ _, ⟨rfl, .inl ⟨rfl, rfl⟩⟩, S1.out.bK.lt, by simp⟩)
    clear S1 r0 r1 r2 r3 r4 RD
    generalize w1.alloc _ = wX at X0 ⊢
    generalize w1.heap.size = gX at X0 ⊢
    go_wp2_with fail
    go_loopg [10, 11] r.ls.length (fun g' s10 s11 wx => ∃ (i : Nat) (v : Value), i ≤ r.ls.length ∧ g' = r.ls.length - i ∧ s10 = .int .i64 (i : Int) ∧ Hid (TX r w gX wx v ((r.ls.take i).map mirLk)))
    case atStart => exact ⟨0, _, by omega, by omega, rfl, X0⟩
    case round =>
      obtain ⟨i, v, hi, rfl, rfl, hX0⟩ := hrel
      clear X0
      by_cases hlt : i < r.ls.length
      · obtain ⟨l, hl⟩ : ∃ l, r.ls[i]? = some l := ⟨r.ls[i]'hlt, List.getElem?_eq_getElem _⟩
        obtain ⟨r0, r1, r2, r3, r4⟩ := hX0.out.st.c
        obtain ⟨g, o, hla, k1, k2, k3⟩ := HLI.out i _ hl
        have q1 := cell_lo hX0.out.st.bl k1
        have q2 := cell_lo hX0.out.st.bl k2
        have q3 := cell_lo hX0.out.st.bl k3
        rw [hla] at r4
        have hz0 : (0 : Int) ≤ (i : Int) := by omega
        have hz1 : (i : Int) < (r.ls.length : Int) := by omega
        have hlb := HLK.out i l hl
        have Mf := Lib.hid (fun W => MI.out l.fr W hlb.1)
        have Mt := Lib.hid (fun W => MI.out l.to W hlb.2)
        have HTKi := Lib.hid (HTK.out i l hl)
        have hLi := HTL.out i (by omega)
        generalize hLc : (r.ls.take i).map mirLk = Lc at *
        generalize hLd : (r.ls.take (i + 1)).map mirLk = Ld at *
        clear hla k1 k2 k3 hl hlt
        obtain ⟨fr, to, sr⟩ := l
        simp only at *
        go_upto_region 9 with fail
        clear q1 q2 q3 r0 r1 r2 r3 r4
        obtain ⟨wA, hwA⟩ : ∃ W, W = wr.alloc (.cells #[.int .i64 fr, .int .i64 to, .bool sr] 91) := ⟨_, rfl⟩
        rw [← hwA]
        have hA := below_al wr (.cells #[.int .i64 fr, .int .i64 to, .bool sr] 91)
        have bl0 := Blk.new wr #[.int .i64 fr, .int .i64 to, .bool sr] 91
        have hsz : wA.heap.size = wr.heap.size + 1 := by rw [hwA]; exact World.size_alloc ..
        rw [← hwA] at hA bl0
        have XA := hX0.out.go hA
        have hB1 := below_al wA (.cells #[.int .i64 (mir fr), .int .i64 (mir to), .bool sr] 91)
        have XD := XA.go (Below.drew hB1)
        have bl1 : Blk (wA.alloc (.cells #[.int .i64 (mir fr), .int .i64 (mir to), .bool sr] 91)).drew wr.heap.size #[.int .i64 fr, .int .i64 to, .bool sr] 91 := Blk.alt bl0 (Alt.of_below (p := fun k => wA.heap.size ≤ k) (Below.drew hB1) (fun k _ e => e)) (by omega)
        obtain ⟨gA, cA, wB, hrun, hown, hgr⟩ := app_link XD.ow ⟨mir fr, mir to, sr⟩ wA.heap.size (show Blk (wA.alloc (.cells #[.int .i64 (mir fr), .int .i64 (mir to), .bool sr] 91)).drew wA.heap.size #[.int .i64 (mir fr), .int .i64 (mir to), .bool sr] 91 from Blk.new _ _ _) XD.sz (by omega)
        obtain ⟨XN, stB, cB, zB⟩ := XD.step (l := ⟨mir fr, mir to, sr⟩) hgr hown
        have hne : v.ownBlock ≠ some wr.heap.size := fun e => by have := (hX0.out.ow.lt _ e).2; omega
        have bl2 : Blk wB wr.heap.size #[.int .i64 fr, .int .i64 to, .bool sr] 91 := (hgr.block wr.heap.size (by have := hB1.size; show wr.heap.size < (wA.alloc _).heap.size; omega) (Ne.symm hne)).trans bl1
        have bl3 := Blk.alt bl2 ((Alt.refl (fun k => k = gX) wB).setCell (q := ⟨gX, 4, none⟩) rfl (.slice (some ⟨gA, 0, none⟩) (Lc.length + 1) cA)) (by have := hX0.out.sz; omega)
        have FS := Lib.hid (fun W (h : Blk W wr.heap.size #[.int .i64 fr, .int .i64 to, .bool sr] 91) => (⟨h.cell 0 rfl, h.cell 1 rfl, h.cell 2 rfl⟩ : W.cell? ⟨wr.heap.size, 0, none⟩ = some (.int .i64 fr) ∧ W.cell? ⟨wr.heap.size, 1, none⟩ = some (.int .i64 to) ∧ W.cell? ⟨wr.heap.size, 2, none⟩ = some (.bool sr)))
        have F0 := Lib.hid (FS.out wA.drew bl0); have F1 := Lib.hid (FS.out _ bl1); have F2 := Lib.hid (FS.out _ bl2); have F3 := Lib.hid (FS.out _ bl3)
        have k4a : wA.drew.cell? ⟨gX, 4, none⟩ = some v := XA.bX.cell 4 rfl
        have k4b : (wA.alloc (.cells #[.int .i64 (mir fr), .int .i64 (mir to), .bool sr] 91)).drew.cell? ⟨gX, 4, none⟩ = some v := XD.bX.cell 4 rfl
        have XN := Lib.hid XN
        have R4 := Lib.hid hrun
        rw [hLi] at R4 XN F3
        clear hA bl0 bl1 bl2 bl3 XA XD hown hgr hne hrun stB hB1 hX0 FS hLi hwA
        clear hsz
        go_wp2_with fail
        refine wp_region_held_drew (S := (fun W => W.cell? ⟨wr.heap.size, 0, none⟩ = some (.int .i64 fr) ∧ W.cell? ⟨wr.heap.size, 1, none⟩ = some (.int .i64 to) ∧ W.cell? ⟨wr.heap.size, 2, none⟩ = some (.bool sr))) (by kernel_rfl) ?_ (fun hHeld => ?_)
        · (try dsimp only) <;> (with_reducible first | exact F0.out | exact F1.out | exact F2.out | exact F3.out)
        refine wpAnyH_take (i := 0) (oi := { dst := some 52, op := Op.fieldAddr 24 (Operand.tmp 9) 4, type := 0, pos := "outright.go:181", after := #[], guard := none }) (v := ?v_tu9_0) rfl (by kernel_rfl) (by kernel_rfl) (by kernel_rfl) (fun _ _ _ h => h) (Or.inl ⟨by rfl, ?y_tu9_0⟩) (by assumption) ?_
        case y_tu9_0 => intro w hSw; (try dsimp only at hSw); go_simp; with_reducible rfl
        try simp only [Act.put, List.setIfInBounds_toArray, List.set_cons_zero, List.set_cons_succ]
        refine wpAnyH_take (i := 2) (oi := { dst := some 54, op := Op.fieldAddr 91 (Operand.tmp 11) 0, type := 0, pos := "outright.go:181", after := #[], guard := none }) (v := ?v_tu9_1) rfl (by kernel_rfl) (by kernel_rfl) (by kernel_rfl) (fun _ _ _ h => h) (Or.inl ⟨by rfl, ?y_tu9_1⟩) (by assumption) ?_
        case y_tu9_1 => intro w hSw; (try dsimp only at hSw); go_simp; with_reducible rfl
        try simp only [Act.put, List.setIfInBounds_toArray, List.set_cons_zero, List.set_cons_succ]
        refine wpAnyH_take (i := 3) (oi := { dst := some 55, op := Op.load 3 (Operand.tmp 54), type := 3, pos := "outright.go:181", after := #[{ on := 2, ground := Ground.data }], guard := none }) (v := ?v_tu9_2) rfl (by kernel_rfl) (by kernel_rfl) (by kernel_rfl) (fun _ _ _ h => h) (Or.inl ⟨by rfl, ?y_tu9_2⟩) (by assumption) ?_
        case y_tu9_2 => intro w hSw; (try dsimp only at hSw); go_simp; with_reducible rfl
        try simp only [Act.put, List.setIfInBounds_toArray, List.set_cons_zero, List.set_cons_succ]
        refine wpAnyH_take (i := 5) (oi := { dst := some 57, op := Op.fieldAddr 91 (Operand.tmp 11) 1, type := 0, pos := "outright.go:181", after := #[], guard := none }) (v := ?v_tu9_3) rfl (by kernel_rfl) (by kernel_rfl) (by kernel_rfl) (fun _ _ _ h => h) (Or.inl ⟨by rfl, ?y_tu9_3⟩) (by assumption) ?_
        case y_tu9_3 => intro w hSw; (try dsimp only at hSw); go_simp; with_reducible rfl
        try simp only [Act.put, List.setIfInBounds_toArray, List.set_cons_zero, List.set_cons_succ]
        refine wpAnyH_take (i := 6) (oi := { dst := some 58, op := Op.load 3 (Operand.tmp 57), type := 3, pos := "outright.go:181", after := #[{ on := 5, ground := Ground.data }], guard := none }) (v := ?v_tu9_4) rfl (by kernel_rfl) (by kernel_rfl) (by kernel_rfl) (fun _ _ _ h => h) (Or.inl ⟨by rfl, ?y_tu9_4⟩) (by assumption) ?_
        case y_tu9_4 => intro w hSw; (try dsimp only at hSw); go_simp; with_reducible rfl
        try simp only [Act.put, List.setIfInBounds_toArray, List.set_cons_zero, List.set_cons_succ]
        refine wpAnyH_take (i := 8) (oi := { dst := some 60, op := Op.fieldAddr 91 (Operand.tmp 11) 2, type := 0, pos := "outright.go:181", after := #[], guard := none }) (v := ?v_tu9_5) rfl (by kernel_rfl) (by kernel_rfl) (by kernel_rfl) (fun _ _ _ h => h) (Or.inl ⟨by rfl, ?y_tu9_5⟩) (by assumption) ?_
        case y_tu9_5 => intro w hSw; (try dsimp only at hSw); go_simp; with_reducible rfl
        try simp only [Act.put, List.setIfInBounds_toArray, List.set_cons_zero, List.set_cons_succ]
        refine wpAnyH_take (i := 9) (oi := { dst := some 61, op := Op.load 4 (Operand.tmp 60), type := 4, pos := "outright.go:181", after := #[{ on := 8, ground := Ground.data }], guard := none }) (v := ?v_tu9_6) rfl (by kernel_rfl) (by kernel_rfl) (by kernel_rfl) (fun _ _ _ h => h) (Or.inl ⟨by rfl, ?y_tu9_6⟩) (by assumption) ?_
        case y_tu9_6 => intro w hSw; (try dsimp only at hSw); go_simp; with_reducible rfl
        try simp only [Act.put, List.setIfInBounds_toArray, List.set_cons_zero, List.set_cons_succ]
        refine wpAnyH_ready (rs := [1, 4]) (by kernel_rfl) (by simp) ?_
        refine AllReadyH.cons (o := { dst := some 53, op := Op.load 22 (Operand.tmp 52), type := 22, pos := "outright.go:181", after := #[{ on := 0, ground := Ground.data }], guard := none }) rfl (fun K hK => ?_) ?_
        go_simp
        refine hK.out _ _ ?_ (fun hHeld => ?_)
        · (try dsimp only) <;> (with_reducible first | exact F0.out | exact F1.out | exact F2.out | exact F3.out)
        clear hK K
        try simp only [Act.put, List.setIfInBounds_toArray, List.set_cons_zero, List.set_cons_succ]
        refine wpAnyH_ready (rs := [4]) (by kernel_rfl) (by simp) ?_
        refine AllReadyH.cons (o := { dst := some 56, op := Op.call { callee := Callee.value (Operand.func 51), args := #[Operand.tmp 55], argTypes := #[3] }, type := 3, pos := "outright.go:181", after := #[{ on := 3, ground := Ground.data }], guard := none }) rfl (fun K hK => ?_) ?_
        go_simp
        (first | ((with_reducible refine step_run4 R4.out ?_ ?_ ?_); (exact rfl); (exact rfl)) | (go_at_call 51; (with_reducible first | refine (Mf.out _).mono ?_ | refine (Mt.out _).mono ?_); rintro e wI ⟨rfl, rfl⟩))
        go_wp2_with fail
        refine hK.out _ _ ?_ (fun hHeld => ?_)
        · (try dsimp only) <;> (with_reducible first | exact F0.out | exact F1.out | exact F2.out | exact F3.out)
        clear hK K
        try simp only [Act.put, List.setIfInBounds_toArray, List.set_cons_zero, List.set_cons_succ]
        refine wpAnyH_ready (rs := [7]) (by kernel_rfl) (by simp) ?_
        refine AllReadyH.cons (o := { dst := some 59, op := Op.call { callee := Callee.value (Operand.func 51), args := #[Operand.tmp 58], argTypes := #[3] }, type := 3, pos := "outright.go:181", after := #[{ on := 6, ground := Ground.data }, { on := 4, ground := Ground.chain }], guard := none }) rfl (fun K hK => ?_) ?_
        go_simp
        (first | ((with_reducible refine step_run4 R4.out ?_ ?_ ?_); (exact rfl); (exact rfl)) | (go_at_call 51; (with_reducible first | refine (Mf.out _).mono ?_ | refine (Mt.out _).mono ?_); rintro e wI ⟨rfl, rfl⟩))
        go_wp2_with fail
        refine hK.out _ _ ?_ (fun hHeld => ?_)
        · (try dsimp only) <;> (with_reducible first | exact F0.out | exact F1.out | exact F2.out | exact F3.out)
        clear hK K
        try simp only [Act.put, List.setIfInBounds_toArray, List.set_cons_zero, List.set_cons_succ]
        refine wpAnyH_take (i := 10) (oi := { dst := some 62, op := Op.build 91 #[(0, Operand.tmp 56), (1, Operand.tmp 59), (2, Operand.tmp 61)], type := 91, pos := "outright.go:181", after := #[{ on := 4, ground := Ground.data }, { on := 7, ground := Ground.data }, { on := 9, ground := Ground.data }], guard := none }) (v := ?v_tu9_7) rfl (by kernel_rfl) (by kernel_rfl) (by kernel_rfl) (fun _ _ _ h => h) (Or.inl ⟨by rfl, ?y_tu9_7⟩) (by assumption) ?_
        case y_tu9_7 => intro w hSw; (try dsimp only at hSw); go_simp; with_reducible rfl
        try simp only [Act.put, List.setIfInBounds_toArray, List.set_cons_zero, List.set_cons_succ]
        refine wpAnyH_ready (rs := [11]) (by kernel_rfl) (by simp) ?_
        refine AllReadyH.cons (o := { dst := some 63, op := Op.buildSlice 22 1 #[(0, Operand.tmp 62)], type := 22, pos := "outright.go:181", after := #[{ on := 10, ground := Ground.data }], guard := none }) rfl (fun K hK => ?_) ?_
        go_simp
        refine hK.out _ _ ?_ (fun hHeld => ?_)
        · (try dsimp only) <;> (with_reducible first | exact F0.out | exact F1.out | exact F2.out | exact F3.out)
        clear hK K
        try simp only [Act.put, List.setIfInBounds_toArray, List.set_cons_zero, List.set_cons_succ]
        refine wpAnyH_ready (rs := [12]) (by kernel_rfl) (by simp) ?_
        refine AllReadyH.cons (o := { dst := some 64, op := Op.call { callee := Callee.builtin Builtin.append, args := #[Operand.tmp 53, Operand.tmp 63], argTypes := #[22, 22] }, type := 22, pos := "outright.go:181", after := #[{ on := 1, ground := Ground.data }, { on := 11, ground := Ground.data }, { on := 7, ground := Ground.chain }], guard := none }) rfl (fun K hK => ?_) ?_
        (first | ((with_reducible refine step_run4 R4.out ?_ ?_ ?_); (exact rfl); (exact rfl)) | (go_at_call 51; (with_reducible first | refine (Mf.out _).mono ?_ | refine (Mt.out _).mono ?_); rintro e wI ⟨rfl, rfl⟩))
        refine hK.out _ _ ?_ (fun hHeld => ?_)
        · (try dsimp only) <;> (with_reducible first | exact F0.out | exact F1.out | exact F2.out | exact F3.out)
        clear hK K
        try simp only [Act.put, List.setIfInBounds_toArray, List.set_cons_zero, List.set_cons_succ]
        refine wpAnyH_take (i := 13) (oi := { dst := some 65, op := Op.fieldAddr 24 (Operand.tmp 9) 4, type := 0, pos := "outright.go:181", after := #[{ on := 0, ground := Ground.phase }, { on := 1, ground := Ground.phase }, { on := 2, ground := Ground.phase }, { on := 3, ground := Ground.phase }, { on := 4, ground := Ground.phase }, { on := 5, ground := Ground.phase }, { on := 6, ground := Ground.phase }, { on := 7, ground := Ground.phase }, { on := 8, ground := Ground.phase }, { on := 9, ground := Ground.phase }, { on := 10, ground := Ground.phase }, { on := 11, ground := Ground.phase }, { on := 12, ground := Ground.phase }], guard := none }) (v := ?v_tu9_8) rfl (by kernel_rfl) (by kernel_rfl) (by kernel_rfl) (fun _ _ _ h => h) (Or.inl ⟨by rfl, ?y_tu9_8⟩) (by assumption) ?_
        case y_tu9_8 => intro w hSw; (try dsimp only at hSw); go_simp; with_reducible rfl
        try simp only [Act.put, List.setIfInBounds_toArray, List.set_cons_zero, List.set_cons_succ]
        refine wpAnyH_ready (rs := [14]) (by kernel_rfl) (by simp) ?_
        refine AllReadyH.cons (o := { dst := none, op := Op.store 22 (Operand.tmp 65) (Operand.tmp 64), type := 0, pos := "outright.go:181", after := #[{ on := 13, ground := Ground.data }, { on := 12, ground := Ground.data }, { on := 12, ground := Ground.chain }, { on := 0, ground := Ground.phase }, { on := 1, ground := Ground.phase }, { on := 2, ground := Ground.phase }, { on := 3, ground := Ground.phase }, { on := 4, ground := Ground.phase }, { on := 5, ground := Ground.phase }, { on := 6, ground := Ground.phase }, { on := 7, ground := Ground.phase }, { on := 8, ground := Ground.phase }, { on := 9, ground := Ground.phase }, { on := 10, ground := Ground.phase }, { on := 11, ground := Ground.phase }, { on := 12, ground := Ground.phase }], guard := none }) rfl (fun K hK => ?_) ?_
        go_simp
        refine hK.out _ _ ?_ (fun hHeld => ?_)
        · (try dsimp only) <;> (with_reducible first | exact F0.out | exact F1.out | exact F2.out | exact F3.out)
        clear hK K
        try simp only [Act.put, List.setIfInBounds_toArray, List.set_cons_zero, List.set_cons_succ]
        refine wpAnyH_done (by kernel_rfl) ?_ _
        rotate_left 1
        exact AllReadyH.nil
        exact AllReadyH.nil
        exact AllReadyH.nil
        exact AllReadyH.nil
        exact AllReadyH.nil
        refine AllReadyH.cons (o := { dst := some 56, op := Op.call { callee := Callee.value (Operand.func 51), args := #[Operand.tmp 55], argTypes := #[3] }, type := 3, pos := "outright.go:181", after := #[{ on := 3, ground := Ground.data }], guard := none }) rfl (fun K hK => ?_) ?_
        go_simp
        (first | ((with_reducible refine step_run4 R4.out ?_ ?_ ?_); (exact rfl); (exact rfl)) | (go_at_call 51; (with_reducible first | refine (Mf.out _).mono ?_ | refine (Mt.out _).mono ?_); rintro e wI ⟨rfl, rfl⟩))
        go_wp2_with fail
        refine hK.out _ _ ?_ (fun hHeld => ?_)
        · (try dsimp only) <;> (with_reducible first | exact F0.out | exact F1.out | exact F2.out | exact F3.out)
        clear hK K
        try simp only [Act.put, List.setIfInBounds_toArray, List.set_cons_zero, List.set_cons_succ]
        refine wpAnyH_ready (rs := [1, 7]) (by kernel_rfl) (by simp) ?_
        refine AllReadyH.cons (o := { dst := some 53, op := Op.load 22 (Operand.tmp 52), type := 22, pos := "outright.go:181", after := #[{ on := 0, ground := Ground.data }], guard := none }) rfl (fun K hK => ?_) ?_
        go_simp
        refine hK.out _ _ ?_ (fun hHeld => ?_)
        · (try dsimp only) <;> (with_reducible first | exact F0.out | exact F1.out | exact F2.out | exact F3.out)
        clear hK K
        try simp only [Act.put, List.setIfInBounds_toArray, List.set_cons_zero, List.set_cons_succ]
        refine wpAnyH_ready (rs := [7]) (by kernel_rfl) (by simp) ?_
        refine AllReadyH.cons (o := { dst := some 59, op := Op.call { callee := Callee.value (Operand.func 51), args := #[Operand.tmp 58], argTypes := #[3] }, type := 3, pos := "outright.go:181", after := #[{ on := 6, ground := Ground.data }, { on := 4, ground := Ground.chain }], guard := none }) rfl (fun K hK => ?_) ?_
        go_simp
        (first | ((with_reducible refine step_run4 R4.out ?_ ?_ ?_); (exact rfl); (exact rfl)) | (go_at_call 51; (with_reducible first | refine (Mf.out _).mono ?_ | refine (Mt.out _).mono ?_); rintro e wI ⟨rfl, rfl⟩))
        go_wp2_with fail
        refine hK.out _ _ ?_ (fun hHeld => ?_)
        · (try dsimp only) <;> (with_reducible first | exact F0.out | exact F1.out | exact F2.out | exact F3.out)
        clear hK K
        try simp only [Act.put, List.setIfInBounds_toArray, List.set_cons_zero, List.set_cons_succ]
        refine wpAnyH_take (i := 10) (oi := { dst := some 62, op := Op.build 91 #[(0, Operand.tmp 56), (1, Operand.tmp 59), (2, Operand.tmp 61)], type := 91, pos := "outright.go:181", after := #[{ on := 4, ground := Ground.data }, { on := 7, ground := Ground.data }, { on := 9, ground := Ground.data }], guard := none }) (v := ?v_tu9_9) rfl (by kernel_rfl) (by kernel_rfl) (by kernel_rfl) (fun _ _ _ h => h) (Or.inl ⟨by rfl, ?y_tu9_9⟩) (by assumption) ?_
        case y_tu9_9 => intro w hSw; (try dsimp only at hSw); go_simp; with_reducible rfl
        try simp only [Act.put, List.setIfInBounds_toArray, List.set_cons_zero, List.set_cons_succ]
        refine wpAnyH_ready (rs := [11]) (by kernel_rfl) (by simp) ?_
        refine AllReadyH.cons (o := { dst := some 63, op := Op.buildSlice 22 1 #[(0, Operand.tmp 62)], type := 22, pos := "outright.go:181", after := #[{ on := 10, ground := Ground.data }], guard := none }) rfl (fun K hK => ?_) ?_
        go_simp
        refine hK.out _ _ ?_ (fun hHeld => ?_)
        · (try dsimp only) <;> (with_reducible first | exact F0.out | exact F1.out | exact F2.out | exact F3.out)
        clear hK K
        try simp only [Act.put, List.setIfInBounds_toArray, List.set_cons_zero, List.set_cons_succ]
        refine wpAnyH_ready (rs := [12]) (by kernel_rfl) (by simp) ?_
        refine AllReadyH.cons (o := { dst := some 64, op := Op.call { callee := Callee.builtin Builtin.append, args := #[Operand.tmp 53, Operand.tmp 63], argTypes := #[22, 22] }, type := 22, pos := "outright.go:181", after := #[{ on := 1, ground := Ground.data }, { on := 11, ground := Ground.data }, { on := 7, ground := Ground.chain }], guard := none }) rfl (fun K hK => ?_) ?_
        (first | ((with_reducible refine step_run4 R4.out ?_ ?_ ?_); (exact rfl); (exact rfl)) | (go_at_call 51; (with_reducible first | refine (Mf.out _).mono ?_ | refine (Mt.out _).mono ?_); rintro e wI ⟨rfl, rfl⟩))
        refine hK.out _ _ ?_ (fun hHeld => ?_)
        · (try dsimp only) <;> (with_reducible first | exact F0.out | exact F1.out | exact F2.out | exact F3.out)
        clear hK K
        try simp only [Act.put, List.setIfInBounds_toArray, List.set_cons_zero, List.set_cons_succ]
        refine wpAnyH_take (i := 13) (oi := { dst := some 65, op := Op.fieldAddr 24 (Operand.tmp 9) 4, type := 0, pos := "outright.go:181", after := #[{ on := 0, ground := Ground.phase }, { on := 1, ground := Ground.phase }, { on := 2, ground := Ground.phase }, { on := 3, ground := Ground.phase }, { on := 4, ground := Ground.phase }, { on := 5, ground := Ground.phase }, { on := 6, ground := Ground.phase }, { on := 7, ground := Ground.phase }, { on := 8, ground := Ground.phase }, { on := 9, ground := Ground.phase }, { on := 10, ground := Ground.phase }, { on := 11, ground := Ground.phase }, { on := 12, ground := Ground.phase }], guard := none }) (v := ?v_tu9_10) rfl (by kernel_rfl) (by kernel_rfl) (by kernel_rfl) (fun _ _ _ h => h) (Or.inl ⟨by rfl, ?y_tu9_10⟩) (by assumption) ?_
        case y_tu9_10 => intro w hSw; (try dsimp only at hSw); go_simp; with_reducible rfl
        try simp only [Act.put, List.setIfInBounds_toArray, List.set_cons_zero, List.set_cons_succ]
        refine wpAnyH_ready (rs := [14]) (by kernel_rfl) (by simp) ?_
        refine AllReadyH.cons (o := { dst := none, op := Op.store 22 (Operand.tmp 65) (Operand.tmp 64), type := 0, pos := "outright.go:181", after := #[{ on := 13, ground := Ground.data }, { on := 12, ground := Ground.data }, { on := 12, ground := Ground.chain }, { on := 0, ground := Ground.phase }, { on := 1, ground := Ground.phase }, { on := 2, ground := Ground.phase }, { on := 3, ground := Ground.phase }, { on := 4, ground := Ground.phase }, { on := 5, ground := Ground.phase }, { on := 6, ground := Ground.phase }, { on := 7, ground := Ground.phase }, { on := 8, ground := Ground.phase }, { on := 9, ground := Ground.phase }, { on := 10, ground := Ground.phase }, { on := 11, ground := Ground.phase }, { on := 12, ground := Ground.phase }], guard := none }) rfl (fun K hK => ?_) ?_
        go_simp
        refine hK.out _ _ ?_ (fun hHeld => ?_)
        · (try dsimp only) <;> (with_reducible first | exact F0.out | exact F1.out | exact F2.out | exact F3.out)
        clear hK K
        try simp only [Act.put, List.setIfInBounds_toArray, List.set_cons_zero, List.set_cons_succ]
        refine wpAnyH_done (by kernel_rfl) ?_ _
        rotate_left 1
        exact AllReadyH.nil
        exact AllReadyH.nil
        exact AllReadyH.nil
        exact AllReadyH.nil
        refine AllReadyH.cons (o := { dst := some 59, op := Op.call { callee := Callee.value (Operand.func 51), args := #[Operand.tmp 58], argTypes := #[3] }, type := 3, pos := "outright.go:181", after := #[{ on := 6, ground := Ground.data }, { on := 4, ground := Ground.chain }], guard := none }) rfl (fun K hK => ?_) ?_
        go_simp
        (first | ((with_reducible refine step_run4 R4.out ?_ ?_ ?_); (exact rfl); (exact rfl)) | (go_at_call 51; (with_reducible first | refine (Mf.out _).mono ?_ | refine (Mt.out _).mono ?_); rintro e wI ⟨rfl, rfl⟩))
        go_wp2_with fail
        refine hK.out _ _ ?_ (fun hHeld => ?_)
        · (try dsimp only) <;> (with_reducible first | exact F0.out | exact F1.out | exact F2.out | exact F3.out)
        clear hK K
        try simp only [Act.put, List.setIfInBounds_toArray, List.set_cons_zero, List.set_cons_succ]
        refine wpAnyH_take (i := 10) (oi := { dst := some 62, op := Op.build 91 #[(0, Operand.tmp 56), (1, Operand.tmp 59), (2, Operand.tmp 61)], type := 91, pos := "outright.go:181", after := #[{ on := 4, ground := Ground.data }, { on := 7, ground := Ground.data }, { on := 9, ground := Ground.data }], guard := none }) (v := ?v_tu9_11) rfl (by kernel_rfl) (by kernel_rfl) (by kernel_rfl) (fun _ _ _ h => h) (Or.inl ⟨by rfl, ?y_tu9_11⟩) (by assumption) ?_
        case y_tu9_11 => intro w hSw; (try dsimp only at hSw); go_simp; with_reducible rfl
        try simp only [Act.put, List.setIfInBounds_toArray, List.set_cons_zero, List.set_cons_succ]
        refine wpAnyH_ready (rs := [1, 11]) (by kernel_rfl) (by simp) ?_
        refine AllReadyH.cons (o := { dst := some 53, op := Op.load 22 (Operand.tmp 52), type := 22, pos := "outright.go:181", after := #[{ on := 0, ground := Ground.data }], guard := none }) rfl (fun K hK => ?_) ?_
        go_simp
        refine hK.out _ _ ?_ (fun hHeld => ?_)
        · (try dsimp only) <;> (with_reducible first | exact F0.out | exact F1.out | exact F2.out | exact F3.out)
        clear hK K
        try simp only [Act.put, List.setIfInBounds_toArray, List.set_cons_zero, List.set_cons_succ]
        refine wpAnyH_ready (rs := [11]) (by kernel_rfl) (by simp) ?_
        refine AllReadyH.cons (o := { dst := some 63, op := Op.buildSlice 22 1 #[(0, Operand.tmp 62)], type := 22, pos := "outright.go:181", after := #[{ on := 10, ground := Ground.data }], guard := none }) rfl (fun K hK => ?_) ?_
        go_simp
        refine hK.out _ _ ?_ (fun hHeld => ?_)
        · (try dsimp only) <;> (with_reducible first | exact F0.out | exact F1.out | exact F2.out | exact F3.out)
        clear hK K
        try simp only [Act.put, List.setIfInBounds_toArray, List.set_cons_zero, List.set_cons_succ]
        refine wpAnyH_ready (rs := [12]) (by kernel_rfl) (by simp) ?_
        refine AllReadyH.cons (o := { dst := some 64, op := Op.call { callee := Callee.builtin Builtin.append, args := #[Operand.tmp 53, Operand.tmp 63], argTypes := #[22, 22] }, type := 22, pos := "outright.go:181", after := #[{ on := 1, ground := Ground.data }, { on := 11, ground := Ground.data }, { on := 7, ground := Ground.chain }], guard := none }) rfl (fun K hK => ?_) ?_
        (first | ((with_reducible refine step_run4 R4.out ?_ ?_ ?_); (exact rfl); (exact rfl)) | (go_at_call 51; (with_reducible first | refine (Mf.out _).mono ?_ | refine (Mt.out _).mono ?_); rintro e wI ⟨rfl, rfl⟩))
        refine hK.out _ _ ?_ (fun hHeld => ?_)
        · (try dsimp only) <;> (with_reducible first | exact F0.out | exact F1.out | exact F2.out | exact F3.out)
        clear hK K
        try simp only [Act.put, List.setIfInBounds_toArray, List.set_cons_zero, List.set_cons_succ]
        refine wpAnyH_take (i := 13) (oi := { dst := some 65, op := Op.fieldAddr 24 (Operand.tmp 9) 4, type := 0, pos := "outright.go:181", after := #[{ on := 0, ground := Ground.phase }, { on := 1, ground := Ground.phase }, { on := 2, ground := Ground.phase }, { on := 3, ground := Ground.phase }, { on := 4, ground := Ground.phase }, { on := 5, ground := Ground.phase }, { on := 6, ground := Ground.phase }, { on := 7, ground := Ground.phase }, { on := 8, ground := Ground.phase }, { on := 9, ground := Ground.phase }, { on := 10, ground := Ground.phase }, { on := 11, ground := Ground.phase }, { on := 12, ground := Ground.phase }], guard := none }) (v := ?v_tu9_12) rfl (by kernel_rfl) (by kernel_rfl) (by kernel_rfl) (fun _ _ _ h => h) (Or.inl ⟨by rfl, ?y_tu9_12⟩) (by assumption) ?_
        case y_tu9_12 => intro w hSw; (try dsimp only at hSw); go_simp; with_reducible rfl
        try simp only [Act.put, List.setIfInBounds_toArray, List.set_cons_zero, List.set_cons_succ]
        refine wpAnyH_ready (rs := [14]) (by kernel_rfl) (by simp) ?_
        refine AllReadyH.cons (o := { dst := none, op := Op.store 22 (Operand.tmp 65) (Operand.tmp 64), type := 0, pos := "outright.go:181", after := #[{ on := 13, ground := Ground.data }, { on := 12, ground := Ground.data }, { on := 12, ground := Ground.chain }, { on := 0, ground := Ground.phase }, { on := 1, ground := Ground.phase }, { on := 2, ground := Ground.phase }, { on := 3, ground := Ground.phase }, { on := 4, ground := Ground.phase }, { on := 5, ground := Ground.phase }, { on := 6, ground := Ground.phase }, { on := 7, ground := Ground.phase }, { on := 8, ground := Ground.phase }, { on := 9, ground := Ground.phase }, { on := 10, ground := Ground.phase }, { on := 11, ground := Ground.phase }, { on := 12, ground := Ground.phase }], guard := none }) rfl (fun K hK => ?_) ?_
        go_simp
        refine hK.out _ _ ?_ (fun hHeld => ?_)
        · (try dsimp only) <;> (with_reducible first | exact F0.out | exact F1.out | exact F2.out | exact F3.out)
        clear hK K
        try simp only [Act.put, List.setIfInBounds_toArray, List.set_cons_zero, List.set_cons_succ]
        refine wpAnyH_done (by kernel_rfl) ?_ _
        rotate_left 1
        exact AllReadyH.nil
        exact AllReadyH.nil
        exact AllReadyH.nil
        refine AllReadyH.cons (o := { dst := some 63, op := Op.buildSlice 22 1 #[(0, Operand.tmp 62)], type := 22, pos := "outright.go:181", after := #[{ on := 10, ground := Ground.data }], guard := none }) rfl (fun K hK => ?_) ?_
        go_simp
        refine hK.out _ _ ?_ (fun hHeld => ?_)
        · (try dsimp only) <;> (with_reducible first | exact F0.out | exact F1.out | exact F2.out | exact F3.out)
        clear hK K
        try simp only [Act.put, List.setIfInBounds_toArray, List.set_cons_zero, List.set_cons_succ]
        refine wpAnyH_ready (rs := [1]) (by kernel_rfl) (by simp) ?_
        refine AllReadyH.cons (o := { dst := some 53, op := Op.load 22 (Operand.tmp 52), type := 22, pos := "outright.go:181", after := #[{ on := 0, ground := Ground.data }], guard := none }) rfl (fun K hK => ?_) ?_
        go_simp
        refine hK.out _ _ ?_ (fun hHeld => ?_)
        · (try dsimp only) <;> (with_reducible first | exact F0.out | exact F1.out | exact F2.out | exact F3.out)
        clear hK K
        try simp only [Act.put, List.setIfInBounds_toArray, List.set_cons_zero, List.set_cons_succ]
        refine wpAnyH_ready (rs := [12]) (by kernel_rfl) (by simp) ?_
        refine AllReadyH.cons (o := { dst := some 64, op := Op.call { callee := Callee.builtin Builtin.append, args := #[Operand.tmp 53, Operand.tmp 63], argTypes := #[22, 22] }, type := 22, pos := "outright.go:181", after := #[{ on := 1, ground := Ground.data }, { on := 11, ground := Ground.data }, { on := 7, ground := Ground.chain }], guard := none }) rfl (fun K hK => ?_) ?_
        (first | ((with_reducible refine step_run4 R4.out ?_ ?_ ?_); (exact rfl); (exact rfl)) | (go_at_call 51; (with_reducible first | refine (Mf.out _).mono ?_ | refine (Mt.out _).mono ?_); rintro e wI ⟨rfl, rfl⟩))
        refine hK.out _ _ ?_ (fun hHeld => ?_)
        · (try dsimp only) <;> (with_reducible first | exact F0.out | exact F1.out | exact F2.out | exact F3.out)
        clear hK K
        try simp only [Act.put, List.setIfInBounds_toArray, List.set_cons_zero, List.set_cons_succ]
        refine wpAnyH_take (i := 13) (oi := { dst := some 65, op := Op.fieldAddr 24 (Operand.tmp 9) 4, type := 0, pos := "outright.go:181", after := #[{ on := 0, ground := Ground.phase }, { on := 1, ground := Ground.phase }, { on := 2, ground := Ground.phase }, { on := 3, ground := Ground.phase }, { on := 4, ground := Ground.phase }, { on := 5, ground := Ground.phase }, { on := 6, ground := Ground.phase }, { on := 7, ground := Ground.phase }, { on := 8, ground := Ground.phase }, { on := 9, ground := Ground.phase }, { on := 10, ground := Ground.phase }, { on := 11, ground := Ground.phase }, { on := 12, ground := Ground.phase }], guard := none }) (v := ?v_tu9_13) rfl (by kernel_rfl) (by kernel_rfl) (by kernel_rfl) (fun _ _ _ h => h) (Or.inl ⟨by rfl, ?y_tu9_13⟩) (by assumption) ?_
        case y_tu9_13 => intro w hSw; (try dsimp only at hSw); go_simp; with_reducible rfl
        try simp only [Act.put, List.setIfInBounds_toArray, List.set_cons_zero, List.set_cons_succ]
        refine wpAnyH_ready (rs := [14]) (by kernel_rfl) (by simp) ?_
        refine AllReadyH.cons (o := { dst := none, op := Op.store 22 (Operand.tmp 65) (Operand.tmp 64), type := 0, pos := "outright.go:181", after := #[{ on := 13, ground := Ground.data }, { on := 12, ground := Ground.data }, { on := 12, ground := Ground.chain }, { on := 0, ground := Ground.phase }, { on := 1, ground := Ground.phase }, { on := 2, ground := Ground.phase }, { on := 3, ground := Ground.phase }, { on := 4, ground := Ground.phase }, { on := 5, ground := Ground.phase }, { on := 6, ground := Ground.phase }, { on := 7, ground := Ground.phase }, { on := 8, ground := Ground.phase }, { on := 9, ground := Ground.phase }, { on := 10, ground := Ground.phase }, { on := 11, ground := Ground.phase }, { on := 12, ground := Ground.phase }], guard := none }) rfl (fun K hK => ?_) ?_
        go_simp
        refine hK.out _ _ ?_ (fun hHeld => ?_)
        · (try dsimp only) <;> (with_reducible first | exact F0.out | exact F1.out | exact F2.out | exact F3.out)
        clear hK K
        try simp only [Act.put, List.setIfInBounds_toArray, List.set_cons_zero, List.set_cons_succ]
        refine wpAnyH_done (by kernel_rfl) ?_ _
        rotate_left 1
        exact AllReadyH.nil
        exact AllReadyH.nil
        exact AllReadyH.nil
        exact AllReadyH.nil
        exact AllReadyH.nil
        exact AllReadyH.nil
        all_goals
          go_wp2_with fail
          go_roundg (r.ls.length - (i + 1))
          case measure => omega
          case rel => exact ⟨i + 1, _, by omega, rfl, by simp, by rw [hLd, HTKi.out]; exact XN⟩
      · have hz1 : ¬ (i : Int) < (r.ls.length : Int) := by omega
        obtain rfl : i = r.ls.length := by omega
        obtain ⟨r0, r1, r2, r3, r4⟩ := hX0.out.st.c
        have hX1 := hX0.out
        rw [HT0.out] at hX1
        obtain ⟨aX, cX, rfl, hLX, _⟩ := own_links91 hX1.ow
        have X1 := Lib.hid hX1; have LK1 := Lib.hid hLX
        clear hX0 hX1 hLX hlt HTK HT0 HTL HLK HLI MI
        obtain ⟨w4, hw4⟩ : ∃ W, W = wr := ⟨_, rfl⟩
        subst hw4
        have O0 := Lib.hid (show OwnH w4 w4 (.slice none 0 0) (mirB r.mid (ball.take 0)) from OwnH.nil w4)
        go_wp2_with fail
        clear r0 r1 r2 r3 r4
        go_loopg [12, 13] ball.length (fun g' s12 s13 wx => ∃ (i : Nat), i ≤ ball.length ∧ g' = ball.length - i ∧ s13 = .int .i64 (i : Int) ∧ Hid (OwnH w4 wx s12 (mirB r.mid (ball.take i))))
        case atStart => exact ⟨0, by omega, by omega, rfl, O0⟩
        case round =>
          obtain ⟨i, hi, rfl, rfl, hO⟩ := hrel
          clear O0
          by_cases hlt : i < ball.length
          · obtain ⟨b, hb⟩ : ∃ b, ball[i]? = some b := ⟨ball[i]'hlt, List.getElem?_eq_getElem _⟩
            obtain ⟨g, o, rfl, k1, k2⟩ := HG.out i _ hb
            have hz0 : (0 : Int) ≤ (i : Int) := by omega
            have hz1 : (i : Int) < (ball.length : Int) := by omega
            have hbw := HBW.out i b hb
            have HBKi := Lib.hid (HBK.out i b hb)
            have hLi := HBL.out i (by omega)
            have ew1 : IntKind.i64.wrap (2 * r.mid - b.hi) = 2 * r.mid - b.hi := IntWalk.i64_in _ (by omega)
            have ew2 : IntKind.i64.wrap (2 * r.mid - b.lo) = 2 * r.mid - b.lo := IntWalk.i64_in _ (by omega)
            generalize mirB r.mid (ball.take i) = Lc at *
            generalize hLd : mirB r.mid (ball.take (i + 1)) = Ld at *
            have KB := Lib.hid (fun W (hb : Below w4.heap.size w4 W) => And.intro (X1.out.st.go hb).c.2.1 (And.intro (cell_lo (below_go X1.out.st.bl hb) k1) (cell_lo (below_go X1.out.st.bl hb) k2)))
            have hA := below_al wr (.cells #[.int .i64 (2 * r.mid - b.hi), .int .i64 (2 * r.mid - b.lo)] 93)
            have D0 := Lib.hid (show Below w4.heap.size w4 wr.drew from Below.drew hO.out.bl)
            have OD := hO.out.lo (Below.drew hA)
            have D1 := Lib.hid (show Below w4.heap.size w4 (wr.alloc (.cells #[.int .i64 (2 * r.mid - b.hi), .int .i64 (2 * r.mid - b.lo)] 93)).drew from OD.bl)
            obtain ⟨gA, cA, wB, hrun, hown, hgr⟩ := app_range OD.ow ⟨2 * r.mid - b.hi, 2 * r.mid - b.lo⟩ wr.heap.size (show Blk (wr.alloc (.cells #[.int .i64 (2 * r.mid - b.hi), .int .i64 (2 * r.mid - b.lo)] 93)).drew wr.heap.size #[.int .i64 (2 * r.mid - b.hi), .int .i64 (2 * r.mid - b.lo)] 93 from Blk.new _ _ _) OD.bl.size (by omega)
            have ON := Lib.hid (OD.push (b := ⟨2 * r.mid - b.hi, 2 * r.mid - b.lo⟩) hgr hown)
            have D2 := Lib.hid ON.out.bl
            have R5 := Lib.hid hrun
            rw [hLi] at R5 ON
            obtain ⟨lo, hi2⟩ := b
            simp only at *
            clear hb k1 k2 hO OD hA hown hgr hrun hLi hbw hlt
            go_wp2_with fail
            refine wp_region_held_drew (S := (fun W => W.cell? ⟨w.heap.size, 1, none⟩ = some (.int .i64 r.mid) ∧ W.cell? ⟨g, o + i * 2, none⟩ = some (.int .i64 lo) ∧ W.cell? ⟨g, o + i * 2 + 1, none⟩ = some (.int .i64 hi2))) (by kernel_rfl) ?_ (fun hHeld => ?_)
            · (try dsimp only) <;> (with_reducible first | exact KB.out _ D2.out | exact KB.out _ D1.out | exact KB.out _ D0.out)
            refine wpAnyH_take (i := 0) (oi := { dst := some 72, op := Op.move (Operand.tmp 12), type := 47, pos := "outright.go:185", after := #[], guard := none }) (v := ?v_tu14_14) rfl (by kernel_rfl) (by kernel_rfl) (by kernel_rfl) (fun _ _ _ h => h) (Or.inl ⟨by rfl, ?y_tu14_14⟩) (by assumption) ?_
            case y_tu14_14 => intro w hSw; (try dsimp only at hSw); go_simp; with_reducible rfl
            try simp only [Act.put, List.setIfInBounds_toArray, List.set_cons_zero, List.set_cons_succ]
            refine wpAnyH_take (i := 1) (oi := { dst := some 73, op := Op.fieldAddr 24 (Operand.tmp 4) 1, type := 0, pos := "outright.go:185", after := #[], guard := none }) (v := ?v_tu14_15) rfl (by kernel_rfl) (by kernel_rfl) (by kernel_rfl) (fun _ _ _ h => h) (Or.inl ⟨by rfl, ?y_tu14_15⟩) (by assumption) ?_
            case y_tu14_15 => intro w hSw; (try dsimp only at hSw); go_simp; with_reducible rfl
            try simp only [Act.put, List.setIfInBounds_toArray, List.set_cons_zero, List.set_cons_succ]
            refine wpAnyH_take (i := 2) (oi := { dst := some 74, op := Op.load 3 (Operand.tmp 73), type := 3, pos := "outright.go:185", after := #[{ on := 1, ground := Ground.data }], guard := none }) (v := ?v_tu14_16) rfl (by kernel_rfl) (by kernel_rfl) (by kernel_rfl) (fun _ _ _ h => h) (Or.inl ⟨by rfl, ?y_tu14_16⟩) (by assumption) ?_
            case y_tu14_16 => intro w hSw; (try dsimp only at hSw); go_simp; with_reducible rfl
            try simp only [Act.put, List.setIfInBounds_toArray, List.set_cons_zero, List.set_cons_succ]
            refine wpAnyH_take (i := 3) (oi := { dst := some 75, op := Op.binOp BinOp.mul 3 (Operand.const (Value.int IntKind.i64 2)) (Operand.tmp 74) 3, type := 3, pos := "outright.go:185", after := #[{ on := 2, ground := Ground.data }], guard := none }) (v := ?v_tu14_17) rfl (by kernel_rfl) (by kernel_rfl) (by kernel_rfl) (fun _ _ _ h => h) (Or.inl ⟨by rfl, ?y_tu14_17⟩) (by assumption) ?_
            case y_tu14_17 => intro w hSw; (try dsimp only at hSw); go_simp; with_reducible rfl
            try simp only [Act.put, List.setIfInBounds_toArray, List.set_cons_zero, List.set_cons_succ]
            refine wpAnyH_take (i := 4) (oi := { dst := some 76, op := Op.move (Operand.tmp 2), type := 47, pos := "outright.go:185", after := #[], guard := none }) (v := ?v_tu14_18) rfl (by kernel_rfl) (by kernel_rfl) (by kernel_rfl) (fun _ _ _ h => h) (Or.inl ⟨by rfl, ?y_tu14_18⟩) (by assumption) ?_
            case y_tu14_18 => intro w hSw; (try dsimp only at hSw); go_simp; with_reducible rfl
            try simp only [Act.put, List.setIfInBounds_toArray, List.set_cons_zero, List.set_cons_succ]
            refine wpAnyH_take (i := 5) (oi := { dst := some 77, op := Op.move (Operand.tmp 13), type := 3, pos := "outright.go:185", after := #[], guard := none }) (v := ?v_tu14_19) rfl (by kernel_rfl) (by kernel_rfl) (by kernel_rfl) (fun _ _ _ h => h) (Or.inl ⟨by rfl, ?y_tu14_19⟩) (by assumption) ?_
            case y_tu14_19 => intro w hSw; (try dsimp only at hSw); go_simp; with_reducible rfl
            try simp only [Act.put, List.setIfInBounds_toArray, List.set_cons_zero, List.set_cons_succ]
            refine wpAnyH_take (i := 6) (oi := { dst := some 78, op := Op.indexAddr 47 (Operand.tmp 76) (Operand.tmp 77), type := 0, pos := "outright.go:185", after := #[{ on := 4, ground := Ground.data }, { on := 5, ground := Ground.data }], guard := none }) (v := ?v_tu14_20) rfl (by kernel_rfl) (by kernel_rfl) (by kernel_rfl) (fun _ _ _ h => h) (Or.inl ⟨by rfl, ?y_tu14_20⟩) (by assumption) ?_
            case y_tu14_20 => intro w hSw; (try dsimp only at hSw); go_simp; with_reducible rfl
            try simp only [Act.put, List.setIfInBounds_toArray, List.set_cons_zero, List.set_cons_succ]
            refine wpAnyH_take (i := 7) (oi := { dst := some 79, op := Op.fieldAddr 93 (Operand.tmp 78) 1, type := 0, pos := "outright.go:185", after := #[{ on := 6, ground := Ground.data }], guard := none }) (v := ?v_tu14_21) rfl (by kernel_rfl) (by kernel_rfl) (by kernel_rfl) (fun _ _ _ h => h) (Or.inl ⟨by rfl, ?y_tu14_21⟩) (by assumption) ?_
            case y_tu14_21 => intro w hSw; (try dsimp only at hSw); go_simp; with_reducible rfl
            try simp only [Act.put, List.setIfInBounds_toArray, List.set_cons_zero, List.set_cons_succ]
            refine wpAnyH_take (i := 8) (oi := { dst := some 80, op := Op.load 3 (Operand.tmp 79), type := 3, pos := "outright.go:185", after := #[{ on := 7, ground := Ground.data }], guard := none }) (v := ?v_tu14_22) rfl (by kernel_rfl) (by kernel_rfl) (by kernel_rfl) (fun _ _ _ h => h) (Or.inl ⟨by rfl, ?y_tu14_22⟩) (by assumption) ?_
            case y_tu14_22 => intro w hSw; (try dsimp only at hSw); go_simp; with_reducible rfl
            try simp only [Act.put, List.setIfInBounds_toArray, List.set_cons_zero, List.set_cons_succ]
            refine wpAnyH_take (i := 9) (oi := { dst := some 81, op := Op.binOp BinOp.sub 3 (Operand.tmp 75) (Operand.tmp 80) 3, type := 3, pos := "outright.go:185", after := #[{ on := 3, ground := Ground.data }, { on := 8, ground := Ground.data }], guard := none }) (v := ?v_tu14_23) rfl (by kernel_rfl) (by kernel_rfl) (by kernel_rfl) (fun _ _ _ h => h) (Or.inl ⟨by rfl, ?y_tu14_23⟩) (by assumption) ?_
            case y_tu14_23 => intro w hSw; (try dsimp only at hSw); go_simp; with_reducible rfl
            try simp only [Act.put, List.setIfInBounds_toArray, List.set_cons_zero, List.set_cons_succ]
            refine wpAnyH_take (i := 10) (oi := { dst := some 82, op := Op.fieldAddr 24 (Operand.tmp 4) 1, type := 0, pos := "outright.go:185", after := #[], guard := none }) (v := ?v_tu14_24) rfl (by kernel_rfl) (by kernel_rfl) (by kernel_rfl) (fun _ _ _ h => h) (Or.inl ⟨by rfl, ?y_tu14_24⟩) (by assumption) ?_
            case y_tu14_24 => intro w hSw; (try dsimp only at hSw); go_simp; with_reducible rfl
            try simp only [Act.put, List.setIfInBounds_toArray, List.set_cons_zero, List.set_cons_succ]
            refine wpAnyH_take (i := 11) (oi := { dst := some 83, op := Op.load 3 (Operand.tmp 82), type := 3, pos := "outright.go:185", after := #[{ on := 10, ground := Ground.data }], guard := none }) (v := ?v_tu14_25) rfl (by kernel_rfl) (by kernel_rfl) (by kernel_rfl) (fun _ _ _ h => h) (Or.inl ⟨by rfl, ?y_tu14_25⟩) (by assumption) ?_
            case y_tu14_25 => intro w hSw; (try dsimp only at hSw); go_simp; with_reducible rfl
            try simp only [Act.put, List.setIfInBounds_toArray, List.set_cons_zero, List.set_cons_succ]
            refine wpAnyH_take (i := 12) (oi := { dst := some 84, op := Op.binOp BinOp.mul 3 (Operand.const (Value.int IntKind.i64 2)) (Operand.tmp 83) 3, type := 3, pos := "outright.go:185", after := #[{ on := 11, ground := Ground.data }], guard := none }) (v := ?v_tu14_26) rfl (by kernel_rfl) (by kernel_rfl) (by kernel_rfl) (fun _ _ _ h => h) (Or.inl ⟨by rfl, ?y_tu14_26⟩) (by assumption) ?_
            case y_tu14_26 => intro w hSw; (try dsimp only at hSw); go_simp; with_reducible rfl
            try simp only [Act.put, List.setIfInBounds_toArray, List.set_cons_zero, List.set_cons_succ]
            refine wpAnyH_take (i := 13) (oi := { dst := some 85, op := Op.move (Operand.tmp 2), type := 47, pos := "outright.go:185", after := #[], guard := none }) (v := ?v_tu14_27) rfl (by kernel_rfl) (by kernel_rfl) (by kernel_rfl) (fun _ _ _ h => h) (Or.inl ⟨by rfl, ?y_tu14_27⟩) (by assumption) ?_
            case y_tu14_27 => intro w hSw; (try dsimp only at hSw); go_simp; with_reducible rfl
            try simp only [Act.put, List.setIfInBounds_toArray, List.set_cons_zero, List.set_cons_succ]
            refine wpAnyH_take (i := 14) (oi := { dst := some 86, op := Op.move (Operand.tmp 13), type := 3, pos := "outright.go:185", after := #[], guard := none }) (v := ?v_tu14_28) rfl (by kernel_rfl) (by kernel_rfl) (by kernel_rfl) (fun _ _ _ h => h) (Or.inl ⟨by rfl, ?y_tu14_28⟩) (by assumption) ?_
            case y_tu14_28 => intro w hSw; (try dsimp only at hSw); go_simp; with_reducible rfl
            try simp only [Act.put, List.setIfInBounds_toArray, List.set_cons_zero, List.set_cons_succ]
            refine wpAnyH_take (i := 15) (oi := { dst := some 87, op := Op.indexAddr 47 (Operand.tmp 85) (Operand.tmp 86), type := 0, pos := "outright.go:185", after := #[{ on := 13, ground := Ground.data }, { on := 14, ground := Ground.data }], guard := none }) (v := ?v_tu14_29) rfl (by kernel_rfl) (by kernel_rfl) (by kernel_rfl) (fun _ _ _ h => h) (Or.inl ⟨by rfl, ?y_tu14_29⟩) (by assumption) ?_
            case y_tu14_29 => intro w hSw; (try dsimp only at hSw); go_simp; with_reducible rfl
            try simp only [Act.put, List.setIfInBounds_toArray, List.set_cons_zero, List.set_cons_succ]
            refine wpAnyH_take (i := 16) (oi := { dst := some 88, op := Op.fieldAddr 93 (Operand.tmp 87) 0, type := 0, pos := "outright.go:185", after := #[{ on := 15, ground := Ground.data }], guard := none }) (v := ?v_tu14_30) rfl (by kernel_rfl) (by kernel_rfl) (by kernel_rfl) (fun _ _ _ h => h) (Or.inl ⟨by rfl, ?y_tu14_30⟩) (by assumption) ?_
            case y_tu14_30 => intro w hSw; (try dsimp only at hSw); go_simp; with_reducible rfl
            try simp only [Act.put, List.setIfInBounds_toArray, List.set_cons_zero, List.set_cons_succ]
            refine wpAnyH_take (i := 17) (oi := { dst := some 89, op := Op.load 3 (Operand.tmp 88), type := 3, pos := "outright.go:185", after := #[{ on := 16, ground := Ground.data }], guard := none }) (v := ?v_tu14_31) rfl (by kernel_rfl) (by kernel_rfl) (by kernel_rfl) (fun _ _ _ h => h) (Or.inl ⟨by rfl, ?y_tu14_31⟩) (by assumption) ?_
            case y_tu14_31 => intro w hSw; (try dsimp only at hSw); go_simp; with_reducible rfl
            try simp only [Act.put, List.setIfInBounds_toArray, List.set_cons_zero, List.set_cons_succ]
            refine wpAnyH_take (i := 18) (oi := { dst := some 90, op := Op.binOp BinOp.sub 3 (Operand.tmp 84) (Operand.tmp 89) 3, type := 3, pos := "outright.go:185", after := #[{ on := 12, ground := Ground.data }, { on := 17, ground := Ground.data }], guard := none }) (v := ?v_tu14_32) rfl (by kernel_rfl) (by kernel_rfl) (by kernel_rfl) (fun _ _ _ h => h) (Or.inl ⟨by rfl, ?y_tu14_32⟩) (by assumption) ?_
            case y_tu14_32 => intro w hSw; (try dsimp only at hSw); go_simp; with_reducible rfl
            try simp only [Act.put, List.setIfInBounds_toArray, List.set_cons_zero, List.set_cons_succ]
            refine wpAnyH_take (i := 19) (oi := { dst := some 91, op := Op.build 93 #[(0, Operand.tmp 81), (1, Operand.tmp 90)], type := 93, pos := "outright.go:185", after := #[{ on := 9, ground := Ground.data }, { on := 18, ground := Ground.data }], guard := none }) (v := ?v_tu14_33) rfl (by kernel_rfl) (by kernel_rfl) (by kernel_rfl) (fun _ _ _ h => h) (Or.inl ⟨by rfl, ?y_tu14_33⟩) (by assumption) ?_
            case y_tu14_33 => intro w hSw; (try dsimp only at hSw); go_simp; with_reducible rfl
            try simp only [Act.put, List.setIfInBounds_toArray, List.set_cons_zero, List.set_cons_succ]
            refine wpAnyH_ready (rs := [20]) (by kernel_rfl) (by simp) ?_
            refine AllReadyH.cons (o := { dst := some 92, op := Op.buildSlice 47 1 #[(0, Operand.tmp 91)], type := 47, pos := "outright.go:185", after := #[{ on := 19, ground := Ground.data }], guard := none }) rfl (fun K hK => ?_) ?_
            go_simp
            refine hK.out _ _ ?_ (fun hHeld => ?_)
            · (try dsimp only) <;> (with_reducible first | exact KB.out _ D2.out | exact KB.out _ D1.out | exact KB.out _ D0.out)
            clear hK K
            try simp only [Act.put, List.setIfInBounds_toArray, List.set_cons_zero, List.set_cons_succ]
            refine wpAnyH_ready (rs := [21]) (by kernel_rfl) (by simp) ?_
            refine AllReadyH.cons (o := { dst := some 93, op := Op.call { callee := Callee.builtin Builtin.append, args := #[Operand.tmp 72, Operand.tmp 92], argTypes := #[47, 47] }, type := 47, pos := "outright.go:185", after := #[{ on := 0, ground := Ground.data }, { on := 20, ground := Ground.data }], guard := none }) rfl (fun K hK => ?_) ?_
            (first | ((with_reducible refine step_run4 R5.out ?_ ?_ ?_); (exact rfl); (exact rfl)))
            refine hK.out _ _ ?_ (fun hHeld => ?_)
            · (try dsimp only) <;> (with_reducible first | exact KB.out _ D2.out | exact KB.out _ D1.out | exact KB.out _ D0.out)
            clear hK K
            try simp only [Act.put, List.setIfInBounds_toArray, List.set_cons_zero, List.set_cons_succ]
            refine wpAnyH_take (i := 22) (oi := { dst := some 12, op := Op.assign (Operand.tmp 93), type := 47, pos := "outright.go:185", after := #[{ on := 21, ground := Ground.data }, { on := 21, ground := Ground.chain }, { on := 0, ground := Ground.phase }, { on := 1, ground := Ground.phase }, { on := 2, ground := Ground.phase }, { on := 3, ground := Ground.phase }, { on := 4, ground := Ground.phase }, { on := 5, ground := Ground.phase }, { on := 6, ground := Ground.phase }, { on := 7, ground := Ground.phase }, { on := 8, ground := Ground.phase }, { on := 9, ground := Ground.phase }, { on := 10, ground := Ground.phase }, { on := 11, ground := Ground.phase }, { on := 12, ground := Ground.phase }, { on := 13, ground := Ground.phase }, { on := 14, ground := Ground.phase }, { on := 15, ground := Ground.phase }, { on := 16, ground := Ground.phase }, { on := 17, ground := Ground.phase }, { on := 18, ground := Ground.phase }, { on := 19, ground := Ground.phase }, { on := 20, ground := Ground.phase }, { on := 21, ground := Ground.phase }], guard := none }) (v := ?v_tu14_34) rfl (by kernel_rfl) (by kernel_rfl) (by kernel_rfl) (fun _ _ _ h => h) (Or.inl ⟨by rfl, ?y_tu14_34⟩) (by assumption) ?_
            case y_tu14_34 => intro w hSw; (try dsimp only at hSw); go_simp; with_reducible rfl
            try simp only [Act.put, List.setIfInBounds_toArray, List.set_cons_zero, List.set_cons_succ]
            refine wpAnyH_done (by kernel_rfl) ?_ _
            rotate_left 1
            exact AllReadyH.nil
            exact AllReadyH.nil
            all_goals
              go_wp2_with fail
              go_roundg (ball.length - (i + 1))
              case measure => omega
              case rel => exact ⟨i + 1, by omega, rfl, by simp, by rw [hLd, HBKi.out]; exact ON⟩
          · have hz1 : ¬ (i : Int) < (ball.length : Int) := by omega
            obtain rfl : i = ball.length := by omega
            have hO1 := hO.out
            rw [List.take_length] at hO1
            obtain ⟨aO, cO, rfl, hRG⟩ := hO1.out
            obtain ⟨w5, hw5⟩ : ∃ W, W = wr := ⟨_, rfl⟩
            subst hw5
            have X5 := Lib.hid (X1.out.go hO1.bl)
            have B0 := Lib.hid X5.out.st.bl
            have LK5 := Lib.hid (LK1.out.lo hO1.bl)
            have RG5 := Lib.hid hRG
            clear hO hO1 hRG X1 LK1 hlt HBK HBL HBW HG
            have KK := Lib.hid (fun W (hb : Below w5.heap.size w5 W) => And.intro (X5.out.st.go hb).c (show W.cell? ⟨gX, 0, none⟩ = some (.int .i64 r.rows) ∧ W.cell? ⟨gX, 1, none⟩ = some (.int .i64 r.mid) ∧ W.cell? ⟨gX, 2, none⟩ = some (.int .i64 r.gap) ∧ W.cell? ⟨gX, 3, none⟩ = some (.int .i64 r.reach) ∧ W.cell? ⟨gX, 4, none⟩ = some (.slice aX (r.ls.map mirLk).length cX) from
              ⟨(X5.out.go hb).bX.cell 0 rfl, (X5.out.go hb).bX.cell 1 rfl, (X5.out.go hb).bX.cell 2 rfl, (X5.out.go hb).bX.cell 3 rfl, (X5.out.go hb).bX.cell 4 rfl⟩))
            have LK := Lib.hid (fun W (hb : Below w5.heap.size w5 W) => LK5.out.lo hb)
            have RG := Lib.hid (fun W (hb : Below w5.heap.size w5 W) => RG5.out.lower hb)
            have T := Lib.hid (Below.refl w5.heap.size w5)
            have HXL := Lib.hid (show xs.length ≤ 1000 by omega)
            clear X5 LK5 RG5
            have TUX := Lib.hid (fun a c W (hI : IntsAt W a xs) (hn : xs.length ≤ 1000) => TU.out xs a c W hI hn)
            obtain ⟨RB, hRB⟩ : ∃ b, b = readyB (mirR r) (turL r xs) (mirB r.mid ball) := ⟨_, rfl⟩
            rw [← hRB] at RDX HRX
            have HRB := Lib.hid hRB
            clear hRB
            generalize kindN r (setN xs) = KN at *
            generalize r.ls.map mirLk = xl at *
            generalize turL r xs = ys at *
            generalize mirB r.mid ball = oth at *
            obtain ⟨⟨r0, r1, r2, r3, r4⟩, ⟨y0, y1, y2, y3, y4⟩⟩ := KK.out _ T.out
            clear y0 y1 y2 y3 y4
            go_wp2_with fail
            refine (RA.out _ (below_go B0.out T.out)).mono ?_
            rintro e wa1 ⟨aR, cR, rfl, hl, hg, hb⟩
            have T := Lib.hid (below_go T.out hb); have Lr := Lib.hid hl; have Gr := Lib.hid hg
            clear hb hl hg r0 r1 r2 r3 r4
            go_wp2_with fail
            refine (LX.out _ (below_go B0.out T.out)).mono ?_
            rintro e wb1 ⟨aP, cP, rfl, hi, hb⟩
            have T := Lib.hid (below_go T.out hb); have Lr := Lib.hid (Lr.out.lo hb); have Gr := Lib.hid (fun g o e => Nat.lt_of_lt_of_le (Gr.out g o e) hb.size); have Xr := Lib.hid hi
            clear hb hi
            go_wp2_with fail
            refine (KI.out _ _ _ _ _ (below_go B0.out T.out) Lr.out Xr.out).mono ?_
            rintro e w6 ⟨rfl, hb⟩
            have T := Lib.hid (below_go T.out hb)
            clear hb Lr Gr Xr KI
            go_upto_region 16 with fail
            go_cut [16, 17] from 102 (fun s16 s17 wx => s16 = .int .u8 KN ∧ s17 = .int .i64 0 ∧ Hid (Below w5.heap.size w5 wx))
            case first =>
              have T := Lib.hid (show Below w5.heap.size w5 w6.drew from Below.drew T.out)
              refine wp_region_held_drew (S := (fun W => (W.cell? ⟨w.heap.size, 0, none⟩ = some (.int .i64 r.rows) ∧ W.cell? ⟨w.heap.size, 1, none⟩ = some (.int .i64 r.mid) ∧ W.cell? ⟨w.heap.size, 2, none⟩ = some (.int .i64 r.gap) ∧ W.cell? ⟨w.heap.size, 3, none⟩ = some (.int .i64 r.reach) ∧ W.cell? ⟨w.heap.size, 4, none⟩ = some (.slice r.la r.ls.length r.lc)) ∧ (W.cell? ⟨gX, 0, none⟩ = some (.int .i64 r.rows) ∧ W.cell? ⟨gX, 1, none⟩ = some (.int .i64 r.mid) ∧ W.cell? ⟨gX, 2, none⟩ = some (.int .i64 r.gap) ∧ W.cell? ⟨gX, 3, none⟩ = some (.int .i64 r.reach) ∧ W.cell? ⟨gX, 4, none⟩ = some (.slice aX xl.length cX)))) (by kernel_rfl) ?_ (fun hHeld => ?_)
              · (try dsimp only) <;> (with_reducible exact KK.out _ T.out)
              refine wpAnyH_take (i := 0) (oi := { dst := some 103, op := Op.load 24 (Operand.tmp 9), type := 24, pos := "outright.go:188", after := #[], guard := none }) (v := ?v_tu16_35) rfl (by kernel_rfl) (by kernel_rfl) (by kernel_rfl) (fun _ _ _ h => h) (Or.inl ⟨by rfl, ?y_tu16_35⟩) (by assumption) ?_
              case y_tu16_35 => intro w hSw; (try dsimp only at hSw); go_simp; with_reducible rfl
              try simp only [Act.put, List.setIfInBounds_toArray, List.set_cons_zero, List.set_cons_succ]
              refine wpAnyH_take (i := 2) (oi := { dst := some 105, op := Op.load 24 (Operand.tmp 4), type := 24, pos := "outright.go:188", after := #[], guard := none }) (v := ?v_tu16_36) rfl (by kernel_rfl) (by kernel_rfl) (by kernel_rfl) (fun _ _ _ h => h) (Or.inl ⟨by rfl, ?y_tu16_36⟩) (by assumption) ?_
              case y_tu16_36 => intro w hSw; (try dsimp only at hSw); go_simp; with_reducible rfl
              try simp only [Act.put, List.setIfInBounds_toArray, List.set_cons_zero, List.set_cons_succ]
              refine wpAnyH_take (i := 3) (oi := { dst := some 106, op := Op.move (Operand.tmp 1), type := 25, pos := "outright.go:188", after := #[], guard := none }) (v := ?v_tu16_37) rfl (by kernel_rfl) (by kernel_rfl) (by kernel_rfl) (fun _ _ _ h => h) (Or.inl ⟨by rfl, ?y_tu16_37⟩) (by assumption) ?_
              case y_tu16_37 => intro w hSw; (try dsimp only at hSw); go_simp; with_reducible rfl
              try simp only [Act.put, List.setIfInBounds_toArray, List.set_cons_zero, List.set_cons_succ]
              refine wpAnyH_ready (rs := [1]) (by kernel_rfl) (by simp) ?_
              refine AllReadyH.cons (o := { dst := some 104, op := Op.call { callee := Callee.value (Operand.func 18), args := #[Operand.tmp 103], argTypes := #[24] }, type := 32, pos := "outright.go:188", after := #[{ on := 0, ground := Ground.data }], guard := none }) rfl (fun K hK => ?_) ?_
              go_simp
              (first | (go_at_call 18; (with_reducible refine (RX.out _ _ _ (below_go B0.out T.out) (LK.out _ T.out)).mono ?_); rintro e wN ⟨aN, cN, rfl, hl, hg, hb⟩; have T := Lib.hid (below_go T.out hb); (try (have Lx := Lib.hid (Lx.out.lo hb); have Gx := Lib.hid (fun g o e => Nat.lt_of_lt_of_le (Gx.out g o e) hb.size))); (try have Xx := Lib.hid (Xx.out.lo hb)); (try (have Rx := Lib.hid (Rx.out.lower hb); have Zx := Lib.hid (fun g o e => Nat.lt_of_lt_of_le (Zx.out g o e) hb.size))); have Lx := Lib.hid hl; have Gx := Lib.hid hg; clear hb hl hg) | (go_at_call 52; (with_reducible refine (TUX.out _ _ _ (HX.out.lo (below_go B0.out T.out)) HXL.out).mono ?_); rintro e wN ⟨aT, cT, rfl, hi, hn, hb⟩; have T := Lib.hid (below_go T.out hb); (try (have Lx := Lib.hid (Lx.out.lo hb); have Gx := Lib.hid (fun g o e => Nat.lt_of_lt_of_le (Gx.out g o e) hb.size))); (try have Xx := Lib.hid (Xx.out.lo hb)); (try (have Rx := Lib.hid (Rx.out.lower hb); have Zx := Lib.hid (fun g o e => Nat.lt_of_lt_of_le (Zx.out g o e) hb.size))); have Xx := Lib.hid hi; clear hb hi hn) | (go_at_call 19; (with_reducible refine (KX.out _ _ _ _ _ (below_go B0.out T.out) Lx.out Xx.out).mono ?_); rintro e wN ⟨rfl, hb⟩; have T := Lib.hid (below_go T.out hb); clear hb))
              go_wp2_with fail
              refine hK.out _ _ ?_ (fun hHeld => ?_)
              · (try dsimp only) <;> (with_reducible exact KK.out _ T.out)
              clear hK K
              try simp only [Act.put, List.setIfInBounds_toArray, List.set_cons_zero, List.set_cons_succ]
              refine wpAnyH_ready (rs := [4]) (by kernel_rfl) (by simp) ?_
              refine AllReadyH.cons (o := { dst := some 107, op := Op.call { callee := Callee.value (Operand.func 52), args := #[Operand.tmp 105, Operand.tmp 106], argTypes := #[24, 25] }, type := 25, pos := "outright.go:188", after := #[{ on := 2, ground := Ground.data }, { on := 3, ground := Ground.data }, { on := 1, ground := Ground.chain }], guard := none }) rfl (fun K hK => ?_) ?_
              go_simp
              (first | (go_at_call 18; (with_reducible refine (RX.out _ _ _ (below_go B0.out T.out) (LK.out _ T.out)).mono ?_); rintro e wN ⟨aN, cN, rfl, hl, hg, hb⟩; have T := Lib.hid (below_go T.out hb); (try (have Lx := Lib.hid (Lx.out.lo hb); have Gx := Lib.hid (fun g o e => Nat.lt_of_lt_of_le (Gx.out g o e) hb.size))); (try have Xx := Lib.hid (Xx.out.lo hb)); (try (have Rx := Lib.hid (Rx.out.lower hb); have Zx := Lib.hid (fun g o e => Nat.lt_of_lt_of_le (Zx.out g o e) hb.size))); have Lx := Lib.hid hl; have Gx := Lib.hid hg; clear hb hl hg) | (go_at_call 52; (with_reducible refine (TUX.out _ _ _ (HX.out.lo (below_go B0.out T.out)) HXL.out).mono ?_); rintro e wN ⟨aT, cT, rfl, hi, hn, hb⟩; have T := Lib.hid (below_go T.out hb); (try (have Lx := Lib.hid (Lx.out.lo hb); have Gx := Lib.hid (fun g o e => Nat.lt_of_lt_of_le (Gx.out g o e) hb.size))); (try have Xx := Lib.hid (Xx.out.lo hb)); (try (have Rx := Lib.hid (Rx.out.lower hb); have Zx := Lib.hid (fun g o e => Nat.lt_of_lt_of_le (Zx.out g o e) hb.size))); have Xx := Lib.hid hi; clear hb hi hn) | (go_at_call 19; (with_reducible refine (KX.out _ _ _ _ _ (below_go B0.out T.out) Lx.out Xx.out).mono ?_); rintro e wN ⟨rfl, hb⟩; have T := Lib.hid (below_go T.out hb); clear hb))
              go_wp2_with fail
              refine hK.out _ _ ?_ (fun hHeld => ?_)
              · (try dsimp only) <;> (with_reducible exact KK.out _ T.out)
              clear hK K
              try simp only [Act.put, List.setIfInBounds_toArray, List.set_cons_zero, List.set_cons_succ]
              refine wpAnyH_ready (rs := [5]) (by kernel_rfl) (by simp) ?_
              refine AllReadyH.cons (o := { dst := some 108, op := Op.call { callee := Callee.value (Operand.func 19), args := #[Operand.tmp 104, Operand.tmp 107], argTypes := #[32, 25] }, type := 34, pos := "outright.go:188", after := #[{ on := 1, ground := Ground.data }, { on := 4, ground := Ground.data }, { on := 4, ground := Ground.chain }], guard := none }) rfl (fun K hK => ?_) ?_
              go_simp
              (first | (go_at_call 18; (with_reducible refine (RX.out _ _ _ (below_go B0.out T.out) (LK.out _ T.out)).mono ?_); rintro e wN ⟨aN, cN, rfl, hl, hg, hb⟩; have T := Lib.hid (below_go T.out hb); (try (have Lx := Lib.hid (Lx.out.lo hb); have Gx := Lib.hid (fun g o e => Nat.lt_of_lt_of_le (Gx.out g o e) hb.size))); (try have Xx := Lib.hid (Xx.out.lo hb)); (try (have Rx := Lib.hid (Rx.out.lower hb); have Zx := Lib.hid (fun g o e => Nat.lt_of_lt_of_le (Zx.out g o e) hb.size))); have Lx := Lib.hid hl; have Gx := Lib.hid hg; clear hb hl hg) | (go_at_call 52; (with_reducible refine (TUX.out _ _ _ (HX.out.lo (below_go B0.out T.out)) HXL.out).mono ?_); rintro e wN ⟨aT, cT, rfl, hi, hn, hb⟩; have T := Lib.hid (below_go T.out hb); (try (have Lx := Lib.hid (Lx.out.lo hb); have Gx := Lib.hid (fun g o e => Nat.lt_of_lt_of_le (Gx.out g o e) hb.size))); (try have Xx := Lib.hid (Xx.out.lo hb)); (try (have Rx := Lib.hid (Rx.out.lower hb); have Zx := Lib.hid (fun g o e => Nat.lt_of_lt_of_le (Zx.out g o e) hb.size))); have Xx := Lib.hid hi; clear hb hi hn) | (go_at_call 19; (with_reducible refine (KX.out _ _ _ _ _ (below_go B0.out T.out) Lx.out Xx.out).mono ?_); rintro e wN ⟨rfl, hb⟩; have T := Lib.hid (below_go T.out hb); clear hb))
              go_wp2_with fail
              refine hK.out _ _ ?_ (fun hHeld => ?_)
              · (try dsimp only) <;> (with_reducible exact KK.out _ T.out)
              clear hK K
              try simp only [Act.put, List.setIfInBounds_toArray, List.set_cons_zero, List.set_cons_succ]
              refine wpAnyH_take (i := 6) (oi := { dst := some 102, op := Op.move (Operand.tmp 108), type := 34, pos := "outright.go:188", after := #[{ on := 5, ground := Ground.data }], guard := none }) (v := ?v_tu16_38) rfl (by kernel_rfl) (by kernel_rfl) (by kernel_rfl) (fun _ _ _ h => h) (Or.inl ⟨by rfl, ?y_tu16_38⟩) (by assumption) ?_
              case y_tu16_38 => intro w hSw; (try dsimp only at hSw); go_simp; with_reducible rfl
              try simp only [Act.put, List.setIfInBounds_toArray, List.set_cons_zero, List.set_cons_succ]
              refine wpAnyH_take (i := 7) (oi := { dst := some 109, op := Op.extract (Operand.tmp 102) 0, type := 5, pos := "outright.go:188", after := #[{ on := 6, ground := Ground.data }], guard := none }) (v := ?v_tu16_39) rfl (by kernel_rfl) (by kernel_rfl) (by kernel_rfl) (fun _ _ _ h => h) (Or.inl ⟨by rfl, ?y_tu16_39⟩) (by assumption) ?_
              case y_tu16_39 => intro w hSw; (try dsimp only at hSw); go_simp; with_reducible rfl
              try simp only [Act.put, List.setIfInBounds_toArray, List.set_cons_zero, List.set_cons_succ]
              refine wpAnyH_take (i := 8) (oi := { dst := some 110, op := Op.extract (Operand.tmp 102) 1, type := 28, pos := "outright.go:188", after := #[{ on := 6, ground := Ground.data }, { on := 9, ground := Ground.gcOnly Departure.lateStores }], guard := none }) (v := ?v_tu16_40) rfl (by kernel_rfl) (by kernel_rfl) (by kernel_rfl) (fun _ _ _ h => h) (Or.inl ⟨by rfl, ?y_tu16_40⟩) (by assumption) ?_
              case y_tu16_40 => intro w hSw; (try dsimp only at hSw); go_simp; with_reducible rfl
              try simp only [Act.put, List.setIfInBounds_toArray, List.set_cons_zero, List.set_cons_succ]
              refine wpAnyH_take (i := 9) (oi := { dst := some 16, op := Op.assign (Operand.tmp 109), type := 5, pos := "outright.go:188", after := #[{ on := 7, ground := Ground.data }, { on := 5, ground := Ground.chain }, { on := 0, ground := Ground.phase }, { on := 1, ground := Ground.phase }, { on := 2, ground := Ground.phase }, { on := 3, ground := Ground.phase }, { on := 4, ground := Ground.phase }, { on := 5, ground := Ground.phase }, { on := 6, ground := Ground.phase }, { on := 7, ground := Ground.phase }, { on := 8, ground := Ground.textOnly Departure.lateStores }], guard := none }) (v := ?v_tu16_41) rfl (by kernel_rfl) (by kernel_rfl) (by kernel_rfl) (fun _ _ _ h => h) (Or.inl ⟨by rfl, ?y_tu16_41⟩) (by assumption) ?_
              case y_tu16_41 => intro w hSw; (try dsimp only at hSw); go_simp; with_reducible rfl
              try simp only [Act.put, List.setIfInBounds_toArray, List.set_cons_zero, List.set_cons_succ]
              refine wpAnyH_take (i := 10) (oi := { dst := some 17, op := Op.assign (Operand.tmp 110), type := 28, pos := "outright.go:188", after := #[{ on := 8, ground := Ground.data }, { on := 9, ground := Ground.chain }, { on := 0, ground := Ground.phase }, { on := 1, ground := Ground.phase }, { on := 2, ground := Ground.phase }, { on := 3, ground := Ground.phase }, { on := 4, ground := Ground.phase }, { on := 5, ground := Ground.phase }, { on := 6, ground := Ground.phase }, { on := 7, ground := Ground.phase }, { on := 8, ground := Ground.phase }, { on := 9, ground := Ground.phase }], guard := none }) (v := ?v_tu16_42) rfl (by kernel_rfl) (by kernel_rfl) (by kernel_rfl) (fun _ _ _ h => h) (Or.inl ⟨by rfl, ?y_tu16_42⟩) (by assumption) ?_
              case y_tu16_42 => intro w hSw; (try dsimp only at hSw); go_simp; with_reducible rfl
              try simp only [Act.put, List.setIfInBounds_toArray, List.set_cons_zero, List.set_cons_succ]
              refine wpAnyH_done (by kernel_rfl) ?_ _
              rotate_left 1
              exact AllReadyH.nil
              exact AllReadyH.nil
              exact AllReadyH.nil
              all_goals
                go_wp2_with fail
                go_meet
                case rel => exact ⟨rfl, rfl, T⟩
            case rest =>
              obtain ⟨rfl, rfl, hT5⟩ := hcut
              have T := Lib.hid hT5.out
              clear hT5 KX
              go_upto_region 19 with fail
              have T := Lib.hid (show Below w5.heap.size w5 wc.drew from Below.drew T.out)
              go_wp2_with fail
              refine wp_region_held_drew (S := (fun W => (W.cell? ⟨w.heap.size, 0, none⟩ = some (.int .i64 r.rows) ∧ W.cell? ⟨w.heap.size, 1, none⟩ = some (.int .i64 r.mid) ∧ W.cell? ⟨w.heap.size, 2, none⟩ = some (.int .i64 r.gap) ∧ W.cell? ⟨w.heap.size, 3, none⟩ = some (.int .i64 r.reach) ∧ W.cell? ⟨w.heap.size, 4, none⟩ = some (.slice r.la r.ls.length r.lc)) ∧ (W.cell? ⟨gX, 0, none⟩ = some (.int .i64 r.rows) ∧ W.cell? ⟨gX, 1, none⟩ = some (.int .i64 r.mid) ∧ W.cell? ⟨gX, 2, none⟩ = some (.int .i64 r.gap) ∧ W.cell? ⟨gX, 3, none⟩ = some (.int .i64 r.reach) ∧ W.cell? ⟨gX, 4, none⟩ = some (.slice aX xl.length cX)))) (by kernel_rfl) ?_ (fun hHeld => ?_)
              · (try dsimp only) <;> (with_reducible exact KK.out _ T.out)
              refine wpAnyH_take (i := 0) (oi := { dst := some 122, op := Op.load 24 (Operand.tmp 9), type := 24, pos := "outright.go:192", after := #[], guard := none }) (v := ?v_tu19_43) rfl (by kernel_rfl) (by kernel_rfl) (by kernel_rfl) (fun _ _ _ h => h) (Or.inl ⟨by rfl, ?y_tu19_43⟩) (by assumption) ?_
              case y_tu19_43 => intro w hSw; (try dsimp only at hSw); go_simp; with_reducible rfl
              try simp only [Act.put, List.setIfInBounds_toArray, List.set_cons_zero, List.set_cons_succ]
              refine wpAnyH_take (i := 1) (oi := { dst := some 123, op := Op.load 24 (Operand.tmp 4), type := 24, pos := "outright.go:192", after := #[], guard := none }) (v := ?v_tu19_44) rfl (by kernel_rfl) (by kernel_rfl) (by kernel_rfl) (fun _ _ _ h => h) (Or.inl ⟨by rfl, ?y_tu19_44⟩) (by assumption) ?_
              case y_tu19_44 => intro w hSw; (try dsimp only at hSw); go_simp; with_reducible rfl
              try simp only [Act.put, List.setIfInBounds_toArray, List.set_cons_zero, List.set_cons_succ]
              refine wpAnyH_take (i := 2) (oi := { dst := some 124, op := Op.move (Operand.tmp 1), type := 25, pos := "outright.go:192", after := #[], guard := none }) (v := ?v_tu19_45) rfl (by kernel_rfl) (by kernel_rfl) (by kernel_rfl) (fun _ _ _ h => h) (Or.inl ⟨by rfl, ?y_tu19_45⟩) (by assumption) ?_
              case y_tu19_45 => intro w hSw; (try dsimp only at hSw); go_simp; with_reducible rfl
              try simp only [Act.put, List.setIfInBounds_toArray, List.set_cons_zero, List.set_cons_succ]
              refine wpAnyH_take (i := 4) (oi := { dst := some 126, op := Op.move (Operand.tmp 12), type := 47, pos := "outright.go:192", after := #[], guard := none }) (v := ?v_tu19_46) rfl (by kernel_rfl) (by kernel_rfl) (by kernel_rfl) (fun _ _ _ h => h) (Or.inl ⟨by rfl, ?y_tu19_46⟩) (by assumption) ?_
              case y_tu19_46 => intro w hSw; (try dsimp only at hSw); go_simp; with_reducible rfl
              try simp only [Act.put, List.setIfInBounds_toArray, List.set_cons_zero, List.set_cons_succ]
              refine wpAnyH_ready (rs := [3]) (by kernel_rfl) (by simp) ?_
              refine AllReadyH.cons (o := { dst := some 125, op := Op.call { callee := Callee.value (Operand.func 52), args := #[Operand.tmp 123, Operand.tmp 124], argTypes := #[24, 25] }, type := 25, pos := "outright.go:192", after := #[{ on := 1, ground := Ground.data }, { on := 2, ground := Ground.data }], guard := none }) rfl (fun K hK => ?_) ?_
              go_simp
              (first | (go_at_call 52; (with_reducible refine (TUX.out _ _ _ (HX.out.lo (below_go B0.out T.out)) HXL.out).mono ?_); rintro e wN ⟨aT, cT, rfl, hi, hn, hb⟩; have T := Lib.hid (below_go T.out hb); (try (have Lx := Lib.hid (Lx.out.lo hb); have Gx := Lib.hid (fun g o e => Nat.lt_of_lt_of_le (Gx.out g o e) hb.size))); (try have Xx := Lib.hid (Xx.out.lo hb)); (try (have Rx := Lib.hid (Rx.out.lower hb); have Zx := Lib.hid (fun g o e => Nat.lt_of_lt_of_le (Zx.out g o e) hb.size))); have Xx := Lib.hid hi; clear hb hi hn) | (go_at_call 48; (with_reducible refine (RDX.out _ _ _ _ _ _ _ (LK.out _ T.out) Xx.out (RG.out _ T.out)).mono ?_); rintro e wN ⟨rfl, hb⟩; have T := Lib.hid (below_go T.out hb); clear hb))
              go_wp2_with fail
              refine hK.out _ _ ?_ (fun hHeld => ?_)
              · (try dsimp only) <;> (with_reducible exact KK.out _ T.out)
              clear hK K
              try simp only [Act.put, List.setIfInBounds_toArray, List.set_cons_zero, List.set_cons_succ]
              refine wpAnyH_ready (rs := [5]) (by kernel_rfl) (by simp) ?_
              refine AllReadyH.cons (o := { dst := some 127, op := Op.call { callee := Callee.value (Operand.func 48), args := #[Operand.tmp 122, Operand.tmp 125, Operand.tmp 126], argTypes := #[24, 25, 47] }, type := 4, pos := "outright.go:192", after := #[{ on := 0, ground := Ground.data }, { on := 3, ground := Ground.data }, { on := 4, ground := Ground.data }, { on := 3, ground := Ground.chain }], guard := none }) rfl (fun K hK => ?_) ?_
              go_simp
              (first | (go_at_call 52; (with_reducible refine (TUX.out _ _ _ (HX.out.lo (below_go B0.out T.out)) HXL.out).mono ?_); rintro e wN ⟨aT, cT, rfl, hi, hn, hb⟩; have T := Lib.hid (below_go T.out hb); (try (have Lx := Lib.hid (Lx.out.lo hb); have Gx := Lib.hid (fun g o e => Nat.lt_of_lt_of_le (Gx.out g o e) hb.size))); (try have Xx := Lib.hid (Xx.out.lo hb)); (try (have Rx := Lib.hid (Rx.out.lower hb); have Zx := Lib.hid (fun g o e => Nat.lt_of_lt_of_le (Zx.out g o e) hb.size))); have Xx := Lib.hid hi; clear hb hi hn) | (go_at_call 48; (with_reducible refine (RDX.out _ _ _ _ _ _ _ (LK.out _ T.out) Xx.out (RG.out _ T.out)).mono ?_); rintro e wN ⟨rfl, hb⟩; have T := Lib.hid (below_go T.out hb); clear hb))
              go_wp2_with fail
              refine hK.out _ _ ?_ (fun hHeld => ?_)
              · (try dsimp only) <;> (with_reducible exact KK.out _ T.out)
              clear hK K
              try simp only [Act.put, List.setIfInBounds_toArray, List.set_cons_zero, List.set_cons_succ]
              refine wpAnyH_take (i := 6) (oi := { dst := some 128, op := Op.unOp UnOp.not 4 (Operand.tmp 127), type := 4, pos := "outright.go:192", after := #[{ on := 5, ground := Ground.data }], guard := none }) (v := ?v_tu19_47) rfl (by kernel_rfl) (by kernel_rfl) (by kernel_rfl) (fun _ _ _ h => h) (Or.inl ⟨by rfl, ?y_tu19_47⟩) (by assumption) ?_
              case y_tu19_47 => intro w hSw; (try dsimp only at hSw); go_simp; with_reducible rfl
              try simp only [Act.put, List.setIfInBounds_toArray, List.set_cons_zero, List.set_cons_succ]
              refine wpAnyH_done (by kernel_rfl) ?_ _
              rotate_left 1
              exact AllReadyH.nil
              exact AllReadyH.nil
              clear RDX Xx
              cases RB
              · go_wp2_with fail
                refine (AW.out _ (below_go B0.out T.out)).mono ?_
                rintro e w9 ⟨rfl, hb⟩
                have T := Lib.hid (below_go T.out hb)
                clear hb
                go_wp2_with fail
                go_returns
                exact ⟨by first | done | rfl, below_go B0.out T.out⟩
              · have h00 := HRX.out rfl
                obtain ⟨e1, e2, e3, e4, e5⟩ := HTA.out h00
                have FX1 := Lib.hid (FX.out h00)
                have HE1 := Lib.hid e1; have HE2 := Lib.hid e2; have HE3 := Lib.hid e3; have HE4 := Lib.hid e4; have HE5 := Lib.hid e5
                clear e1 e2 e3 e4 e5 h00 HRX HTA FX HRB
                go_upto_region 21 with fail
                obtain ⟨⟨r0, r1, r2, r3, r4⟩, ⟨y0, y1, y2, y3, y4⟩⟩ := KK.out _ T.out
                clear y0 y1 y2 y3 y4
                go_wp2_with fail
                refine (PK.out _ (below_go B0.out T.out)).mono ?_
                rintro e w6 ⟨aB, cB, aC, cC, rfl, hIB, hnB, hBC, hnC, hb⟩
                have T := Lib.hid (below_go T.out hb)
                have IB := Lib.hid hIB; have IC := Lib.hid hBC
                clear hb hIB hBC hnB hnC r0 r1 r2 r3 r4 PK
                obtain ⟨i3, hi3, hy0, hy1, hy2⟩ := info_parts info3
                have O0 := Lib.hid (show OwnI w6 w6 (.slice none 0 0) (ovr r.mid (BS.take 0)) from OwnI.nil w6)
                go_wp2_with fail
                go_loopg [20, 21] BS.length (fun g' s20 s21 wx => ∃ (i : Nat), i ≤ BS.length ∧ g' = BS.length - i ∧ s21 = .int .i64 (i : Int) ∧ Hid (OwnI w6 wx s20 (ovr r.mid (BS.take i))))
                case atStart => exact ⟨0, by omega, by omega, rfl, O0⟩
                case round =>
                  obtain ⟨i, hi, rfl, rfl, hO⟩ := hrel
                  clear O0
                  by_cases hlt : i < BS.length
                  · obtain ⟨b, hb⟩ : ∃ b, BS[i]? = some b := ⟨BS[i]'hlt, List.getElem?_eq_getElem _⟩
                    obtain ⟨g, o, rfl, k1⟩ := IB.out i _ hb
                    have hz0 : (0 : Int) ≤ (i : Int) := by omega
                    have hz1 : (i : Int) < (BS.length : Int) := by omega
                    have hbb := HBB.out b (List.mem_of_getElem? hb)
                    have hi77 : i ≤ 10 := by have := HBSL.out; omega
                    have HOKi := Lib.hid (HOK.out i b hb)
                    have hln := HOL.out i
                    have ew1 : IntKind.i64.wrap (2 * r.mid - b) = 2 * r.mid - b := IntWalk.i64_in _ (by omega)
                    generalize ovr r.mid (BS.take i) = Lc at *
                    generalize hLd : ovr r.mid (BS.take (i + 1)) = Ld at *
                    have KB := Lib.hid (fun W (hb : Below w6.heap.size w6 W) => And.intro (KK.out _ (below_go T.out hb)).1.2.1 (cell_lo hb k1))
                    have hA := below_al wr (.cells #[.int .i64 (2 * r.mid - b)] 3)
                    have D0 := Lib.hid (show Below w6.heap.size w6 wr.drew from Below.drew hO.out.bl)
                    have OD := hO.out.lo (Below.drew hA)
                    have D1 := Lib.hid (show Below w6.heap.size w6 (wr.alloc (.cells #[.int .i64 (2 * r.mid - b)] 3)).drew from OD.bl)
                    obtain ⟨gA, cA, wB, hrun, hown, hgr, _, _⟩ := run_append_lies (P := Tryd.prog) (w := (wr.alloc (.cells #[.int .i64 (2 * r.mid - b)] 3)).drew) 25 25 w6.heap.size 3 i3 (.int .i64 0) 1 8 Tryd.underlying25 hi3 hy0 hy1 hy2 rfl (by decide) u20 Lc.length (Lc.map (Value.int .i64)) OD.ow ⟨wr.heap.size, 0, none⟩ 1 1 [.int .i64 (2 * r.mid - b)] rfl (World.news_of_block (cs := #[.int .i64 (2 * r.mid - b)]) (show Blk (wr.alloc (.cells #[.int .i64 (2 * r.mid - b)] 3)).drew wr.heap.size #[.int .i64 (2 * r.mid - b)] 3 from Blk.new _ _ _)) (by simp [Value.oneCell']) (by decide) (by unfold maxLen; omega) (by omega) OD.bl.size _ rfl
                    have ON := Lib.hid (hO.out.push' hgr hown)
                    have D2 := Lib.hid ON.out.bl
                    have R6 := Lib.hid hrun
                    clear hb k1 hO OD hA hown hgr hrun hln hbb hlt
                    go_wp2_with fail
                    refine wp_region_held_drew (S := (fun W => W.cell? ⟨w.heap.size, 1, none⟩ = some (.int .i64 r.mid) ∧ W.cell? ⟨g, o + i, none⟩ = some (.int .i64 b))) (by kernel_rfl) ?_ (fun hHeld => ?_)
                    · (try dsimp only) <;> (with_reducible first | exact KB.out _ D2.out | exact KB.out _ D1.out | exact KB.out _ D0.out)
                    refine wpAnyH_take (i := 0) (oi := { dst := some 143, op := Op.move (Operand.tmp 20), type := 25, pos := "outright.go:198", after := #[], guard := none }) (v := ?v_tu26_48) rfl (by kernel_rfl) (by kernel_rfl) (by kernel_rfl) (fun _ _ _ h => h) (Or.inl ⟨by rfl, ?y_tu26_48⟩) (by assumption) ?_
                    case y_tu26_48 => intro w hSw; (try dsimp only at hSw); go_simp; with_reducible rfl
                    try simp only [Act.put, List.setIfInBounds_toArray, List.set_cons_zero, List.set_cons_succ]
                    refine wpAnyH_take (i := 1) (oi := { dst := some 144, op := Op.fieldAddr 24 (Operand.tmp 4) 1, type := 0, pos := "outright.go:198", after := #[], guard := none }) (v := ?v_tu26_49) rfl (by kernel_rfl) (by kernel_rfl) (by kernel_rfl) (fun _ _ _ h => h) (Or.inl ⟨by rfl, ?y_tu26_49⟩) (by assumption) ?_
                    case y_tu26_49 => intro w hSw; (try dsimp only at hSw); go_simp; with_reducible rfl
                    try simp only [Act.put, List.setIfInBounds_toArray, List.set_cons_zero, List.set_cons_succ]
                    refine wpAnyH_take (i := 2) (oi := { dst := some 145, op := Op.load 3 (Operand.tmp 144), type := 3, pos := "outright.go:198", after := #[{ on := 1, ground := Ground.data }], guard := none }) (v := ?v_tu26_50) rfl (by kernel_rfl) (by kernel_rfl) (by kernel_rfl) (fun _ _ _ h => h) (Or.inl ⟨by rfl, ?y_tu26_50⟩) (by assumption) ?_
                    case y_tu26_50 => intro w hSw; (try dsimp only at hSw); go_simp; with_reducible rfl
                    try simp only [Act.put, List.setIfInBounds_toArray, List.set_cons_zero, List.set_cons_succ]
                    refine wpAnyH_take (i := 3) (oi := { dst := some 146, op := Op.binOp BinOp.mul 3 (Operand.const (Value.int IntKind.i64 2)) (Operand.tmp 145) 3, type := 3, pos := "outright.go:198", after := #[{ on := 2, ground := Ground.data }], guard := none }) (v := ?v_tu26_51) rfl (by kernel_rfl) (by kernel_rfl) (by kernel_rfl) (fun _ _ _ h => h) (Or.inl ⟨by rfl, ?y_tu26_51⟩) (by assumption) ?_
                    case y_tu26_51 => intro w hSw; (try dsimp only at hSw); go_simp; with_reducible rfl
                    try simp only [Act.put, List.setIfInBounds_toArray, List.set_cons_zero, List.set_cons_succ]
                    refine wpAnyH_take (i := 4) (oi := { dst := some 147, op := Op.move (Operand.tmp 18), type := 25, pos := "outright.go:198", after := #[], guard := none }) (v := ?v_tu26_52) rfl (by kernel_rfl) (by kernel_rfl) (by kernel_rfl) (fun _ _ _ h => h) (Or.inl ⟨by rfl, ?y_tu26_52⟩) (by assumption) ?_
                    case y_tu26_52 => intro w hSw; (try dsimp only at hSw); go_simp; with_reducible rfl
                    try simp only [Act.put, List.setIfInBounds_toArray, List.set_cons_zero, List.set_cons_succ]
                    refine wpAnyH_take (i := 5) (oi := { dst := some 148, op := Op.move (Operand.tmp 21), type := 3, pos := "outright.go:198", after := #[], guard := none }) (v := ?v_tu26_53) rfl (by kernel_rfl) (by kernel_rfl) (by kernel_rfl) (fun _ _ _ h => h) (Or.inl ⟨by rfl, ?y_tu26_53⟩) (by assumption) ?_
                    case y_tu26_53 => intro w hSw; (try dsimp only at hSw); go_simp; with_reducible rfl
                    try simp only [Act.put, List.setIfInBounds_toArray, List.set_cons_zero, List.set_cons_succ]
                    refine wpAnyH_take (i := 6) (oi := { dst := some 149, op := Op.indexAddr 25 (Operand.tmp 147) (Operand.tmp 148), type := 0, pos := "outright.go:198", after := #[{ on := 4, ground := Ground.data }, { on := 5, ground := Ground.data }], guard := none }) (v := ?v_tu26_54) rfl (by kernel_rfl) (by kernel_rfl) (by kernel_rfl) (fun _ _ _ h => h) (Or.inl ⟨by rfl, ?y_tu26_54⟩) (by assumption) ?_
                    case y_tu26_54 => intro w hSw; (try dsimp only at hSw); go_simp; with_reducible rfl
                    try simp only [Act.put, List.setIfInBounds_toArray, List.set_cons_zero, List.set_cons_succ]
                    refine wpAnyH_take (i := 7) (oi := { dst := some 150, op := Op.load 3 (Operand.tmp 149), type := 3, pos := "outright.go:198", after := #[{ on := 6, ground := Ground.data }], guard := none }) (v := ?v_tu26_55) rfl (by kernel_rfl) (by kernel_rfl) (by kernel_rfl) (fun _ _ _ h => h) (Or.inl ⟨by rfl, ?y_tu26_55⟩) (by assumption) ?_
                    case y_tu26_55 => intro w hSw; (try dsimp only at hSw); go_simp; with_reducible rfl
                    try simp only [Act.put, List.setIfInBounds_toArray, List.set_cons_zero, List.set_cons_succ]
                    refine wpAnyH_take (i := 8) (oi := { dst := some 151, op := Op.binOp BinOp.sub 3 (Operand.tmp 146) (Operand.tmp 150) 3, type := 3, pos := "outright.go:198", after := #[{ on := 3, ground := Ground.data }, { on := 7, ground := Ground.data }], guard := none }) (v := ?v_tu26_56) rfl (by kernel_rfl) (by kernel_rfl) (by kernel_rfl) (fun _ _ _ h => h) (Or.inl ⟨by rfl, ?y_tu26_56⟩) (by assumption) ?_
                    case y_tu26_56 => intro w hSw; (try dsimp only at hSw); go_simp; with_reducible rfl
                    try simp only [Act.put, List.setIfInBounds_toArray, List.set_cons_zero, List.set_cons_succ]
                    refine wpAnyH_ready (rs := [9]) (by kernel_rfl) (by simp) ?_
                    refine AllReadyH.cons (o := { dst := some 152, op := Op.buildSlice 25 1 #[(0, Operand.tmp 151)], type := 25, pos := "outright.go:198", after := #[{ on := 8, ground := Ground.data }], guard := none }) rfl (fun K hK => ?_) ?_
                    go_simp
                    refine hK.out _ _ ?_ (fun hHeld => ?_)
                    · (try dsimp only) <;> (with_reducible first | exact KB.out _ D2.out | exact KB.out _ D1.out | exact KB.out _ D0.out)
                    clear hK K
                    try simp only [Act.put, List.setIfInBounds_toArray, List.set_cons_zero, List.set_cons_succ]
                    refine wpAnyH_ready (rs := [10]) (by kernel_rfl) (by simp) ?_
                    refine AllReadyH.cons (o := { dst := some 153, op := Op.call { callee := Callee.builtin Builtin.append, args := #[Operand.tmp 143, Operand.tmp 152], argTypes := #[25, 25] }, type := 25, pos := "outright.go:198", after := #[{ on := 0, ground := Ground.data }, { on := 9, ground := Ground.data }], guard := none }) rfl (fun K hK => ?_) ?_
                    (first | ((with_reducible refine step_run4 R6.out ?_ ?_ ?_); (exact rfl); (exact rfl)))
                    refine hK.out _ _ ?_ (fun hHeld => ?_)
                    · (try dsimp only) <;> (with_reducible first | exact KB.out _ D2.out | exact KB.out _ D1.out | exact KB.out _ D0.out)
                    clear hK K
                    try simp only [Act.put, List.setIfInBounds_toArray, List.set_cons_zero, List.set_cons_succ]
                    refine wpAnyH_take (i := 11) (oi := { dst := some 20, op := Op.assign (Operand.tmp 153), type := 25, pos := "outright.go:198", after := #[{ on := 10, ground := Ground.data }, { on := 10, ground := Ground.chain }, { on := 0, ground := Ground.phase }, { on := 1, ground := Ground.phase }, { on := 2, ground := Ground.phase }, { on := 3, ground := Ground.phase }, { on := 4, ground := Ground.phase }, { on := 5, ground := Ground.phase }, { on := 6, ground := Ground.phase }, { on := 7, ground := Ground.phase }, { on := 8, ground := Ground.phase }, { on := 9, ground := Ground.phase }, { on := 10, ground := Ground.phase }], guard := none }) (v := ?v_tu26_57) rfl (by kernel_rfl) (by kernel_rfl) (by kernel_rfl) (fun _ _ _ h => h) (Or.inl ⟨by rfl, ?y_tu26_57⟩) (by assumption) ?_
                    case y_tu26_57 => intro w hSw; (try dsimp only at hSw); go_simp; with_reducible rfl
                    try simp only [Act.put, List.setIfInBounds_toArray, List.set_cons_zero, List.set_cons_succ]
                    refine wpAnyH_done (by kernel_rfl) ?_ _
                    rotate_left 1
                    exact AllReadyH.nil
                    exact AllReadyH.nil
                    all_goals
                      go_wp2_with fail
                      go_roundg (BS.length - (i + 1))
                      case measure => omega
                      case rel => exact ⟨i + 1, by omega, rfl, by simp, by rw [hLd, HOKi.out]; exact ON⟩
                  · have hz1 : ¬ (i : Int) < (BS.length : Int) := by omega
                    obtain rfl : i = BS.length := by omega
                    have hO1 := hO.out
                    rw [List.take_length] at hO1
                    obtain ⟨aV, cV, rfl, hIV, _⟩ := hO1.out
                    obtain ⟨w7, hw7⟩ : ∃ W, W = wr := ⟨_, rfl⟩
                    subst hw7
                    have T7 := Lib.hid (below_go T.out hO1.bl)
                    have IBk := Lib.hid (fun W (hb : Below w7.heap.size w7 W) => (IB.out.lo hO1.bl).lo hb)
                    have ICk := Lib.hid (fun W (hb : Below w7.heap.size w7 W) => (IC.out.lo hO1.bl).lo hb)
                    have IVk := Lib.hid (fun W (hb : Below w7.heap.size w7 W) => hIV.lo hb)
                    have KK := Lib.hid (fun W (hb : Below w7.heap.size w7 W) => KK.out W (below_go T7.out hb))
                    have LK := Lib.hid (fun W (hb : Below w7.heap.size w7 W) => LK.out W (below_go T7.out hb))
                    have RG := Lib.hid (fun W (hb : Below w7.heap.size w7 W) => RG.out W (below_go T7.out hb))
                    have B0 := Lib.hid (below_go B0.out T7.out)
                    have T := Lib.hid (Below.refl w7.heap.size w7)
                    clear hO hO1 hIV hlt HOK HOL HBB IB IC T7
                    generalize ovr r.mid BS = ov at *
                    generalize hitL (mirR r) ys oth ov CS = HLx at *
                    generalize hHL : hitL r xs ball BS CS = HLr at *
                    generalize els (sureN (mirR r) oth (setN ys)) = SUx at *
                    generalize els (sureN r ball (setN xs)) = SUr at *
                    generalize els (dif (setN ys) (stayN (mirR r) oth (setN ys))) = MAx at *
                    generalize els (dif (setN xs) (stayN r ball (setN xs))) = MAr at *
                    have HR1 := Lib.hid (fun W a' c' aX cX aG cG aB cB aC cC hb => HR.out W a' c' aX cX aG cG aB cB aC cC hb HE1.out)
                    have HX1 := Lib.hid (fun W a' c' aX cX aG cG aB cB aC cC hb => HXX.out W a' c' aX cX aG cG aB cB aC cC hb HE2.out)
                    clear HR HXX HE1 HE2 hHL
                    obtain ⟨⟨r0, r1, r2, r3, r4⟩, ⟨y0, y1, y2, y3, y4⟩⟩ := KK.out _ T.out
                    clear y0 y1 y2 y3 y4
                    go_wp2_with fail
                    refine (RA.out _ (below_go B0.out T.out)).mono ?_
                    rintro e wa2 ⟨aR, cR, rfl, hl, hg, hb⟩
                    have T := Lib.hid (below_go T.out hb); have Lr := Lib.hid hl; have Gr := Lib.hid hg
                    clear hb hl hg r0 r1 r2 r3 r4
                    go_wp2_with fail
                    refine (LX.out _ (below_go B0.out T.out)).mono ?_
                    rintro e wb2 ⟨aP, cP, rfl, hi, hb⟩
                    have T := Lib.hid (below_go T.out hb); have Lr := Lib.hid (Lr.out.lo hb); have Gr := Lib.hid (fun g o e => Nat.lt_of_lt_of_le (Gr.out g o e) hb.size); have Xr := Lib.hid hi
                    clear hb hi
                    go_wp2_with fail
                    refine (BA.out _ (below_go B0.out T.out)).mono ?_
                    rintro e wc2 ⟨aG, cG, rfl, hr, hga, hb⟩
                    have T := Lib.hid (below_go T.out hb); have Lr := Lib.hid (Lr.out.lo hb); have Gr := Lib.hid (fun g o e => Nat.lt_of_lt_of_le (Gr.out g o e) hb.size); have Xr := Lib.hid (Xr.out.lo hb); have Rr := Lib.hid hr; have Zr := Lib.hid hga
                    clear hb hr hga
                    go_wp2_with fail
                    refine (HR1.out _ _ _ _ _ _ _ _ _ _ _ (below_go B0.out T.out) Lr.out Gr.out Xr.out Rr.out (IBk.out _ T.out) (ICk.out _ T.out)).mono ?_
                    rintro e w8 ⟨aH1, cH1, rfl, hi, hb⟩
                    have T := Lib.hid (below_go T.out hb); have H8 := Lib.hid hi
                    clear hb hi Lr Gr Xr Rr Zr HR1
                    go_upto_region 28 with fail
                    go_cut [24, 25] from 166 (fun s24 s25 wx => ∃ aM cM, s24 = .slice aM HLx.length cM ∧ s25 = .int .i64 0 ∧ Hid (IntsAt wx aM HLx) ∧ Hid (Below w7.heap.size w7 wx) ∧ Hid (IntsAt wx aH1 HLr))
                    case first =>
                      have D8 := Lib.hid (show Below w8.heap.size w8 w8.drew from Below.drew (Below.refl _ _))
                      have T := Lib.hid (below_go T.out D8.out)
                      have H8 := Lib.hid (H8.out.lo D8.out)
                      refine wp_region_held_drew (S := (fun W => (W.cell? ⟨w.heap.size, 0, none⟩ = some (.int .i64 r.rows) ∧ W.cell? ⟨w.heap.size, 1, none⟩ = some (.int .i64 r.mid) ∧ W.cell? ⟨w.heap.size, 2, none⟩ = some (.int .i64 r.gap) ∧ W.cell? ⟨w.heap.size, 3, none⟩ = some (.int .i64 r.reach) ∧ W.cell? ⟨w.heap.size, 4, none⟩ = some (.slice r.la r.ls.length r.lc)) ∧ (W.cell? ⟨gX, 0, none⟩ = some (.int .i64 r.rows) ∧ W.cell? ⟨gX, 1, none⟩ = some (.int .i64 r.mid) ∧ W.cell? ⟨gX, 2, none⟩ = some (.int .i64 r.gap) ∧ W.cell? ⟨gX, 3, none⟩ = some (.int .i64 r.reach) ∧ W.cell? ⟨gX, 4, none⟩ = some (.slice aX xl.length cX)))) (by kernel_rfl) ?_ (fun hHeld => ?_)
                      · (try dsimp only) <;> (with_reducible exact KK.out _ T.out)
                      refine wpAnyH_take (i := 0) (oi := { dst := some 167, op := Op.load 24 (Operand.tmp 9), type := 24, pos := "outright.go:201", after := #[], guard := none }) (v := ?v_tu28_58) rfl (by kernel_rfl) (by kernel_rfl) (by kernel_rfl) (fun _ _ _ h => h) (Or.inl ⟨by rfl, ?y_tu28_58⟩) (by assumption) ?_
                      case y_tu28_58 => intro w hSw; (try dsimp only at hSw); go_simp; with_reducible rfl
                      try simp only [Act.put, List.setIfInBounds_toArray, List.set_cons_zero, List.set_cons_succ]
                      refine wpAnyH_take (i := 2) (oi := { dst := some 169, op := Op.load 24 (Operand.tmp 4), type := 24, pos := "outright.go:201", after := #[], guard := none }) (v := ?v_tu28_59) rfl (by kernel_rfl) (by kernel_rfl) (by kernel_rfl) (fun _ _ _ h => h) (Or.inl ⟨by rfl, ?y_tu28_59⟩) (by assumption) ?_
                      case y_tu28_59 => intro w hSw; (try dsimp only at hSw); go_simp; with_reducible rfl
                      try simp only [Act.put, List.setIfInBounds_toArray, List.set_cons_zero, List.set_cons_succ]
                      refine wpAnyH_take (i := 3) (oi := { dst := some 170, op := Op.move (Operand.tmp 1), type := 25, pos := "outright.go:201", after := #[], guard := none }) (v := ?v_tu28_60) rfl (by kernel_rfl) (by kernel_rfl) (by kernel_rfl) (fun _ _ _ h => h) (Or.inl ⟨by rfl, ?y_tu28_60⟩) (by assumption) ?_
                      case y_tu28_60 => intro w hSw; (try dsimp only at hSw); go_simp; with_reducible rfl
                      try simp only [Act.put, List.setIfInBounds_toArray, List.set_cons_zero, List.set_cons_succ]
                      refine wpAnyH_take (i := 5) (oi := { dst := some 172, op := Op.move (Operand.tmp 12), type := 47, pos := "outright.go:201", after := #[], guard := none }) (v := ?v_tu28_61) rfl (by kernel_rfl) (by kernel_rfl) (by kernel_rfl) (fun _ _ _ h => h) (Or.inl ⟨by rfl, ?y_tu28_61⟩) (by assumption) ?_
                      case y_tu28_61 => intro w hSw; (try dsimp only at hSw); go_simp; with_reducible rfl
                      try simp only [Act.put, List.setIfInBounds_toArray, List.set_cons_zero, List.set_cons_succ]
                      refine wpAnyH_take (i := 7) (oi := { dst := some 174, op := Op.move (Operand.tmp 20), type := 25, pos := "outright.go:201", after := #[], guard := none }) (v := ?v_tu28_62) rfl (by kernel_rfl) (by kernel_rfl) (by kernel_rfl) (fun _ _ _ h => h) (Or.inl ⟨by rfl, ?y_tu28_62⟩) (by assumption) ?_
                      case y_tu28_62 => intro w hSw; (try dsimp only at hSw); go_simp; with_reducible rfl
                      try simp only [Act.put, List.setIfInBounds_toArray, List.set_cons_zero, List.set_cons_succ]
                      refine wpAnyH_take (i := 8) (oi := { dst := some 175, op := Op.move (Operand.tmp 19), type := 48, pos := "outright.go:201", after := #[], guard := none }) (v := ?v_tu28_63) rfl (by kernel_rfl) (by kernel_rfl) (by kernel_rfl) (fun _ _ _ h => h) (Or.inl ⟨by rfl, ?y_tu28_63⟩) (by assumption) ?_
                      case y_tu28_63 => intro w hSw; (try dsimp only at hSw); go_simp; with_reducible rfl
                      try simp only [Act.put, List.setIfInBounds_toArray, List.set_cons_zero, List.set_cons_succ]
                      refine wpAnyH_ready (rs := [1]) (by kernel_rfl) (by simp) ?_
                      refine AllReadyH.cons (o := { dst := some 168, op := Op.call { callee := Callee.value (Operand.func 18), args := #[Operand.tmp 167], argTypes := #[24] }, type := 32, pos := "outright.go:201", after := #[{ on := 0, ground := Ground.data }], guard := none }) rfl (fun K hK => ?_) ?_
                      go_simp
                      (first | (go_at_call 18; (with_reducible refine (RX.out _ _ _ (below_go B0.out T.out) (LK.out _ T.out)).mono ?_); rintro e wN ⟨aN, cN, rfl, hl, hg, hb⟩; have T := Lib.hid (below_go T.out hb); (try (have Lx := Lib.hid (Lx.out.lo hb); have Gx := Lib.hid (fun g o e => Nat.lt_of_lt_of_le (Gx.out g o e) hb.size))); (try have Xx := Lib.hid (Xx.out.lo hb)); (try (have Rx := Lib.hid (Rx.out.lower hb); have Zx := Lib.hid (fun g o e => Nat.lt_of_lt_of_le (Zx.out g o e) hb.size))); have Lx := Lib.hid hl; have Gx := Lib.hid hg; have H8 := Lib.hid (H8.out.lo hb); clear hb hl hg) | (go_at_call 52; (with_reducible refine (TUX.out _ _ _ (HX.out.lo (below_go B0.out T.out)) HXL.out).mono ?_); rintro e wN ⟨aT, cT, rfl, hi, hn, hb⟩; have T := Lib.hid (below_go T.out hb); (try (have Lx := Lib.hid (Lx.out.lo hb); have Gx := Lib.hid (fun g o e => Nat.lt_of_lt_of_le (Gx.out g o e) hb.size))); (try have Xx := Lib.hid (Xx.out.lo hb)); (try (have Rx := Lib.hid (Rx.out.lower hb); have Zx := Lib.hid (fun g o e => Nat.lt_of_lt_of_le (Zx.out g o e) hb.size))); have Xx := Lib.hid hi; have H8 := Lib.hid (H8.out.lo hb); clear hb hi hn) | (go_at_call 28; (with_reducible refine (BX.out _ _ _ (RG.out _ T.out)).mono ?_); rintro e wN ⟨aH, cH, rfl, hr, hga, hb⟩; have T := Lib.hid (below_go T.out hb); (try (have Lx := Lib.hid (Lx.out.lo hb); have Gx := Lib.hid (fun g o e => Nat.lt_of_lt_of_le (Gx.out g o e) hb.size))); (try have Xx := Lib.hid (Xx.out.lo hb)); (try (have Rx := Lib.hid (Rx.out.lower hb); have Zx := Lib.hid (fun g o e => Nat.lt_of_lt_of_le (Zx.out g o e) hb.size))); have Rx := Lib.hid hr; have Zx := Lib.hid hga; have H8 := Lib.hid (H8.out.lo hb); clear hb hr hga) | (go_at_call 27; (with_reducible refine (HX1.out _ _ _ _ _ _ _ _ _ _ _ (below_go B0.out T.out) Lx.out Gx.out Xx.out Rx.out (IVk.out _ T.out) (ICk.out _ T.out)).mono ?_); rintro e wN ⟨aM, cM, rfl, hi, hb⟩; have T := Lib.hid (below_go T.out hb); have H8 := Lib.hid (H8.out.lo hb); have H9 := Lib.hid hi; clear hb hi))
                      go_wp2_with fail
                      refine hK.out _ _ ?_ (fun hHeld => ?_)
                      · (try dsimp only) <;> (with_reducible exact KK.out _ T.out)
                      clear hK K
                      try simp only [Act.put, List.setIfInBounds_toArray, List.set_cons_zero, List.set_cons_succ]
                      refine wpAnyH_ready (rs := [4]) (by kernel_rfl) (by simp) ?_
                      refine AllReadyH.cons (o := { dst := some 171, op := Op.call { callee := Callee.value (Operand.func 52), args := #[Operand.tmp 169, Operand.tmp 170], argTypes := #[24, 25] }, type := 25, pos := "outright.go:201", after := #[{ on := 2, ground := Ground.data }, { on := 3, ground := Ground.data }, { on := 1, ground := Ground.chain }], guard := none }) rfl (fun K hK => ?_) ?_
                      go_simp
                      (first | (go_at_call 18; (with_reducible refine (RX.out _ _ _ (below_go B0.out T.out) (LK.out _ T.out)).mono ?_); rintro e wN ⟨aN, cN, rfl, hl, hg, hb⟩; have T := Lib.hid (below_go T.out hb); (try (have Lx := Lib.hid (Lx.out.lo hb); have Gx := Lib.hid (fun g o e => Nat.lt_of_lt_of_le (Gx.out g o e) hb.size))); (try have Xx := Lib.hid (Xx.out.lo hb)); (try (have Rx := Lib.hid (Rx.out.lower hb); have Zx := Lib.hid (fun g o e => Nat.lt_of_lt_of_le (Zx.out g o e) hb.size))); have Lx := Lib.hid hl; have Gx := Lib.hid hg; have H8 := Lib.hid (H8.out.lo hb); clear hb hl hg) | (go_at_call 52; (with_reducible refine (TUX.out _ _ _ (HX.out.lo (below_go B0.out T.out)) HXL.out).mono ?_); rintro e wN ⟨aT, cT, rfl, hi, hn, hb⟩; have T := Lib.hid (below_go T.out hb); (try (have Lx := Lib.hid (Lx.out.lo hb); have Gx := Lib.hid (fun g o e => Nat.lt_of_lt_of_le (Gx.out g o e) hb.size))); (try have Xx := Lib.hid (Xx.out.lo hb)); (try (have Rx := Lib.hid (Rx.out.lower hb); have Zx := Lib.hid (fun g o e => Nat.lt_of_lt_of_le (Zx.out g o e) hb.size))); have Xx := Lib.hid hi; have H8 := Lib.hid (H8.out.lo hb); clear hb hi hn) | (go_at_call 28; (with_reducible refine (BX.out _ _ _ (RG.out _ T.out)).mono ?_); rintro e wN ⟨aH, cH, rfl, hr, hga, hb⟩; have T := Lib.hid (below_go T.out hb); (try (have Lx := Lib.hid (Lx.out.lo hb); have Gx := Lib.hid (fun g o e => Nat.lt_of_lt_of_le (Gx.out g o e) hb.size))); (try have Xx := Lib.hid (Xx.out.lo hb)); (try (have Rx := Lib.hid (Rx.out.lower hb); have Zx := Lib.hid (fun g o e => Nat.lt_of_lt_of_le (Zx.out g o e) hb.size))); have Rx := Lib.hid hr; have Zx := Lib.hid hga; have H8 := Lib.hid (H8.out.lo hb); clear hb hr hga) | (go_at_call 27; (with_reducible refine (HX1.out _ _ _ _ _ _ _ _ _ _ _ (below_go B0.out T.out) Lx.out Gx.out Xx.out Rx.out (IVk.out _ T.out) (ICk.out _ T.out)).mono ?_); rintro e wN ⟨aM, cM, rfl, hi, hb⟩; have T := Lib.hid (below_go T.out hb); have H8 := Lib.hid (H8.out.lo hb); have H9 := Lib.hid hi; clear hb hi))
                      go_wp2_with fail
                      refine hK.out _ _ ?_ (fun hHeld => ?_)
                      · (try dsimp only) <;> (with_reducible exact KK.out _ T.out)
                      clear hK K
                      try simp only [Act.put, List.setIfInBounds_toArray, List.set_cons_zero, List.set_cons_succ]
                      refine wpAnyH_ready (rs := [6]) (by kernel_rfl) (by simp) ?_
                      refine AllReadyH.cons (o := { dst := some 173, op := Op.call { callee := Callee.value (Operand.func 28), args := #[Operand.tmp 172], argTypes := #[47] }, type := 51, pos := "outright.go:201", after := #[{ on := 5, ground := Ground.data }, { on := 4, ground := Ground.chain }], guard := none }) rfl (fun K hK => ?_) ?_
                      go_simp
                      (first | (go_at_call 18; (with_reducible refine (RX.out _ _ _ (below_go B0.out T.out) (LK.out _ T.out)).mono ?_); rintro e wN ⟨aN, cN, rfl, hl, hg, hb⟩; have T := Lib.hid (below_go T.out hb); (try (have Lx := Lib.hid (Lx.out.lo hb); have Gx := Lib.hid (fun g o e => Nat.lt_of_lt_of_le (Gx.out g o e) hb.size))); (try have Xx := Lib.hid (Xx.out.lo hb)); (try (have Rx := Lib.hid (Rx.out.lower hb); have Zx := Lib.hid (fun g o e => Nat.lt_of_lt_of_le (Zx.out g o e) hb.size))); have Lx := Lib.hid hl; have Gx := Lib.hid hg; have H8 := Lib.hid (H8.out.lo hb); clear hb hl hg) | (go_at_call 52; (with_reducible refine (TUX.out _ _ _ (HX.out.lo (below_go B0.out T.out)) HXL.out).mono ?_); rintro e wN ⟨aT, cT, rfl, hi, hn, hb⟩; have T := Lib.hid (below_go T.out hb); (try (have Lx := Lib.hid (Lx.out.lo hb); have Gx := Lib.hid (fun g o e => Nat.lt_of_lt_of_le (Gx.out g o e) hb.size))); (try have Xx := Lib.hid (Xx.out.lo hb)); (try (have Rx := Lib.hid (Rx.out.lower hb); have Zx := Lib.hid (fun g o e => Nat.lt_of_lt_of_le (Zx.out g o e) hb.size))); have Xx := Lib.hid hi; have H8 := Lib.hid (H8.out.lo hb); clear hb hi hn) | (go_at_call 28; (with_reducible refine (BX.out _ _ _ (RG.out _ T.out)).mono ?_); rintro e wN ⟨aH, cH, rfl, hr, hga, hb⟩; have T := Lib.hid (below_go T.out hb); (try (have Lx := Lib.hid (Lx.out.lo hb); have Gx := Lib.hid (fun g o e => Nat.lt_of_lt_of_le (Gx.out g o e) hb.size))); (try have Xx := Lib.hid (Xx.out.lo hb)); (try (have Rx := Lib.hid (Rx.out.lower hb); have Zx := Lib.hid (fun g o e => Nat.lt_of_lt_of_le (Zx.out g o e) hb.size))); have Rx := Lib.hid hr; have Zx := Lib.hid hga; have H8 := Lib.hid (H8.out.lo hb); clear hb hr hga) | (go_at_call 27; (with_reducible refine (HX1.out _ _ _ _ _ _ _ _ _ _ _ (below_go B0.out T.out) Lx.out Gx.out Xx.out Rx.out (IVk.out _ T.out) (ICk.out _ T.out)).mono ?_); rintro e wN ⟨aM, cM, rfl, hi, hb⟩; have T := Lib.hid (below_go T.out hb); have H8 := Lib.hid (H8.out.lo hb); have H9 := Lib.hid hi; clear hb hi))
                      go_wp2_with fail
                      refine hK.out _ _ ?_ (fun hHeld => ?_)
                      · (try dsimp only) <;> (with_reducible exact KK.out _ T.out)
                      clear hK K
                      try simp only [Act.put, List.setIfInBounds_toArray, List.set_cons_zero, List.set_cons_succ]
                      refine wpAnyH_ready (rs := [9]) (by kernel_rfl) (by simp) ?_
                      refine AllReadyH.cons (o := { dst := some 176, op := Op.call { callee := Callee.value (Operand.func 27), args := #[Operand.tmp 168, Operand.tmp 171, Operand.tmp 173, Operand.tmp 174, Operand.tmp 175], argTypes := #[32, 25, 51, 25, 48] }, type := 49, pos := "outright.go:201", after := #[{ on := 1, ground := Ground.data }, { on := 4, ground := Ground.data }, { on := 6, ground := Ground.data }, { on := 7, ground := Ground.data }, { on := 8, ground := Ground.data }, { on := 6, ground := Ground.chain }], guard := none }) rfl (fun K hK => ?_) ?_
                      go_simp
                      (first | (go_at_call 18; (with_reducible refine (RX.out _ _ _ (below_go B0.out T.out) (LK.out _ T.out)).mono ?_); rintro e wN ⟨aN, cN, rfl, hl, hg, hb⟩; have T := Lib.hid (below_go T.out hb); (try (have Lx := Lib.hid (Lx.out.lo hb); have Gx := Lib.hid (fun g o e => Nat.lt_of_lt_of_le (Gx.out g o e) hb.size))); (try have Xx := Lib.hid (Xx.out.lo hb)); (try (have Rx := Lib.hid (Rx.out.lower hb); have Zx := Lib.hid (fun g o e => Nat.lt_of_lt_of_le (Zx.out g o e) hb.size))); have Lx := Lib.hid hl; have Gx := Lib.hid hg; have H8 := Lib.hid (H8.out.lo hb); clear hb hl hg) | (go_at_call 52; (with_reducible refine (TUX.out _ _ _ (HX.out.lo (below_go B0.out T.out)) HXL.out).mono ?_); rintro e wN ⟨aT, cT, rfl, hi, hn, hb⟩; have T := Lib.hid (below_go T.out hb); (try (have Lx := Lib.hid (Lx.out.lo hb); have Gx := Lib.hid (fun g o e => Nat.lt_of_lt_of_le (Gx.out g o e) hb.size))); (try have Xx := Lib.hid (Xx.out.lo hb)); (try (have Rx := Lib.hid (Rx.out.lower hb); have Zx := Lib.hid (fun g o e => Nat.lt_of_lt_of_le (Zx.out g o e) hb.size))); have Xx := Lib.hid hi; have H8 := Lib.hid (H8.out.lo hb); clear hb hi hn) | (go_at_call 28; (with_reducible refine (BX.out _ _ _ (RG.out _ T.out)).mono ?_); rintro e wN ⟨aH, cH, rfl, hr, hga, hb⟩; have T := Lib.hid (below_go T.out hb); (try (have Lx := Lib.hid (Lx.out.lo hb); have Gx := Lib.hid (fun g o e => Nat.lt_of_lt_of_le (Gx.out g o e) hb.size))); (try have Xx := Lib.hid (Xx.out.lo hb)); (try (have Rx := Lib.hid (Rx.out.lower hb); have Zx := Lib.hid (fun g o e => Nat.lt_of_lt_of_le (Zx.out g o e) hb.size))); have Rx := Lib.hid hr; have Zx := Lib.hid hga; have H8 := Lib.hid (H8.out.lo hb); clear hb hr hga) | (go_at_call 27; (with_reducible refine (HX1.out _ _ _ _ _ _ _ _ _ _ _ (below_go B0.out T.out) Lx.out Gx.out Xx.out Rx.out (IVk.out _ T.out) (ICk.out _ T.out)).mono ?_); rintro e wN ⟨aM, cM, rfl, hi, hb⟩; have T := Lib.hid (below_go T.out hb); have H8 := Lib.hid (H8.out.lo hb); have H9 := Lib.hid hi; clear hb hi))
                      go_wp2_with fail
                      refine hK.out _ _ ?_ (fun hHeld => ?_)
                      · (try dsimp only) <;> (with_reducible exact KK.out _ T.out)
                      clear hK K
                      try simp only [Act.put, List.setIfInBounds_toArray, List.set_cons_zero, List.set_cons_succ]
                      refine wpAnyH_take (i := 10) (oi := { dst := some 166, op := Op.move (Operand.tmp 176), type := 49, pos := "outright.go:201", after := #[{ on := 9, ground := Ground.data }], guard := none }) (v := ?v_tu28_64) rfl (by kernel_rfl) (by kernel_rfl) (by kernel_rfl) (fun _ _ _ h => h) (Or.inl ⟨by rfl, ?y_tu28_64⟩) (by assumption) ?_
                      case y_tu28_64 => intro w hSw; (try dsimp only at hSw); go_simp; with_reducible rfl
                      try simp only [Act.put, List.setIfInBounds_toArray, List.set_cons_zero, List.set_cons_succ]
                      refine wpAnyH_take (i := 11) (oi := { dst := some 177, op := Op.extract (Operand.tmp 166) 0, type := 25, pos := "outright.go:201", after := #[{ on := 10, ground := Ground.data }], guard := none }) (v := ?v_tu28_65) rfl (by kernel_rfl) (by kernel_rfl) (by kernel_rfl) (fun _ _ _ h => h) (Or.inl ⟨by rfl, ?y_tu28_65⟩) (by assumption) ?_
                      case y_tu28_65 => intro w hSw; (try dsimp only at hSw); go_simp; with_reducible rfl
                      try simp only [Act.put, List.setIfInBounds_toArray, List.set_cons_zero, List.set_cons_succ]
                      refine wpAnyH_take (i := 12) (oi := { dst := some 178, op := Op.extract (Operand.tmp 166) 1, type := 28, pos := "outright.go:201", after := #[{ on := 10, ground := Ground.data }, { on := 13, ground := Ground.gcOnly Departure.lateStores }], guard := none }) (v := ?v_tu28_66) rfl (by kernel_rfl) (by kernel_rfl) (by kernel_rfl) (fun _ _ _ h => h) (Or.inl ⟨by rfl, ?y_tu28_66⟩) (by assumption) ?_
                      case y_tu28_66 => intro w hSw; (try dsimp only at hSw); go_simp; with_reducible rfl
                      try simp only [Act.put, List.setIfInBounds_toArray, List.set_cons_zero, List.set_cons_succ]
                      refine wpAnyH_take (i := 13) (oi := { dst := some 24, op := Op.assign (Operand.tmp 177), type := 25, pos := "outright.go:201", after := #[{ on := 11, ground := Ground.data }, { on := 9, ground := Ground.chain }, { on := 0, ground := Ground.phase }, { on := 1, ground := Ground.phase }, { on := 2, ground := Ground.phase }, { on := 3, ground := Ground.phase }, { on := 4, ground := Ground.phase }, { on := 5, ground := Ground.phase }, { on := 6, ground := Ground.phase }, { on := 7, ground := Ground.phase }, { on := 8, ground := Ground.phase }, { on := 9, ground := Ground.phase }, { on := 10, ground := Ground.phase }, { on := 11, ground := Ground.phase }, { on := 12, ground := Ground.textOnly Departure.lateStores }], guard := none }) (v := ?v_tu28_67) rfl (by kernel_rfl) (by kernel_rfl) (by kernel_rfl) (fun _ _ _ h => h) (Or.inl ⟨by rfl, ?y_tu28_67⟩) (by assumption) ?_
                      case y_tu28_67 => intro w hSw; (try dsimp only at hSw); go_simp; with_reducible rfl
                      try simp only [Act.put, List.setIfInBounds_toArray, List.set_cons_zero, List.set_cons_succ]
                      refine wpAnyH_take (i := 14) (oi := { dst := some 25, op := Op.assign (Operand.tmp 178), type := 28, pos := "outright.go:201", after := #[{ on := 12, ground := Ground.data }, { on := 13, ground := Ground.chain }, { on := 0, ground := Ground.phase }, { on := 1, ground := Ground.phase }, { on := 2, ground := Ground.phase }, { on := 3, ground := Ground.phase }, { on := 4, ground := Ground.phase }, { on := 5, ground := Ground.phase }, { on := 6, ground := Ground.phase }, { on := 7, ground := Ground.phase }, { on := 8, ground := Ground.phase }, { on := 9, ground := Ground.phase }, { on := 10, ground := Ground.phase }, { on := 11, ground := Ground.phase }, { on := 12, ground := Ground.phase }, { on := 13, ground := Ground.phase }], guard := none }) (v := ?v_tu28_68) rfl (by kernel_rfl) (by kernel_rfl) (by kernel_rfl) (fun _ _ _ h => h) (Or.inl ⟨by rfl, ?y_tu28_68⟩) (by assumption) ?_
                      case y_tu28_68 => intro w hSw; (try dsimp only at hSw); go_simp; with_reducible rfl
                      try simp only [Act.put, List.setIfInBounds_toArray, List.set_cons_zero, List.set_cons_succ]
                      refine wpAnyH_done (by kernel_rfl) ?_ _
                      rotate_left 1
                      exact AllReadyH.nil
                      exact AllReadyH.nil
                      exact AllReadyH.nil
                      exact AllReadyH.nil
                      all_goals
                        go_wp2_with fail
                        go_meet
                        case rel => exact ⟨_, _, rfl, rfl, H9, T, H8⟩
                    case rest =>
                      obtain ⟨aM, cM, rfl, rfl, hi, hT, hi2⟩ := hcut
                      have T := Lib.hid hT.out; have H8 := Lib.hid hi2.out; have H9 := Lib.hid hi.out
                      have H8k := Lib.hid (fun W (hb : Below wc.heap.size wc W) => H8.out.lo hb)
                      have H9k := Lib.hid (fun W (hb : Below wc.heap.size wc W) => H9.out.lo hb)
                      have KK := Lib.hid (fun W (hb : Below wc.heap.size wc W) => KK.out W (below_go T.out hb))
                      have LK := Lib.hid (fun W (hb : Below wc.heap.size wc W) => LK.out W (below_go T.out hb))
                      have RG := Lib.hid (fun W (hb : Below wc.heap.size wc W) => RG.out W (below_go T.out hb))
                      have B0 := Lib.hid (below_go B0.out T.out)
                      have T := Lib.hid (Below.refl wc.heap.size wc)
                      clear hi hi2 hT H8 H9 HX1 IBk ICk IVk
                      obtain ⟨⟨r0, r1, r2, r3, r4⟩, ⟨y0, y1, y2, y3, y4⟩⟩ := KK.out _ T.out
                      clear y0 y1 y2 y3 y4
                      go_wp2_with fail
                      refine (RA.out _ (below_go B0.out T.out)).mono ?_
                      rintro e wa3 ⟨aR, cR, rfl, hl, hg, hb⟩
                      have T := Lib.hid (below_go T.out hb); have Lr := Lib.hid hl; have Gr := Lib.hid hg
                      clear hb hl hg r0 r1 r2 r3 r4
                      go_wp2_with fail
                      refine (LX.out _ (below_go B0.out T.out)).mono ?_
                      rintro e wb3 ⟨aP, cP, rfl, hi, hb⟩
                      have T := Lib.hid (below_go T.out hb); have Lr := Lib.hid (Lr.out.lo hb); have Gr := Lib.hid (fun g o e => Nat.lt_of_lt_of_le (Gr.out g o e) hb.size); have Xr := Lib.hid hi
                      clear hb hi
                      go_wp2_with fail
                      refine (BA.out _ (below_go B0.out T.out)).mono ?_
                      rintro e wc3 ⟨aG, cG, rfl, hr, hga, hb⟩
                      have T := Lib.hid (below_go T.out hb); have Lr := Lib.hid (Lr.out.lo hb); have Gr := Lib.hid (fun g o e => Nat.lt_of_lt_of_le (Gr.out g o e) hb.size); have Xr := Lib.hid (Xr.out.lo hb); have Rr := Lib.hid hr; have Zr := Lib.hid hga
                      clear hb hr hga
                      go_wp2_with fail
                      refine (FR.out _ _ _ _ _ _ _ (below_go B0.out T.out) Lr.out Gr.out Xr.out Rr.out Zr.out).mono ?_
                      rintro e w10 ⟨aS1, cS1, aM1, cM1, rfl, hi, hi2, hb⟩
                      have T := Lib.hid (below_go T.out hb); have S8 := Lib.hid hi; have M8 := Lib.hid hi2
                      clear hb hi hi2 Lr Gr Xr Rr Zr FR
                      go_upto_region 30 with fail
                      obtain ⟨wd, hwd⟩ : ∃ W, W = wc := ⟨_, rfl⟩
                      subst hwd
                      go_cut [29, 30, 31] from 190 (fun s29 s30 s31 wx => ∃ aS2 cS2 aM2 cM2, s29 = .slice aS2 SUx.length cS2 ∧ s30 = .slice aM2 MAx.length cM2 ∧ s31 = .int .i64 0 ∧ Hid (IntsAt wx aS2 SUx) ∧ Hid (IntsAt wx aM2 MAx) ∧ Hid (Below w10.heap.size w10 wx) ∧ Hid (Below wd.heap.size wd wx))
                      case first =>
                        have D8 := Lib.hid (show Below w10.heap.size w10 w10.drew from Below.drew (Below.refl _ _))
                        have T := Lib.hid (below_go T.out D8.out)
                        refine wp_region_held_drew (S := (fun W => (W.cell? ⟨w.heap.size, 0, none⟩ = some (.int .i64 r.rows) ∧ W.cell? ⟨w.heap.size, 1, none⟩ = some (.int .i64 r.mid) ∧ W.cell? ⟨w.heap.size, 2, none⟩ = some (.int .i64 r.gap) ∧ W.cell? ⟨w.heap.size, 3, none⟩ = some (.int .i64 r.reach) ∧ W.cell? ⟨w.heap.size, 4, none⟩ = some (.slice r.la r.ls.length r.lc)) ∧ (W.cell? ⟨gX, 0, none⟩ = some (.int .i64 r.rows) ∧ W.cell? ⟨gX, 1, none⟩ = some (.int .i64 r.mid) ∧ W.cell? ⟨gX, 2, none⟩ = some (.int .i64 r.gap) ∧ W.cell? ⟨gX, 3, none⟩ = some (.int .i64 r.reach) ∧ W.cell? ⟨gX, 4, none⟩ = some (.slice aX xl.length cX)))) (by kernel_rfl) ?_ (fun hHeld => ?_)
                        · (try dsimp only) <;> (with_reducible exact KK.out _ T.out)
                        refine wpAnyH_take (i := 0) (oi := { dst := some 191, op := Op.load 24 (Operand.tmp 9), type := 24, pos := "outright.go:203", after := #[], guard := none }) (v := ?v_tu30_69) rfl (by kernel_rfl) (by kernel_rfl) (by kernel_rfl) (fun _ _ _ h => h) (Or.inl ⟨by rfl, ?y_tu30_69⟩) (by assumption) ?_
                        case y_tu30_69 => intro w hSw; (try dsimp only at hSw); go_simp; with_reducible rfl
                        try simp only [Act.put, List.setIfInBounds_toArray, List.set_cons_zero, List.set_cons_succ]
                        refine wpAnyH_take (i := 2) (oi := { dst := some 193, op := Op.load 24 (Operand.tmp 4), type := 24, pos := "outright.go:203", after := #[], guard := none }) (v := ?v_tu30_70) rfl (by kernel_rfl) (by kernel_rfl) (by kernel_rfl) (fun _ _ _ h => h) (Or.inl ⟨by rfl, ?y_tu30_70⟩) (by assumption) ?_
                        case y_tu30_70 => intro w hSw; (try dsimp only at hSw); go_simp; with_reducible rfl
                        try simp only [Act.put, List.setIfInBounds_toArray, List.set_cons_zero, List.set_cons_succ]
                        refine wpAnyH_take (i := 3) (oi := { dst := some 194, op := Op.move (Operand.tmp 1), type := 25, pos := "outright.go:203", after := #[], guard := none }) (v := ?v_tu30_71) rfl (by kernel_rfl) (by kernel_rfl) (by kernel_rfl) (fun _ _ _ h => h) (Or.inl ⟨by rfl, ?y_tu30_71⟩) (by assumption) ?_
                        case y_tu30_71 => intro w hSw; (try dsimp only at hSw); go_simp; with_reducible rfl
                        try simp only [Act.put, List.setIfInBounds_toArray, List.set_cons_zero, List.set_cons_succ]
                        refine wpAnyH_take (i := 5) (oi := { dst := some 196, op := Op.move (Operand.tmp 12), type := 47, pos := "outright.go:203", after := #[], guard := none }) (v := ?v_tu30_72) rfl (by kernel_rfl) (by kernel_rfl) (by kernel_rfl) (fun _ _ _ h => h) (Or.inl ⟨by rfl, ?y_tu30_72⟩) (by assumption) ?_
                        case y_tu30_72 => intro w hSw; (try dsimp only at hSw); go_simp; with_reducible rfl
                        try simp only [Act.put, List.setIfInBounds_toArray, List.set_cons_zero, List.set_cons_succ]
                        refine wpAnyH_ready (rs := [1]) (by kernel_rfl) (by simp) ?_
                        refine AllReadyH.cons (o := { dst := some 192, op := Op.call { callee := Callee.value (Operand.func 18), args := #[Operand.tmp 191], argTypes := #[24] }, type := 32, pos := "outright.go:203", after := #[{ on := 0, ground := Ground.data }], guard := none }) rfl (fun K hK => ?_) ?_
                        go_simp
                        (first | (go_at_call 18; (with_reducible refine (RX.out _ _ _ (below_go B0.out T.out) (LK.out _ T.out)).mono ?_); rintro e wN ⟨aN, cN, rfl, hl, hg, hb⟩; have T := Lib.hid (below_go T.out hb); (try (have Lx := Lib.hid (Lx.out.lo hb); have Gx := Lib.hid (fun g o e => Nat.lt_of_lt_of_le (Gx.out g o e) hb.size))); (try have Xx := Lib.hid (Xx.out.lo hb)); (try (have Rx := Lib.hid (Rx.out.lower hb); have Zx := Lib.hid (fun g o e => Nat.lt_of_lt_of_le (Zx.out g o e) hb.size))); have Lx := Lib.hid hl; have Gx := Lib.hid hg; have D8 := Lib.hid (below_go D8.out hb); clear hb hl hg) | (go_at_call 52; (with_reducible refine (TUX.out _ _ _ (HX.out.lo (below_go B0.out T.out)) HXL.out).mono ?_); rintro e wN ⟨aT, cT, rfl, hi, hn, hb⟩; have T := Lib.hid (below_go T.out hb); (try (have Lx := Lib.hid (Lx.out.lo hb); have Gx := Lib.hid (fun g o e => Nat.lt_of_lt_of_le (Gx.out g o e) hb.size))); (try have Xx := Lib.hid (Xx.out.lo hb)); (try (have Rx := Lib.hid (Rx.out.lower hb); have Zx := Lib.hid (fun g o e => Nat.lt_of_lt_of_le (Zx.out g o e) hb.size))); have Xx := Lib.hid hi; have D8 := Lib.hid (below_go D8.out hb); clear hb hi hn) | (go_at_call 28; (with_reducible refine (BX.out _ _ _ (RG.out _ T.out)).mono ?_); rintro e wN ⟨aH, cH, rfl, hr, hga, hb⟩; have T := Lib.hid (below_go T.out hb); (try (have Lx := Lib.hid (Lx.out.lo hb); have Gx := Lib.hid (fun g o e => Nat.lt_of_lt_of_le (Gx.out g o e) hb.size))); (try have Xx := Lib.hid (Xx.out.lo hb)); (try (have Rx := Lib.hid (Rx.out.lower hb); have Zx := Lib.hid (fun g o e => Nat.lt_of_lt_of_le (Zx.out g o e) hb.size))); have Rx := Lib.hid hr; have Zx := Lib.hid hga; have D8 := Lib.hid (below_go D8.out hb); clear hb hr hga) | (go_at_call 35; (with_reducible refine (FX1.out _ _ _ _ _ _ _ (below_go B0.out T.out) Lx.out Gx.out Xx.out Rx.out Zx.out).mono ?_); rintro e wN ⟨aS2, cS2, aM2, cM2, rfl, hi, hi2, hb⟩; have T := Lib.hid (below_go T.out hb); have D8 := Lib.hid (below_go D8.out hb); have S9 := Lib.hid hi; have M9 := Lib.hid hi2; clear hb hi hi2))
                        go_wp2_with fail
                        refine hK.out _ _ ?_ (fun hHeld => ?_)
                        · (try dsimp only) <;> (with_reducible exact KK.out _ T.out)
                        clear hK K
                        try simp only [Act.put, List.setIfInBounds_toArray, List.set_cons_zero, List.set_cons_succ]
                        refine wpAnyH_ready (rs := [4]) (by kernel_rfl) (by simp) ?_
                        refine AllReadyH.cons (o := { dst := some 195, op := Op.call { callee := Callee.value (Operand.func 52), args := #[Operand.tmp 193, Operand.tmp 194], argTypes := #[24, 25] }, type := 25, pos := "outright.go:203", after := #[{ on := 2, ground := Ground.data }, { on := 3, ground := Ground.data }, { on := 1, ground := Ground.chain }], guard := none }) rfl (fun K hK => ?_) ?_
                        go_simp
                        (first | (go_at_call 18; (with_reducible refine (RX.out _ _ _ (below_go B0.out T.out) (LK.out _ T.out)).mono ?_); rintro e wN ⟨aN, cN, rfl, hl, hg, hb⟩; have T := Lib.hid (below_go T.out hb); (try (have Lx := Lib.hid (Lx.out.lo hb); have Gx := Lib.hid (fun g o e => Nat.lt_of_lt_of_le (Gx.out g o e) hb.size))); (try have Xx := Lib.hid (Xx.out.lo hb)); (try (have Rx := Lib.hid (Rx.out.lower hb); have Zx := Lib.hid (fun g o e => Nat.lt_of_lt_of_le (Zx.out g o e) hb.size))); have Lx := Lib.hid hl; have Gx := Lib.hid hg; have D8 := Lib.hid (below_go D8.out hb); clear hb hl hg) | (go_at_call 52; (with_reducible refine (TUX.out _ _ _ (HX.out.lo (below_go B0.out T.out)) HXL.out).mono ?_); rintro e wN ⟨aT, cT, rfl, hi, hn, hb⟩; have T := Lib.hid (below_go T.out hb); (try (have Lx := Lib.hid (Lx.out.lo hb); have Gx := Lib.hid (fun g o e => Nat.lt_of_lt_of_le (Gx.out g o e) hb.size))); (try have Xx := Lib.hid (Xx.out.lo hb)); (try (have Rx := Lib.hid (Rx.out.lower hb); have Zx := Lib.hid (fun g o e => Nat.lt_of_lt_of_le (Zx.out g o e) hb.size))); have Xx := Lib.hid hi; have D8 := Lib.hid (below_go D8.out hb); clear hb hi hn) | (go_at_call 28; (with_reducible refine (BX.out _ _ _ (RG.out _ T.out)).mono ?_); rintro e wN ⟨aH, cH, rfl, hr, hga, hb⟩; have T := Lib.hid (below_go T.out hb); (try (have Lx := Lib.hid (Lx.out.lo hb); have Gx := Lib.hid (fun g o e => Nat.lt_of_lt_of_le (Gx.out g o e) hb.size))); (try have Xx := Lib.hid (Xx.out.lo hb)); (try (have Rx := Lib.hid (Rx.out.lower hb); have Zx := Lib.hid (fun g o e => Nat.lt_of_lt_of_le (Zx.out g o e) hb.size))); have Rx := Lib.hid hr; have Zx := Lib.hid hga; have D8 := Lib.hid (below_go D8.out hb); clear hb hr hga) | (go_at_call 35; (with_reducible refine (FX1.out _ _ _ _ _ _ _ (below_go B0.out T.out) Lx.out Gx.out Xx.out Rx.out Zx.out).mono ?_); rintro e wN ⟨aS2, cS2, aM2, cM2, rfl, hi, hi2, hb⟩; have T := Lib.hid (below_go T.out hb); have D8 := Lib.hid (below_go D8.out hb); have S9 := Lib.hid hi; have M9 := Lib.hid hi2; clear hb hi hi2))
                        go_wp2_with fail
                        refine hK.out _ _ ?_ (fun hHeld => ?_)
                        · (try dsimp only) <;> (with_reducible exact KK.out _ T.out)
                        clear hK K
                        try simp only [Act.put, List.setIfInBounds_toArray, List.set_cons_zero, List.set_cons_succ]
                        refine wpAnyH_ready (rs := [6]) (by kernel_rfl) (by simp) ?_
                        refine AllReadyH.cons (o := { dst := some 197, op := Op.call { callee := Callee.value (Operand.func 28), args := #[Operand.tmp 196], argTypes := #[47] }, type := 51, pos := "outright.go:203", after := #[{ on := 5, ground := Ground.data }, { on := 4, ground := Ground.chain }], guard := none }) rfl (fun K hK => ?_) ?_
                        go_simp
                        (first | (go_at_call 18; (with_reducible refine (RX.out _ _ _ (below_go B0.out T.out) (LK.out _ T.out)).mono ?_); rintro e wN ⟨aN, cN, rfl, hl, hg, hb⟩; have T := Lib.hid (below_go T.out hb); (try (have Lx := Lib.hid (Lx.out.lo hb); have Gx := Lib.hid (fun g o e => Nat.lt_of_lt_of_le (Gx.out g o e) hb.size))); (try have Xx := Lib.hid (Xx.out.lo hb)); (try (have Rx := Lib.hid (Rx.out.lower hb); have Zx := Lib.hid (fun g o e => Nat.lt_of_lt_of_le (Zx.out g o e) hb.size))); have Lx := Lib.hid hl; have Gx := Lib.hid hg; have D8 := Lib.hid (below_go D8.out hb); clear hb hl hg) | (go_at_call 52; (with_reducible refine (TUX.out _ _ _ (HX.out.lo (below_go B0.out T.out)) HXL.out).mono ?_); rintro e wN ⟨aT, cT, rfl, hi, hn, hb⟩; have T := Lib.hid (below_go T.out hb); (try (have Lx := Lib.hid (Lx.out.lo hb); have Gx := Lib.hid (fun g o e => Nat.lt_of_lt_of_le (Gx.out g o e) hb.size))); (try have Xx := Lib.hid (Xx.out.lo hb)); (try (have Rx := Lib.hid (Rx.out.lower hb); have Zx := Lib.hid (fun g o e => Nat.lt_of_lt_of_le (Zx.out g o e) hb.size))); have Xx := Lib.hid hi; have D8 := Lib.hid (below_go D8.out hb); clear hb hi hn) | (go_at_call 28; (with_reducible refine (BX.out _ _ _ (RG.out _ T.out)).mono ?_); rintro e wN ⟨aH, cH, rfl, hr, hga, hb⟩; have T := Lib.hid (below_go T.out hb); (try (have Lx := Lib.hid (Lx.out.lo hb); have Gx := Lib.hid (fun g o e => Nat.lt_of_lt_of_le (Gx.out g o e) hb.size))); (try have Xx := Lib.hid (Xx.out.lo hb)); (try (have Rx := Lib.hid (Rx.out.lower hb); have Zx := Lib.hid (fun g o e => Nat.lt_of_lt_of_le (Zx.out g o e) hb.size))); have Rx := Lib.hid hr; have Zx := Lib.hid hga; have D8 := Lib.hid (below_go D8.out hb); clear hb hr hga) | (go_at_call 35; (with_reducible refine (FX1.out _ _ _ _ _ _ _ (below_go B0.out T.out) Lx.out Gx.out Xx.out Rx.out Zx.out).mono ?_); rintro e wN ⟨aS2, cS2, aM2, cM2, rfl, hi, hi2, hb⟩; have T := Lib.hid (below_go T.out hb); have D8 := Lib.hid (below_go D8.out hb); have S9 := Lib.hid hi; have M9 := Lib.hid hi2; clear hb hi hi2))
                        go_wp2_with fail
                        refine hK.out _ _ ?_ (fun hHeld => ?_)
                        · (try dsimp only) <;> (with_reducible exact KK.out _ T.out)
                        clear hK K
                        try simp only [Act.put, List.setIfInBounds_toArray, List.set_cons_zero, List.set_cons_succ]
                        refine wpAnyH_ready (rs := [7]) (by kernel_rfl) (by simp) ?_
                        refine AllReadyH.cons (o := { dst := some 198, op := Op.call { callee := Callee.value (Operand.func 35), args := #[Operand.tmp 192, Operand.tmp 195, Operand.tmp 197], argTypes := #[32, 25, 51] }, type := 60, pos := "outright.go:203", after := #[{ on := 1, ground := Ground.data }, { on := 4, ground := Ground.data }, { on := 6, ground := Ground.data }, { on := 6, ground := Ground.chain }], guard := none }) rfl (fun K hK => ?_) ?_
                        go_simp
                        (first | (go_at_call 18; (with_reducible refine (RX.out _ _ _ (below_go B0.out T.out) (LK.out _ T.out)).mono ?_); rintro e wN ⟨aN, cN, rfl, hl, hg, hb⟩; have T := Lib.hid (below_go T.out hb); (try (have Lx := Lib.hid (Lx.out.lo hb); have Gx := Lib.hid (fun g o e => Nat.lt_of_lt_of_le (Gx.out g o e) hb.size))); (try have Xx := Lib.hid (Xx.out.lo hb)); (try (have Rx := Lib.hid (Rx.out.lower hb); have Zx := Lib.hid (fun g o e => Nat.lt_of_lt_of_le (Zx.out g o e) hb.size))); have Lx := Lib.hid hl; have Gx := Lib.hid hg; have D8 := Lib.hid (below_go D8.out hb); clear hb hl hg) | (go_at_call 52; (with_reducible refine (TUX.out _ _ _ (HX.out.lo (below_go B0.out T.out)) HXL.out).mono ?_); rintro e wN ⟨aT, cT, rfl, hi, hn, hb⟩; have T := Lib.hid (below_go T.out hb); (try (have Lx := Lib.hid (Lx.out.lo hb); have Gx := Lib.hid (fun g o e => Nat.lt_of_lt_of_le (Gx.out g o e) hb.size))); (try have Xx := Lib.hid (Xx.out.lo hb)); (try (have Rx := Lib.hid (Rx.out.lower hb); have Zx := Lib.hid (fun g o e => Nat.lt_of_lt_of_le (Zx.out g o e) hb.size))); have Xx := Lib.hid hi; have D8 := Lib.hid (below_go D8.out hb); clear hb hi hn) | (go_at_call 28; (with_reducible refine (BX.out _ _ _ (RG.out _ T.out)).mono ?_); rintro e wN ⟨aH, cH, rfl, hr, hga, hb⟩; have T := Lib.hid (below_go T.out hb); (try (have Lx := Lib.hid (Lx.out.lo hb); have Gx := Lib.hid (fun g o e => Nat.lt_of_lt_of_le (Gx.out g o e) hb.size))); (try have Xx := Lib.hid (Xx.out.lo hb)); (try (have Rx := Lib.hid (Rx.out.lower hb); have Zx := Lib.hid (fun g o e => Nat.lt_of_lt_of_le (Zx.out g o e) hb.size))); have Rx := Lib.hid hr; have Zx := Lib.hid hga; have D8 := Lib.hid (below_go D8.out hb); clear hb hr hga) | (go_at_call 35; (with_reducible refine (FX1.out _ _ _ _ _ _ _ (below_go B0.out T.out) Lx.out Gx.out Xx.out Rx.out Zx.out).mono ?_); rintro e wN ⟨aS2, cS2, aM2, cM2, rfl, hi, hi2, hb⟩; have T := Lib.hid (below_go T.out hb); have D8 := Lib.hid (below_go D8.out hb); have S9 := Lib.hid hi; have M9 := Lib.hid hi2; clear hb hi hi2))
                        go_wp2_with fail
                        refine hK.out _ _ ?_ (fun hHeld => ?_)
                        · (try dsimp only) <;> (with_reducible exact KK.out _ T.out)
                        clear hK K
                        try simp only [Act.put, List.setIfInBounds_toArray, List.set_cons_zero, List.set_cons_succ]
                        refine wpAnyH_take (i := 8) (oi := { dst := some 190, op := Op.move (Operand.tmp 198), type := 60, pos := "outright.go:203", after := #[{ on := 7, ground := Ground.data }], guard := none }) (v := ?v_tu30_73) rfl (by kernel_rfl) (by kernel_rfl) (by kernel_rfl) (fun _ _ _ h => h) (Or.inl ⟨by rfl, ?y_tu30_73⟩) (by assumption) ?_
                        case y_tu30_73 => intro w hSw; (try dsimp only at hSw); go_simp; with_reducible rfl
                        try simp only [Act.put, List.setIfInBounds_toArray, List.set_cons_zero, List.set_cons_succ]
                        refine wpAnyH_take (i := 9) (oi := { dst := some 199, op := Op.extract (Operand.tmp 190) 0, type := 25, pos := "outright.go:203", after := #[{ on := 8, ground := Ground.data }], guard := none }) (v := ?v_tu30_74) rfl (by kernel_rfl) (by kernel_rfl) (by kernel_rfl) (fun _ _ _ h => h) (Or.inl ⟨by rfl, ?y_tu30_74⟩) (by assumption) ?_
                        case y_tu30_74 => intro w hSw; (try dsimp only at hSw); go_simp; with_reducible rfl
                        try simp only [Act.put, List.setIfInBounds_toArray, List.set_cons_zero, List.set_cons_succ]
                        refine wpAnyH_take (i := 10) (oi := { dst := some 200, op := Op.extract (Operand.tmp 190) 1, type := 25, pos := "outright.go:203", after := #[{ on := 8, ground := Ground.data }, { on := 12, ground := Ground.gcOnly Departure.lateStores }], guard := none }) (v := ?v_tu30_75) rfl (by kernel_rfl) (by kernel_rfl) (by kernel_rfl) (fun _ _ _ h => h) (Or.inl ⟨by rfl, ?y_tu30_75⟩) (by assumption) ?_
                        case y_tu30_75 => intro w hSw; (try dsimp only at hSw); go_simp; with_reducible rfl
                        try simp only [Act.put, List.setIfInBounds_toArray, List.set_cons_zero, List.set_cons_succ]
                        refine wpAnyH_take (i := 11) (oi := { dst := some 201, op := Op.extract (Operand.tmp 190) 2, type := 28, pos := "outright.go:203", after := #[{ on := 8, ground := Ground.data }, { on := 13, ground := Ground.gcOnly Departure.lateStores }], guard := none }) (v := ?v_tu30_76) rfl (by kernel_rfl) (by kernel_rfl) (by kernel_rfl) (fun _ _ _ h => h) (Or.inl ⟨by rfl, ?y_tu30_76⟩) (by assumption) ?_
                        case y_tu30_76 => intro w hSw; (try dsimp only at hSw); go_simp; with_reducible rfl
                        try simp only [Act.put, List.setIfInBounds_toArray, List.set_cons_zero, List.set_cons_succ]
                        refine wpAnyH_take (i := 12) (oi := { dst := some 29, op := Op.assign (Operand.tmp 199), type := 25, pos := "outright.go:203", after := #[{ on := 9, ground := Ground.data }, { on := 7, ground := Ground.chain }, { on := 0, ground := Ground.phase }, { on := 1, ground := Ground.phase }, { on := 2, ground := Ground.phase }, { on := 3, ground := Ground.phase }, { on := 4, ground := Ground.phase }, { on := 5, ground := Ground.phase }, { on := 6, ground := Ground.phase }, { on := 7, ground := Ground.phase }, { on := 8, ground := Ground.phase }, { on := 9, ground := Ground.phase }, { on := 10, ground := Ground.textOnly Departure.lateStores }, { on := 11, ground := Ground.textOnly Departure.lateStores }], guard := none }) (v := ?v_tu30_77) rfl (by kernel_rfl) (by kernel_rfl) (by kernel_rfl) (fun _ _ _ h => h) (Or.inl ⟨by rfl, ?y_tu30_77⟩) (by assumption) ?_
                        case y_tu30_77 => intro w hSw; (try dsimp only at hSw); go_simp; with_reducible rfl
                        try simp only [Act.put, List.setIfInBounds_toArray, List.set_cons_zero, List.set_cons_succ]
                        refine wpAnyH_take (i := 13) (oi := { dst := some 30, op := Op.assign (Operand.tmp 200), type := 25, pos := "outright.go:203", after := #[{ on := 10, ground := Ground.data }, { on := 12, ground := Ground.chain }, { on := 0, ground := Ground.phase }, { on := 1, ground := Ground.phase }, { on := 2, ground := Ground.phase }, { on := 3, ground := Ground.phase }, { on := 4, ground := Ground.phase }, { on := 5, ground := Ground.phase }, { on := 6, ground := Ground.phase }, { on := 7, ground := Ground.phase }, { on := 8, ground := Ground.phase }, { on := 9, ground := Ground.phase }, { on := 10, ground := Ground.phase }, { on := 11, ground := Ground.textOnly Departure.lateStores }, { on := 12, ground := Ground.phase }], guard := none }) (v := ?v_tu30_78) rfl (by kernel_rfl) (by kernel_rfl) (by kernel_rfl) (fun _ _ _ h => h) (Or.inl ⟨by rfl, ?y_tu30_78⟩) (by assumption) ?_
                        case y_tu30_78 => intro w hSw; (try dsimp only at hSw); go_simp; with_reducible rfl
                        try simp only [Act.put, List.setIfInBounds_toArray, List.set_cons_zero, List.set_cons_succ]
                        refine wpAnyH_take (i := 14) (oi := { dst := some 31, op := Op.assign (Operand.tmp 201), type := 28, pos := "outright.go:203", after := #[{ on := 11, ground := Ground.data }, { on := 13, ground := Ground.chain }, { on := 0, ground := Ground.phase }, { on := 1, ground := Ground.phase }, { on := 2, ground := Ground.phase }, { on := 3, ground := Ground.phase }, { on := 4, ground := Ground.phase }, { on := 5, ground := Ground.phase }, { on := 6, ground := Ground.phase }, { on := 7, ground := Ground.phase }, { on := 8, ground := Ground.phase }, { on := 9, ground := Ground.phase }, { on := 10, ground := Ground.phase }, { on := 11, ground := Ground.phase }, { on := 12, ground := Ground.phase }, { on := 13, ground := Ground.phase }], guard := none }) (v := ?v_tu30_79) rfl (by kernel_rfl) (by kernel_rfl) (by kernel_rfl) (fun _ _ _ h => h) (Or.inl ⟨by rfl, ?y_tu30_79⟩) (by assumption) ?_
                        case y_tu30_79 => intro w hSw; (try dsimp only at hSw); go_simp; with_reducible rfl
                        try simp only [Act.put, List.setIfInBounds_toArray, List.set_cons_zero, List.set_cons_succ]
                        refine wpAnyH_done (by kernel_rfl) ?_ _
                        rotate_left 1
                        exact AllReadyH.nil
                        exact AllReadyH.nil
                        exact AllReadyH.nil
                        exact AllReadyH.nil
                        all_goals
                          go_wp2_with fail
                          go_meet
                          case rel => exact ⟨_, _, _, _, rfl, rfl, rfl, S9, M9, D8, T⟩
                      case rest =>
                        obtain ⟨aS2, cS2, aM2, cM2, rfl, rfl, rfl, h1, h2, h3, h4⟩ := hcut
                        have T := Lib.hid h4.out; have D := Lib.hid h3.out
                        have S8 := Lib.hid (S8.out.lo D.out); have M8 := Lib.hid (M8.out.lo D.out)
                        have S9 := Lib.hid h1.out; have M9 := Lib.hid h2.out
                        clear h1 h2 h3 h4 D FX1 RA LX BA RX BX LK RG
                        obtain ⟨⟨r0, r1, r2, r3, r4⟩, ⟨y0, y1, y2, y3, y4⟩⟩ := KK.out _ T.out
                        clear y0 y1 y2 y3 y4
                        have HLl := Lib.hid (show HLx.length ≤ 1000 by rw [← HE3.out]; have := turL_len r HLr; omega)
                        have SUl := Lib.hid (show SUx.length ≤ 1000 by rw [← HE4.out]; have := turL_len r SUr; omega)
                        have MAl := Lib.hid (show MAx.length ≤ 1000 by rw [← HE5.out]; have := turL_len r MAr; omega)
                        go_wp2_with fail
                        have ty := TU.out HLr aH1 cH1 wc (H8k.out _ T.out) (by have := HH16.out; omega)
                        rw [HE3.out] at ty
                        refine ty.mono ?_
                        rintro e w11 ⟨a11, c11, rfl, hi, _, hb⟩
                        have T := Lib.hid (below_go T.out hb); have S8 := Lib.hid (S8.out.lo hb); have M8 := Lib.hid (M8.out.lo hb); have S9 := Lib.hid (S9.out.lo hb); have M9 := Lib.hid (M9.out.lo hb); have N1 := Lib.hid hi
                        clear hb hi ty r0 r1 r2 r3 r4
                        go_wp2_with fail
                        refine (ints_eq HLx a11 aM c11 cM HLx.length HLx.length w11 N1.out (H9k.out _ T.out) HLl.out rfl rfl).mono ?_
                        rintro e w12 ⟨rfl, hb⟩
                        have T := Lib.hid (below_go T.out hb); have S8 := Lib.hid (S8.out.lo hb); have M8 := Lib.hid (M8.out.lo hb); have S9 := Lib.hid (S9.out.lo hb); have M9 := Lib.hid (M9.out.lo hb)
                        clear hb N1
                        obtain ⟨⟨r0, r1, r2, r3, r4⟩, ⟨y0, y1, y2, y3, y4⟩⟩ := KK.out _ T.out
                        clear y0 y1 y2 y3 y4
                        go_wp2_with fail
                        have ty := TU.out SUr aS1 cS1 w12 S8.out (by have := HS16.out; omega)
                        rw [HE4.out] at ty
                        refine ty.mono ?_
                        rintro e w13 ⟨a11, c11, rfl, hi, _, hb⟩
                        have T := Lib.hid (below_go T.out hb); have M8 := Lib.hid (M8.out.lo hb); have S9 := Lib.hid (S9.out.lo hb); have M9 := Lib.hid (M9.out.lo hb); have N1 := Lib.hid hi
                        clear hb hi ty r0 r1 r2 r3 r4 S8
                        go_wp2_with fail
                        refine (ints_eq SUx a11 aS2 c11 cS2 SUx.length SUx.length w13 N1.out S9.out SUl.out rfl rfl).mono ?_
                        rintro e w14 ⟨rfl, hb⟩
                        have T := Lib.hid (below_go T.out hb); have M8 := Lib.hid (M8.out.lo hb); have M9 := Lib.hid (M9.out.lo hb)
                        clear hb N1 S9
                        obtain ⟨⟨r0, r1, r2, r3, r4⟩, ⟨y0, y1, y2, y3, y4⟩⟩ := KK.out _ T.out
                        clear y0 y1 y2 y3 y4
                        go_wp2_with fail
                        have ty := TU.out MAr aM1 cM1 w14 M8.out (by have := HM16.out; omega)
                        rw [HE5.out] at ty
                        refine ty.mono ?_
                        rintro e w15 ⟨a11, c11, rfl, hi, _, hb⟩
                        have T := Lib.hid (below_go T.out hb); have M9 := Lib.hid (M9.out.lo hb); have N1 := Lib.hid hi
                        clear hb hi ty r0 r1 r2 r3 r4 M8
                        go_wp2_with fail
                        refine (ints_eq MAx a11 aM2 c11 cM2 MAx.length MAx.length w15 N1.out M9.out MAl.out rfl rfl).mono ?_
                        rintro e w16 ⟨rfl, hb⟩
                        have T := Lib.hid (below_go T.out hb)
                        clear hb N1 M9
                        go_wp2_with fail
                        refine (AW.out _ (below_go B0.out T.out)).mono ?_
                        rintro e w17 ⟨rfl, hb⟩
                        have T := Lib.hid (below_go T.out hb)
                        clear hb
                        go_wp2_with fail
                        go_returns
                        exact ⟨by first | done | rfl, below_go B0.out T.out⟩
  · rw [show readyB r xs ball = false from by simpa using hrd] at RD
    clear hrd hL hX hN hG hW hT
    unfold Rk.val at *
    go_enter Tryd.func11, Tryd.ntmps11
    go_wp2_with fail
    refine (RD.out _ S0.out.bl).mono ?_
    rintro e w1 ⟨rfl, hb⟩
    have S1 := Lib.hid (S0.out.go hb)
    clear hb S0
    go_wp2_with fail
    refine (AW.out _ S1.out.bl).mono ?_
    rintro e w2 ⟨rfl, hb⟩
    have S2 := Lib.hid (S1.out.go hb)
    clear hb S1
    go_wp2_with fail
    go_returns
    exact ⟨by first | done | rfl, S2.out.bl⟩

end Go.Proofs.YtaloffdkadhhnaaDoor
