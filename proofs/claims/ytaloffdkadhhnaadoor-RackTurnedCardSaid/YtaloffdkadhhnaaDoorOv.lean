/- The contracts of the reference's Over, Converts and Convert. -/
import Derived.Test.YtaloffdkadhhnaaDoorGn
import Derived.Test.YtaloffdkadhhnaaDoorGl
import Derived.Test.YtaloffdkadhhnaaDoorGd
import Derived.Test.YtaloffdkadhhnaaDoorWmo
set_option linter.unusedVariables false
set_option linter.unusedSimpArgs false
namespace Go.Proofs.YtaloffdkadhhnaaDoor
open Go.RowKit

attribute [local go_sem] Oper.semAt_some

/-- The boards of a straight ball. -/
def ovN (l : Ln) (i : Nat) : Int := l.st + (i : Int) * l.dr
def ovL (l : Ln) (n : Nat) : List Int := (List.range n).map (ovN l)
theorem ovL_succ (l : Ln) (n : Nat) : ovL l (n + 1) = ovL l n ++ [ovN l n] := by unfold ovL; rw [List.range_succ, List.map_append]; rfl
theorem ovL_len (l : Ln) (n : Nat) : (ovL l n).length = n := by unfold ovL; simp

/-- Where a function over a rack and a line stands. -/
structure RLn (r : Rk) (l : Ln) (w W : World) : Prop where
  bl : Below w.heap.size w W
  bK : Blk W w.heap.size (rCells r) 24
  bL : Blk W (w.heap.size + 1) #[.int .i64 l.st, .int .i64 l.dr] 72
theorem RLn.start (r : Rk) (l : Ln) (w : World) : RLn r l w ((w.alloc (.cells (rCells r) 24)).alloc (.cells #[.int .i64 l.st, .int .i64 l.dr] 72)) :=
  ⟨below_al2 (below_al w _) _, Blk.alt (p := fun _ => False) (Blk.new w _ _) ((Alt.refl _ _).alloc _) id, by have := Blk.new (w.alloc (.cells (rCells r) 24)) #[.int .i64 l.st, .int .i64 l.dr] 72; rwa [World.size_alloc] at this⟩
theorem RLn.go {r : Rk} {l : Ln} {w W W' : World} (h : RLn r l w W) (hb : Below W.heap.size W W') : RLn r l w W' :=
  ⟨below_go h.bl hb, Blk.alt h.bK (Alt.of_below (p := fun k => W.heap.size ≤ k) hb (fun k _ e => e)) (by have := h.bK.lt; omega), Blk.alt h.bL (Alt.of_below (p := fun k => W.heap.size ≤ k) hb (fun k _ e => e)) (by have := h.bL.lt; omega)⟩
theorem RLn.c {r : Rk} {l : Ln} {w W : World} (h : RLn r l w W) : W.cell? ⟨w.heap.size, 0, none⟩ = some (.int .i64 r.rows) ∧ W.cell? ⟨w.heap.size, 1, none⟩ = some (.int .i64 r.mid) ∧ W.cell? ⟨w.heap.size, 2, none⟩ = some (.int .i64 r.gap) ∧ W.cell? ⟨w.heap.size, 3, none⟩ = some (.int .i64 r.reach) ∧ W.cell? ⟨w.heap.size, 4, none⟩ = some (.slice r.la r.ls.length r.lc) ∧
    W.cell? ⟨w.heap.size + 1, 0, none⟩ = some (.int .i64 l.st) ∧ W.cell? ⟨w.heap.size + 1, 1, none⟩ = some (.int .i64 l.dr) :=
  ⟨h.bK.cell 0 rfl, h.bK.cell 1 rfl, h.bK.cell 2 rfl, h.bK.cell 3 rfl, h.bK.cell 4 rfl, h.bL.cell 0 rfl, h.bL.cell 1 rfl⟩

theorem ln_mul {i : Nat} {d : Int} (h : i ≤ 3) (d1 : -3 ≤ d) (d2 : d ≤ 3) : -9 ≤ (i : Int) * d ∧ (i : Int) * d ≤ 9 := by
  have : i = 0 ∨ i = 1 ∨ i = 2 ∨ i = 3 := by omega
  rcases this with rfl | rfl | rfl | rfl <;> omega

set_option maxRecDepth 100000 in
set_option maxHeartbeats 4000000 in
theorem over_any (r : Rk) (l : Ln) (n : Nat) (w : World) (hn : (n : Int) = r.rows) (hn4 : n ≤ 4) (l1 : 0 ≤ l.st ∧ l.st ≤ 60) (l2 : -3 ≤ l.dr ∧ l.dr ≤ 3) :
    Calls Tryd.prog 85 #[r.val, l.val] w (RetI (ovL l n) w) := by
  have HPOST : Hid (∀ e w', (∃ a c, e = .returned (.slice a (ovL l n).length c) ∧ IntsAt w' a (ovL l n) ∧ (a = none → ovL l n = [] ∧ c = 0) ∧ Below w.heap.size w w') → RetI (ovL l n) w e w') := Lib.hid (fun e w' h => h)
  generalize hPost : RetI (ovL l n) w = Post
  rw [hPost] at HPOST
  clear hPost
  obtain ⟨i3, hi3, hy0, hy1, hy2⟩ := info_parts info3
  have S0 := Lib.hid (RLn.start r l w)
  have HRN := Lib.hid hn
  clear hn
  unfold rCells at S0
  unfold Rk.val Ln.val at *
  go_enter Tryd.func85, Tryd.ntmps85
  go_wp2_with fail
  generalize (w.alloc _).alloc _ = w1 at S0 ⊢
  have O0 := Lib.hid (OwnI.nil w1)
  go_loopg [5, 6] n (fun g s5 s6 wx => ∃ (i : Nat) (v : Value), i ≤ n ∧ g = n - i ∧ s6 = .int .i64 (i : Int) ∧ s5 = v ∧ Hid (OwnI w1 wx v (ovL l i)))
  case atStart => exact ⟨0, _, by omega, by omega, rfl, rfl, O0⟩
  case round =>
    obtain ⟨i, v, hi, rfl, rfl, hv, hO⟩ := hrel
    have hv2 := hv.symm
    clear hv O0
    subst hv2
    have S2 := Lib.hid (S0.out.go hO.out.bl)
    obtain ⟨r0, r1, r2, r3, r4, l0, l1'⟩ := S2.out.c
    by_cases hlt : i < n
    · have hz1 : (i : Int) < r.rows := by have := HRN.out; omega
      have hm := ln_mul (i := i) (d := l.dr) (by omega) l2.1 l2.2
      have ew1 : IntKind.i64.wrap ((i : Int) * l.dr) = (i : Int) * l.dr := IntWalk.i64_in _ (by omega)
      have ew2 : IntKind.i64.wrap (l.st + (i : Int) * l.dr) = l.st + (i : Int) * l.dr := IntWalk.i64_in _ (by omega)
      have HN := Lib.hid (show ovL l (i + 1) = ovL l i ++ [l.st + (i : Int) * l.dr] from ovL_succ l i)
      have HLn := Lib.hid (ovL_len l i)
      have HAL := Lib.hid (show w1.heap.size ≤ wr.heap.size + 1 by have := hO.out.bl.size; omega)
      generalize ovL l i = ys at *
      have HL2 := Lib.hid (show ys.length + 1 ≤ maxLen by have := HLn.out; unfold maxLen; omega)
      have HL3 := Lib.hid (show (ys.length + 1) * 8 ≤ 140737488355328 by have := HLn.out; omega)
      clear hm
      go_wp2_with (at_builtin; go_must (refine wpList_append_lies _ rfl _ _ 25 rfl w1.heap.size 3 i3 (.int .i64 0) 1 8 Tryd.underlying25 hi3 hy0 hy1 hy2 rfl (by decide) _ ys.length (ys.map (Value.int .i64)) rfl (hO.out.ow.alloc _) ⟨wr.heap.size, 0, none⟩ 1 1 [.int .i64 (l.st + (i : Int) * l.dr)] rfl rfl (World.news_of_block (cs := #[.int .i64 (l.st + (i : Int) * l.dr)]) (t := 3) (fr := (0, 0)) (heap_alloc_new wr _)) (by simp [Value.oneCell']) (by decide) HL2.out HL3.out (by simpa using HAL.out) (wr.heap.size + 1) (by simp) ?_); intro gA capA wA hown hgrow hat hlt1; have OP := Lib.hid (hO.out.push hgrow hown); clear hown hgrow hat hlt1 r0 r1 r2 r3 r4 l0 l1')
      go_roundg (n - (i + 1))
      case measure => omega
      case rel => exact ⟨i + 1, _, by omega, rfl, by simp, rfl, by rw [HN.out]; exact OP⟩
    · have hz1 : ¬ (i : Int) < r.rows := by have := HRN.out; omega
      obtain rfl : i = n := by omega
      obtain ⟨aL, cL, rfl, hI, hN⟩ := hO.out.out
      have HI := Lib.hid hI
      have HN := Lib.hid hN
      have HBE := Lib.hid S2.out.bl
      clear hO hI hN hlt
      go_wp2_with fail
      exact HPOST.out _ _ ⟨aL, cL, rfl, HI.out, HN.out, HBE.out⟩

theorem rise_len {r : Rk} {xs : List Int} (hck : chkE r xs = 0) : sizeN (setN xs) ≤ (pinsN r.rows).toNat := by
  obtain ⟨h1, h2, h3⟩ := chk_set hck
  have hp := @pinsN_bd r
  have : elsP (setN xs) (pinsN r.rows).toNat = els (setN xs) := elsP_els (fun i hi => by
    have := h2 (i : Int) ((mem_els _ _).2 ⟨by omega, by have := bit_in h1 hi; omega, by simpa using hi⟩)
    omega) (by omega)
  unfold sizeN
  rw [← this]
  exact elsP_len _ _
theorem fal_left {r : Rk} {xs bs : List Int} {cs : List Bool} {ls' : List Lk} {cb : Lk → Bool} (hck : chkE r xs = 0) (hz : ∀ l, (l, true) ∈ r.ls.zip cs ↔ l ∈ ls' ∧ cb l = true) (hl : LinksOk ls') :
    dif (setN xs) (falN r xs bs cs) = leftN ls' cb (setN xs) (touchN r (toCs bs) (setN xs)) ∧ Sub (falN r xs bs cs) (setN xs) := by
  obtain ⟨h1, h2, h3⟩ := chk_set hck
  have hT : setN (xs.filter (reachB r (toCs bs))) = touchN r (toCs bs) (setN xs) := by unfold touchN; rw [h3]
  have hsub : Sub (touchN r (toCs bs) (setN xs)) (setN xs) := fun i hi => (touch_iff.1 hi).1
  unfold falN
  rw [hT]
  exact ⟨pass_left hz hl h1 hsub (rise_len hck), passN_in hsub _⟩
theorem ov_touch {r : Rk} {l : Ln} {n St : Nat} (hr : 1 ≤ r.rows ∧ r.rows ≤ 4) (hn : (n : Int) = r.rows) (hp : ∀ x ∈ els St, x < pinsN r.rows) : touchN r (toCs (ovL l n)) St = touchN r l.cs St := by
  unfold touchN
  congr 1
  refine List.filter_congr fun x hx => ?_
  have h1 := hp x hx
  have h0 := ((mem_els _ _).1 hx).1
  have hg : ∀ i, i < n → (ovL l n).getD i 0 = ovN l i := fun i hi => by unfold ovL; rw [List.getD_eq_getElem?_getD, List.getElem?_map, List.getElem?_range hi]; rfl
  have hrow : (rowN x = 0 ∧ 1 ≤ n) ∨ (rowN x = 1 ∧ 2 ≤ n) ∨ (rowN x = 2 ∧ 3 ≤ n) ∨ (rowN x = 3 ∧ 4 ≤ n) := by
    have hrr : r.rows = 1 ∨ r.rows = 2 ∨ r.rows = 3 ∨ r.rows = 4 := by omega
    unfold pinsN at h1
    unfold rowN
    rcases hrr with e | e | e | e <;> rw [e] at h1 hn <;> simp at h1 <;> (repeat' split) <;> omega
  have : (toCs (ovL l n)).at (rowN x) = l.cs.at (rowN x) := by
    rcases hrow with ⟨e, h⟩ | ⟨e, h⟩ | ⟨e, h⟩ | ⟨e, h⟩ <;> rw [e]
    · show (ovL l n).getD 0 0 = l.st
      rw [hg 0 (by omega)]; unfold ovN; simp
    · show (ovL l n).getD 1 0 = l.st + l.dr
      rw [hg 1 (by omega)]; unfold ovN; simp
    · show (ovL l n).getD 2 0 = l.st + 2 * l.dr
      rw [hg 2 (by omega)]; unfold ovN; simp
    · show (ovL l n).getD 3 0 = l.st + 3 * l.dr
      rw [hg 3 (by omega)]; unfold ovN; simp
  exact congrArg (fun z => decide (dist (boardN r x) z ≤ r.reach)) this
theorem zip_map_mem {ls : List Lk} {cb : Lk → Bool} {l : Lk} : (l, true) ∈ ls.zip (ls.map cb) ↔ l ∈ ls ∧ cb l = true := by
  induction ls with
  | nil => simp
  | cons x xs ih =>
    rw [List.map_cons, List.zip_cons_cons, List.mem_cons, ih, List.mem_cons]
    constructor
    · rintro (h | ⟨h1, h2⟩)
      · rw [Prod.mk.injEq] at h; exact ⟨.inl h.1, by rw [h.1]; exact h.2.symm⟩
      · exact ⟨.inr h1, h2⟩
    · rintro ⟨rfl | h1, h2⟩
      · left; rw [h2]
      · exact .inr ⟨h1, h2⟩

/-- A straight ball converts just if as many fall as stand. -/
theorem conv_len {r : Rk} {xs : List Int} {l : Ln} {n : Nat} {may : Bool} (hck : chkE r xs = 0) (hn : (n : Int) = r.rows) :
    (((els (falN r xs (ovL l n) (r.ls.map (cbOf may)))).length : Int) == (xs.length : Int)) = convB r (setN xs) l (cbOf may) := by
  obtain ⟨h1, h2, h3⟩ := chk_set hck
  have hok := (faultN_ok (chk_ok hck).1).1
  obtain ⟨e1, e2⟩ := fal_left (bs := ovL l n) (cs := r.ls.map (cbOf may)) hck (fun l => zip_map_mem) (linksOk_of (chk_ok hck).1)
  rw [ov_touch ⟨hok.r1, hok.r2⟩ hn h2] at e1
  have hc : convB r (setN xs) l (cbOf may) = (dif (setN xs) (falN r xs (ovL l n) (r.ls.map (cbOf may))) == 0) := by unfold convB hitN; rw [e1]
  rw [hc]
  generalize falN r xs (ovL l n) (r.ls.map (cbOf may)) = D at *
  have hx : xs.length = sizeN (setN xs) := by unfold sizeN; rw [h3]
  have hd : (els D).length = sizeN D := rfl
  rw [hx, hd, Bool.eq_iff_iff]
  simp only [beq_iff_eq]
  constructor
  · intro h
    have : D = setN xs := Classical.byContradiction fun hne => by have := sub_size e2 h1 hne; omega
    rw [this]; apply Nat.eq_of_testBit_eq; intro i; rw [dif_bit]; simp
  · intro h
    have : D = setN xs := Sub.antisymm e2 fun i hi => by
      cases hb : D.testBit i
      · have := dif_bit (setN xs) D i
        rw [h, hi, hb] at this; simp at this
      · rfl
    rw [this]

set_option maxRecDepth 100000 in
set_option maxHeartbeats 8000000 in
theorem rconv_any (r : Rk) (xs : List Int) (a : Option Addr) (c : Nat) (l : Ln) (may : Bool) (w : World) (hL : LinksAt w r.la r.ls) (hck : chkE r xs = 0) (hX : IntsAt w a xs) (hl : l.okB = true) :
    Calls Tryd.prog 43 #[r.val, .slice a xs.length c, l.val, .bool may] w fun e w' => e = .returned (.bool (convB r (setN xs) l (cbOf may))) ∧ Below w.heap.size w w' := by
  have hf := faultN_ok (chk_ok hck).1
  have ok := hf.1
  have hl12 := hf.2.1
  obtain ⟨n, hn⟩ : ∃ n : Nat, (n : Int) = r.rows := ⟨r.rows.toNat, by have := ok.r1; omega⟩
  have hn4 : n ≤ 4 := by have := ok.r2; omega
  have hlb : (0 ≤ l.st ∧ l.st ≤ 60) ∧ (-3 ≤ l.dr ∧ l.dr ≤ 3) := by
    unfold Ln.okB at hl
    have := Bool.and_eq_true_iff.1 hl
    exact ⟨inB_iff.1 this.1, inB_iff.1 this.2⟩
  have HCL := Lib.hid (conv_len (l := l) (may := may) hck hn)
  have HL := Lib.hid hL
  have OV := Lib.hid (fun W => over_any r l n W hn hn4 hlb.1 hlb.2)
  have hov : ∀ b ∈ ovL l n, -1000 ≤ b ∧ b ≤ 1000 := fun b hb => by
    unfold ovL at hb
    obtain ⟨i, hi, rfl⟩ := List.mem_map.1 hb
    have := ln_mul (i := i) (d := l.dr) (by have := List.mem_range.1 hi; omega) hlb.2.1 hlb.2.2
    unfold ovN; omega
  have FN := Lib.hid (fun W a2 c2 a3 c3 (hb : Below w.heap.size w W) (g1 : IntsAt W a2 (ovL l n)) (g2 : BoolsAt W a3 (r.ls.map (cbOf may))) =>
    show Calls Tryd.prog 33 #[r.val, .slice a xs.length c, .slice a2 (ovL l n).length c2, .slice a3 r.ls.length c3] W (RetI (els (falN r xs (ovL l n) (r.ls.map (cbOf may)))) W) from by
      have h := fallen_any r xs a c (ovL l n) a2 c2 (r.ls.map (cbOf may)) a3 c3 W (hL.lo hb) hck (hX.lo hb) g1 (by rw [ovL_len]; exact hn) hov g2 (by simp)
      rwa [List.length_map] at h)
  obtain ⟨i4, hi4, hx0, hx1, hx2⟩ := info_parts info4
  have S0 := Lib.hid (RLn.start r l w)
  have HCB := Lib.hid (show ∀ q : Lk, cbOf may q = (may || q.sr) from fun q => rfl)
  have HM0 := Lib.hid (show ((r.ls.take 0).map (cbOf may)) = [] from rfl)
  have HMS := Lib.hid (show ∀ i q, r.ls[i]? = some q → (r.ls.take (i + 1)).map (cbOf may) = (r.ls.take i).map (cbOf may) ++ [may || q.sr] from fun i q h => by rw [take_next h, List.map_append]; rfl)
  have HML := Lib.hid (show ∀ i, i ≤ r.ls.length → ((r.ls.take i).map (cbOf may)).length = i from fun i h => by rw [List.length_map, List.length_take]; omega)
  have HME := Lib.hid (show ∀ i, i = r.ls.length → (r.ls.take i).map (cbOf may) = r.ls.map (cbOf may) from fun i h => by rw [h, List.take_length])
  have HFL := Lib.hid (show (els (falN r xs (ovL l n) (r.ls.map (cbOf may)))).length ≤ 16 from els_len)
  generalize convB r (setN xs) l (cbOf may) = R at *
  generalize els (falN r xs (ovL l n) (r.ls.map (cbOf may))) = FL at *
  generalize ovL l n = OL at *
  clear hL hck hX hl hf ok hn hn4 hlb hov HCB
  generalize hCBM : cbOf may = CBM at *
  clear hCBM
  unfold rCells at S0
  unfold Rk.val Ln.val at *
  go_enter Tryd.func43, Tryd.ntmps43
  go_wp2_with fail
  generalize (w.alloc _).alloc _ = w1 at S0 ⊢
  have O0 := Lib.hid (show OwnB w1 w1 (.slice none 0 0) ((r.ls.take 0).map CBM) by rw [HM0.out]; exact OwnB.nil w1)
  go_loopg [9, 10] r.ls.length (fun g s9 s10 wx => ∃ (i : Nat) (v : Value), i ≤ r.ls.length ∧ g = r.ls.length - i ∧ s10 = .int .i64 (i : Int) ∧ s9 = v ∧ Hid (OwnB w1 wx v ((r.ls.take i).map CBM)))
  case atStart => exact ⟨0, _, by omega, by omega, rfl, rfl, O0⟩
  case round =>
    obtain ⟨i, v, hi, rfl, rfl, hv, hO⟩ := hrel
    have hv2 := hv.symm
    clear hv O0
    subst hv2
    have S2 := Lib.hid (S0.out.go hO.out.bl)
    obtain ⟨r0, r1, r2, r3, r4, l0, l1'⟩ := S2.out.c
    by_cases hlt : i < r.ls.length
    · have hz0 : (0 : Int) ≤ (i : Int) := by omega
      have hz1 : (i : Int) < (r.ls.length : Int) := by omega
      obtain ⟨q, hq⟩ : ∃ q, r.ls[i]? = some q := ⟨r.ls[i]'hlt, List.getElem?_eq_getElem _⟩
      obtain ⟨g, o, hla, k1, k2, k3⟩ := HL.out i _ hq
      have q3 := cell_lo S2.out.bl k3
      rw [hla] at r4
      have HN := Lib.hid (HMS.out i q hq)
      have HLn := Lib.hid (HML.out i (by omega))
      have HAL := Lib.hid (show w1.heap.size ≤ wr.heap.size + 1 by have := hO.out.bl.size; omega)
      generalize (r.ls.take i).map CBM = ys at *
      generalize hY2 : (r.ls.take (i + 1)).map CBM = Y2 at *
      have HL2 := Lib.hid (show ys.length + 1 ≤ maxLen by have := HLn.out; unfold maxLen; omega)
      have HL3 := Lib.hid (show (ys.length + 1) * 1 ≤ 140737488355328 by have := HLn.out; omega)
      obtain ⟨fr, to, sr⟩ := q
      simp only at *
      clear hq k1 k2 k3 hla
      cases may
      · have HN2 := Lib.hid (show Y2 = ys ++ [sr] by rw [HN.out]; simp)
        go_wp2_with (at_builtin; go_must (refine wpList_append_lies _ rfl _ _ 48 rfl w1.heap.size 4 i4 (.bool false) 1 1 Tryd.underlying48 hi4 hx0 hx1 hx2 rfl (by decide) _ ys.length (ys.map Value.bool) rfl (hO.out.ow.alloc _) ⟨wr.heap.size, 0, none⟩ 1 1 [.bool sr] rfl rfl (World.news_of_block (cs := #[.bool sr]) (t := 4) (fr := (0, 0)) (heap_alloc_new wr _)) (by simp [Value.oneCell']) (by decide) HL2.out HL3.out (by simpa using HAL.out) (wr.heap.size + 1) (by simp) ?_); intro gA capA wA hown hgrow hat hlt1; have OP := Lib.hid (hO.out.push hgrow hown); clear hown hgrow hat hlt1 r0 r1 r2 r3 r4 q3 l0 l1')
        go_roundg (r.ls.length - (i + 1))
        case measure => omega
        case rel => exact ⟨i + 1, _, by omega, rfl, by simp, rfl, by rw [hY2, HN2.out]; exact OP⟩
      · have HN2 := Lib.hid (show Y2 = ys ++ [true] by rw [HN.out]; simp)
        go_wp2_with (at_builtin; go_must (refine wpList_append_lies _ rfl _ _ 48 rfl w1.heap.size 4 i4 (.bool false) 1 1 Tryd.underlying48 hi4 hx0 hx1 hx2 rfl (by decide) _ ys.length (ys.map Value.bool) rfl (hO.out.ow.alloc _) ⟨wr.heap.size, 0, none⟩ 1 1 [.bool true] rfl rfl (World.news_of_block (cs := #[.bool true]) (t := 4) (fr := (0, 0)) (heap_alloc_new wr _)) (by simp [Value.oneCell']) (by decide) HL2.out HL3.out (by simpa using HAL.out) (wr.heap.size + 1) (by simp) ?_); intro gA capA wA hown hgrow hat hlt1; have OP := Lib.hid (hO.out.push hgrow hown); clear hown hgrow hat hlt1 r0 r1 r2 r3 r4 q3 l0 l1')
        go_roundg (r.ls.length - (i + 1))
        case measure => omega
        case rel => exact ⟨i + 1, _, by omega, rfl, by simp, rfl, by rw [hY2, HN2.out]; exact OP⟩
    · have hz1 : ¬ (i : Int) < (r.ls.length : Int) := by omega
      obtain rfl : i = r.ls.length := by omega
      have hO2 := hO.out
      obtain ⟨aC, cC, hveq, hIC, hNC⟩ := own_boolsAt hO2.ow
      rw [HML.out _ (Nat.le_refl _)] at hveq
      rw [HME.out _ rfl] at hIC
      subst hveq
      have IC := Lib.hid hIC
      clear hO hO2 hIC hNC hlt HMS HML HME
      have SD := Lib.hid (S2.out.go (Below.drew (Below.refl _ _)))
      have IC1 := Lib.hid (IC.out)
      go_wp2_with fail
      clear r0 r1 r2 r3 r4 l0 l1'
      refine wp_region_held_drew (S := (fun W => W.cell? ⟨w.heap.size, 0, none⟩ = some (.int .i64 r.rows) ∧ W.cell? ⟨w.heap.size, 1, none⟩ = some (.int .i64 r.mid) ∧ W.cell? ⟨w.heap.size, 2, none⟩ = some (.int .i64 r.gap) ∧ W.cell? ⟨w.heap.size, 3, none⟩ = some (.int .i64 r.reach) ∧ W.cell? ⟨w.heap.size, 4, none⟩ = some (.slice r.la r.ls.length r.lc) ∧ W.cell? ⟨w.heap.size + 1, 0, none⟩ = some (.int .i64 l.st) ∧ W.cell? ⟨w.heap.size + 1, 1, none⟩ = some (.int .i64 l.dr))) (by kernel_rfl) ?_ (fun hHeld => ?_)
      · (try dsimp only); (with_reducible first | exact SB.out.c | exact SA.out.c | exact SD.out.c)
      refine wpAnyH_take (i := 0) (oi := { dst := some 30, op := Op.load 24 (Operand.tmp 4), type := 24, pos := "ref.go:252", after := #[], guard := none }) (v := ?v_rc6_0) rfl (by kernel_rfl) (by kernel_rfl) (by kernel_rfl) (fun _ _ _ h => h) (Or.inl ⟨by rfl, ?y_rc6_0⟩) (by assumption) ?_
      case y_rc6_0 => intro w hSw; (try dsimp only at hSw); go_simp; with_reducible rfl
      try simp only [Act.put, List.setIfInBounds_toArray, List.set_cons_zero, List.set_cons_succ]
      refine wpAnyH_take (i := 1) (oi := { dst := some 31, op := Op.move (Operand.tmp 1), type := 25, pos := "ref.go:252", after := #[], guard := none }) (v := ?v_rc6_1) rfl (by kernel_rfl) (by kernel_rfl) (by kernel_rfl) (fun _ _ _ h => h) (Or.inl ⟨by rfl, ?y_rc6_1⟩) (by assumption) ?_
      case y_rc6_1 => intro w hSw; (try dsimp only at hSw); go_simp; with_reducible rfl
      try simp only [Act.put, List.setIfInBounds_toArray, List.set_cons_zero, List.set_cons_succ]
      refine wpAnyH_take (i := 2) (oi := { dst := some 32, op := Op.load 24 (Operand.tmp 4), type := 24, pos := "ref.go:252", after := #[], guard := none }) (v := ?v_rc6_2) rfl (by kernel_rfl) (by kernel_rfl) (by kernel_rfl) (fun _ _ _ h => h) (Or.inl ⟨by rfl, ?y_rc6_2⟩) (by assumption) ?_
      case y_rc6_2 => intro w hSw; (try dsimp only at hSw); go_simp; with_reducible rfl
      try simp only [Act.put, List.setIfInBounds_toArray, List.set_cons_zero, List.set_cons_succ]
      refine wpAnyH_take (i := 3) (oi := { dst := some 33, op := Op.load 72 (Operand.tmp 6), type := 72, pos := "ref.go:252", after := #[], guard := none }) (v := ?v_rc6_3) rfl (by kernel_rfl) (by kernel_rfl) (by kernel_rfl) (fun _ _ _ h => h) (Or.inl ⟨by rfl, ?y_rc6_3⟩) (by assumption) ?_
      case y_rc6_3 => intro w hSw; (try dsimp only at hSw); go_simp; with_reducible rfl
      try simp only [Act.put, List.setIfInBounds_toArray, List.set_cons_zero, List.set_cons_succ]
      refine wpAnyH_take (i := 5) (oi := { dst := some 35, op := Op.move (Operand.tmp 9), type := 48, pos := "ref.go:252", after := #[], guard := none }) (v := ?v_rc6_4) rfl (by kernel_rfl) (by kernel_rfl) (by kernel_rfl) (fun _ _ _ h => h) (Or.inl ⟨by rfl, ?y_rc6_4⟩) (by assumption) ?_
      case y_rc6_4 => intro w hSw; (try dsimp only at hSw); go_simp; with_reducible rfl
      try simp only [Act.put, List.setIfInBounds_toArray, List.set_cons_zero, List.set_cons_succ]
      refine wpAnyH_take (i := 8) (oi := { dst := some 38, op := Op.move (Operand.tmp 1), type := 25, pos := "ref.go:252", after := #[], guard := none }) (v := ?v_rc6_5) rfl (by kernel_rfl) (by kernel_rfl) (by kernel_rfl) (fun _ _ _ h => h) (Or.inl ⟨by rfl, ?y_rc6_5⟩) (by assumption) ?_
      case y_rc6_5 => intro w hSw; (try dsimp only at hSw); go_simp; with_reducible rfl
      try simp only [Act.put, List.setIfInBounds_toArray, List.set_cons_zero, List.set_cons_succ]
      refine wpAnyH_take (i := 9) (oi := { dst := some 39, op := Op.call { callee := Callee.builtin Builtin.len, args := #[Operand.tmp 38], argTypes := #[25] }, type := 3, pos := "ref.go:252", after := #[{ on := 8, ground := Ground.data }], guard := none }) (v := ?v_rc6_6) rfl (by kernel_rfl) (by kernel_rfl) (by kernel_rfl) (fun _ _ _ h => h) (Or.inl ⟨by rfl, ?y_rc6_6⟩) (by assumption) ?_
      case y_rc6_6 => intro w hSw; (try dsimp only at hSw); go_simp; with_reducible rfl
      try simp only [Act.put, List.setIfInBounds_toArray, List.set_cons_zero, List.set_cons_succ]
      refine wpAnyH_ready (rs := [4]) (by kernel_rfl) (by simp) ?_
      refine AllReadyH.cons (o := { dst := some 34, op := Op.call { callee := Callee.value (Operand.func 85), args := #[Operand.tmp 32, Operand.tmp 33], argTypes := #[24, 72] }, type := 25, pos := "ref.go:252", after := #[{ on := 2, ground := Ground.data }, { on := 3, ground := Ground.data }], guard := none }) rfl (fun K hK => ?_) ?_
      go_simp
      (first | (go_at_call 85; (with_reducible refine (OV.out _).mono ?_); rintro e wA ⟨aO, cO, rfl, hi, hn, hb⟩; have SA := Lib.hid (SD.out.go hb); have IO := Lib.hid hi; have ICA := Lib.hid ((show BoolsAt wr.drew _ _ from IC1.out).lo hb); clear hb hi hn) | (go_at_call 33; (with_reducible refine (FN.out _ _ _ _ _ SA.out.bl IO.out ICA.out).mono ?_); rintro e wB ⟨aF, cF, rfl, hi, hn, hb⟩; have SB := Lib.hid (SA.out.go hb); clear hb hi hn))
      go_wp2_with fail
      refine hK.out _ _ ?_ (fun hHeld => ?_)
      · (try dsimp only); (with_reducible first | exact SB.out.c | exact SA.out.c | exact SD.out.c)
      clear hK K
      try simp only [Act.put, List.setIfInBounds_toArray, List.set_cons_zero, List.set_cons_succ]
      refine wpAnyH_ready (rs := [6]) (by kernel_rfl) (by simp) ?_
      refine AllReadyH.cons (o := { dst := some 36, op := Op.call { callee := Callee.value (Operand.func 33), args := #[Operand.tmp 30, Operand.tmp 31, Operand.tmp 34, Operand.tmp 35], argTypes := #[24, 25, 25, 48] }, type := 25, pos := "ref.go:252", after := #[{ on := 0, ground := Ground.data }, { on := 1, ground := Ground.data }, { on := 4, ground := Ground.data }, { on := 5, ground := Ground.data }, { on := 4, ground := Ground.chain }], guard := none }) rfl (fun K hK => ?_) ?_
      go_simp
      (first | (go_at_call 85; (with_reducible refine (OV.out _).mono ?_); rintro e wA ⟨aO, cO, rfl, hi, hn, hb⟩; have SA := Lib.hid (SD.out.go hb); have IO := Lib.hid hi; have ICA := Lib.hid ((show BoolsAt wr.drew _ _ from IC1.out).lo hb); clear hb hi hn) | (go_at_call 33; (with_reducible refine (FN.out _ _ _ _ _ SA.out.bl IO.out ICA.out).mono ?_); rintro e wB ⟨aF, cF, rfl, hi, hn, hb⟩; have SB := Lib.hid (SA.out.go hb); clear hb hi hn))
      go_wp2_with fail
      refine hK.out _ _ ?_ (fun hHeld => ?_)
      · (try dsimp only); (with_reducible first | exact SB.out.c | exact SA.out.c | exact SD.out.c)
      clear hK K
      try simp only [Act.put, List.setIfInBounds_toArray, List.set_cons_zero, List.set_cons_succ]
      refine wpAnyH_take (i := 7) (oi := { dst := some 37, op := Op.call { callee := Callee.builtin Builtin.len, args := #[Operand.tmp 36], argTypes := #[25] }, type := 3, pos := "ref.go:252", after := #[{ on := 6, ground := Ground.data }], guard := none }) (v := ?v_rc6_7) rfl (by kernel_rfl) (by kernel_rfl) (by kernel_rfl) (fun _ _ _ h => h) (Or.inl ⟨by rfl, ?y_rc6_7⟩) (by assumption) ?_
      case y_rc6_7 => intro w hSw; (try dsimp only at hSw); go_simp; with_reducible rfl
      try simp only [Act.put, List.setIfInBounds_toArray, List.set_cons_zero, List.set_cons_succ]
      refine wpAnyH_take (i := 10) (oi := { dst := some 40, op := Op.binOp BinOp.eql 3 (Operand.tmp 37) (Operand.tmp 39) 3, type := 4, pos := "ref.go:252", after := #[{ on := 7, ground := Ground.data }, { on := 9, ground := Ground.data }], guard := none }) (v := ?v_rc6_8) rfl (by kernel_rfl) (by kernel_rfl) (by kernel_rfl) (fun _ _ _ h => h) (Or.inl ⟨by rfl, ?y_rc6_8⟩) (by assumption) ?_
      case y_rc6_8 => intro w hSw; (try dsimp only at hSw); go_simp; with_reducible rfl
      try simp only [Act.put, List.setIfInBounds_toArray, List.set_cons_zero, List.set_cons_succ]
      refine wpAnyH_take (i := 11) (oi := { dst := some 8, op := Op.assign (Operand.tmp 40), type := 4, pos := "ref.go:252", after := #[{ on := 10, ground := Ground.data }, { on := 6, ground := Ground.chain }, { on := 0, ground := Ground.phase }, { on := 1, ground := Ground.phase }, { on := 2, ground := Ground.phase }, { on := 3, ground := Ground.phase }, { on := 4, ground := Ground.phase }, { on := 5, ground := Ground.phase }, { on := 6, ground := Ground.phase }, { on := 7, ground := Ground.phase }, { on := 8, ground := Ground.phase }, { on := 9, ground := Ground.phase }, { on := 10, ground := Ground.phase }], guard := none }) (v := ?v_rc6_9) rfl (by kernel_rfl) (by kernel_rfl) (by kernel_rfl) (fun _ _ _ h => h) (Or.inl ⟨by rfl, ?y_rc6_9⟩) (by assumption) ?_
      case y_rc6_9 => intro w hSw; (try dsimp only at hSw); go_simp; with_reducible rfl
      try simp only [Act.put, List.setIfInBounds_toArray, List.set_cons_zero, List.set_cons_succ]
      refine wpAnyH_done (by kernel_rfl) ?_ _
      rotate_left 1
      exact AllReadyH.nil
      exact AllReadyH.nil
      go_wp2_with fail
      go_returns
      exact ⟨by rw [← HCL.out]; first | done | rfl, SB.out.bl⟩

end Go.Proofs.YtaloffdkadhhnaaDoor
