/- The contract of the reference's Leaves: what is left in each truth. -/
import Derived.Test.YtaloffdkadhhnaaDoorCa
import Derived.Test.YtaloffdkadhhnaaDoorGn
set_option linter.unusedVariables false
set_option linter.unusedSimpArgs false
namespace Go.Proofs.YtaloffdkadhhnaaDoor
open Go.RowKit

attribute [local go_sem] Oper.semAt_some

/-- A list that a function returns, in a block of its own. -/
def RetF (zs : List Int) (w : World) (e : Ending) (w' : World) : Prop := ∃ a c, e = .returned (.slice a zs.length c) ∧ RowV w.heap.size w' a (zs.map (Value.int .i64)) ∧ (a = none → zs = [] ∧ c = 0) ∧ Below w.heap.size w w'
theorem OwnI.outF {w W : World} {v : Value} {zs : List Int} (h : OwnI w W v zs) : ∃ a c, v = .slice a zs.length c ∧ RowV w.heap.size W a (zs.map (Value.int .i64)) ∧ (a = none → zs = [] ∧ c = 0) := by
  obtain ⟨a, c, rfl, _, h2⟩ := h.out
  exact ⟨a, c, rfl, RowV.own h.ow (Nat.le_refl _), h2⟩

set_option maxRecDepth 100000 in
set_option maxHeartbeats 2000000 in
theorem left3_any (xs ys : List Int) (a b : Option Addr) (c d : Nat) (w : World) (hX : IntsAt w a xs) (hY : IntsAt w b ys) (hn : xs.length ≤ 1000) (hm : ys.length ≤ 1000) :
    Calls Tryd.prog 32 #[.slice a xs.length c, .slice b ys.length d] w (RetF (leftL xs ys) w) := by
  have HX := Lib.hid hX
  have HH := Lib.hid (fun x W (hb : Below w.heap.size w W) => has_any ys x b d W (hY.lo hb) hm)
  obtain ⟨i3, hi3, hy0, hy1, hy2⟩ := info_parts info3
  have O0 := Lib.hid (OwnI.nil w)
  clear hX hY
  go_enter Tryd.func32, Tryd.ntmps32
  go_wp2_with fail
  go_loopg [5, 6] xs.length (fun g s5 s6 wx => ∃ (i : Nat), i ≤ xs.length ∧ g = xs.length - i ∧ s6 = .int .i64 (i : Int) ∧ Hid (OwnI w wx s5 (leftL (xs.take i) ys)))
  case atStart => exact ⟨0, by omega, by omega, rfl, O0⟩
  case round =>
    obtain ⟨i, hi, rfl, rfl, hO⟩ := hrel
    clear O0
    by_cases hlt : i < xs.length
    · obtain ⟨y, hy⟩ : ∃ y, xs[i]? = some y := ⟨xs[i]'hlt, List.getElem?_eq_getElem _⟩
      obtain ⟨g, o, rfl, k1⟩ := HX.out _ _ hy
      have hz0 : (0 : Int) ≤ (i : Int) := by omega
      have hz1 : (i : Int) < (xs.length : Int) := by omega
      have k2 : wr.cell? ⟨g, o + i, none⟩ = some (.int .i64 y) := cell_lo hO.out.bl k1
      have HT := Lib.hid (show leftL (xs.take (i + 1)) ys = leftL (xs.take i) ys ++ if hasI ys y then [] else [y] by rw [take_next hy, leftL_snoc])
      have HHy := Lib.hid (HH.out y wr hO.out.bl)
      have HLn := Lib.hid (show (leftL (xs.take i) ys).length ≤ i from Nat.le_trans (leftL_len _ _) (by rw [List.length_take]; omega))
      have HSZ := Lib.hid hO.out.bl.size
      generalize hzs : leftL (xs.take i) ys = zs at *
      clear hzs hy k1
      cases he : hasI ys y
      · have HN := Lib.hid (show leftL (xs.take (i + 1)) ys = zs ++ [y] by rw [HT.out, he]; rfl)
        rw [he] at HHy
        clear he HT
        go_wp2_with fail
        refine HHy.out.mono ?_
        rintro e w1 ⟨rfl, rfl⟩
        go_wp2_with (at_builtin; go_must (refine wpList_append_lies _ rfl _ _ 25 rfl w.heap.size 3 i3 (.int .i64 0) 1 8 Tryd.underlying25 hi3 hy0 hy1 hy2 rfl (by decide) _ zs.length (zs.map (Value.int .i64)) rfl (hO.out.ow.alloc _) ⟨wr.heap.size, 0, none⟩ 1 1 [.int .i64 y] rfl rfl (World.news_of_block (cs := #[.int .i64 y]) (t := 3) (fr := (0, 0)) (heap_alloc_new wr _)) (by simp [Value.oneCell']) (by omega) (by have := HLn.out; unfold maxLen; omega) (by have := HLn.out; omega) (by have := HSZ.out; simp; omega) (wr.heap.size + 1) (by simp) ?_); intro gA capA w1 hown hgrow hat hlt1; have OP := Lib.hid (hO.out.push hgrow hown); clear hown hgrow hat hlt1)
        go_roundg (xs.length - (i + 1))
        case measure => omega
        case rel => exact ⟨i + 1, by omega, rfl, by simp, by rw [HN.out]; exact OP⟩
      · have HN := Lib.hid (show leftL (xs.take (i + 1)) ys = zs by rw [HT.out, he]; simp)
        rw [he] at HHy
        clear he HT
        go_wp2_with fail
        refine HHy.out.mono ?_
        rintro e w1 ⟨rfl, rfl⟩
        go_wp2_with fail
        go_roundg (xs.length - (i + 1))
        case measure => omega
        case rel => exact ⟨i + 1, by omega, rfl, by simp, by rw [HN.out]; exact hO⟩
    · have hz1 : ¬ (i : Int) < (xs.length : Int) := by omega
      have hO2 := hO.out
      rw [List.take_of_length_le (by omega)] at hO2
      obtain ⟨aL, cL, rfl, hI, hN⟩ := hO2.outF
      have HI := Lib.hid hI
      have HN := Lib.hid hN
      have HB := Lib.hid hO2.bl
      clear hO hO2 hI hN hlt
      go_wp2_with fail
      go_returns
      exact ⟨aL, cL, rfl, HI.out, HN.out, HB.out⟩


theorem LLAt.mono {base base' : Nat} {W : World} {a : Option Addr} {L : List (List Value)} (h : LLAt base W a L) (hb : base' ≤ base) : LLAt base' W a L := fun i l hl => by
  obtain ⟨g, o, a', c', e, h1, h2⟩ := h i l hl
  exact ⟨g, o, a', c', e, h1, h2.mono hb⟩
theorem RowsOk.one' {base : Nat} {W : World} {ob : Option Nat} {a : Option Addr} {c : Nat} {l : List Value} (h : RowV base W a l) (ho : ∀ k, ob = some k → k < base) : RowsOk base W ob [l] [Value.slice a l.length c] := fun i l' hl => by
  cases i with
  | zero =>
    cases hl
    exact ⟨a, c, rfl, fun j u hu => by
      obtain ⟨g, o, e, h1, h2⟩ := h j u hu
      exact ⟨g, o, e, h1, h2, fun he => by have := ho g he; omega⟩⟩
  | succ i => simp at hl

/-- A row behind rows. -/
theorem app_row1 (t e : TypeId) (i : TypeInfo) (ht : Tryd.prog.underlying t = some (.slice e)) (hi : Tryd.prog.info? e = some i) (hz : i.zero = some (.slice none 0 0)) (hs : i.size = 1) (hby : i.bytes = 24)
    {bo br : Nat} {w Wr W : World} {v : Value} {L : List (List Value)} {l : List Value} {a : Option Addr} {c n : Nat} (hnl : l.length = n) (hO : OwnLL e bo br Wr v L) (hb : Below Wr.heap.size Wr W) (hR : RowV Wr.heap.size W a l) (hbr : br ≤ Wr.heap.size) (hbo : bo ≤ W.heap.size)
    (hlen : L.length + 1 ≤ 100000000) (hB : Below w.heap.size w W) (hw : w.heap.size ≤ bo) :
    ∃ v4 w4, (Builtin.append_ #[t, t] t #[v, .slice (some ⟨W.heap.size, 0, none⟩) 1 1]).run Tryd.prog (W.alloc (.cells #[.slice a n c] e)) = .ok v4 w4 ∧ OwnLL e bo br w4 v4 (L ++ [l]) ∧ Below w.heap.size w w4 := by
  subst hnl
  obtain ⟨hs0, ho, hr⟩ := hO.lo hb
  obtain ⟨hsW, hoW, _⟩ := hO
  have bA := below_al W (.cells #[.slice a l.length c] e)
  obtain ⟨v4, w4, hr4, ho4, hg4, _, hat⟩ := run_append_own_at (P := Tryd.prog) (w := W.alloc (.cells #[.slice a l.length c] e)) bo t t e i (.slice none 0 0) 1 24 ht hi hz hs hby rfl (by decide) v L.length hs0 (ho.alloc _) ⟨W.heap.size, 0, none⟩ 1 1 [.slice a l.length c] rfl (World.news_of_block (cs := #[.slice a l.length c]) (Blk.new W _ _)) (by simp [Value.oneCell']) (by unfold maxLen; omega) (Nat.le_trans (Nat.mul_le_mul hlen (Nat.le_refl 24)) (by decide)) (Nat.le_trans hbo bA.size)
  have hR1 := (RowsOk.one' (ob := v.ownBlock) (c := c) hR (fun k e => (hoW.lt k e).2)).lo bA
  exact ⟨v4, w4, hr4, OwnLL.push (ho.alloc _) (hr.lo bA) (hR1.mono hbr) hg4 ho4 hat, below_grow (below_al2 hB _) hg4 (fun k e => Nat.le_trans hw (ho.lt k e).1)⟩

theorem choice_bd {ball : List Rg} {bs : List Int} (hw : ∀ b ∈ ball, wrongG b = false) (h : bs ∈ choices ball) : ∀ b ∈ bs, -1000 ≤ b ∧ b ≤ 1000 := fun b hb => by
  obtain ⟨i, hi, rfl⟩ := List.getElem_of_mem hb
  have h1 := toCs_ok ball bs hw h i
  rw [List.getD_eq_getElem?_getD, List.getElem?_eq_getElem hi] at h1
  simp only [Option.getD_some] at h1
  omega

/-- What is left, as rows. -/
def lvF (r : Rk) (xs bs : List Int) (cs : List Bool) : List Value := (leftL xs (els (falN r xs bs cs))).map (Value.int .i64)
def lvR (r : Rk) (xs : List Int) (bss : List (List Int)) (css : List (List Bool)) : List (List Value) := bss.flatMap fun bs => css.map (lvF r xs bs)
theorem lvR_len (r : Rk) (xs : List Int) (bss : List (List Int)) (css : List (List Bool)) : (lvR r xs bss css).length = bss.length * css.length := by
  induction bss with
  | nil => simp [lvR]
  | cons b bss ih =>
    show (css.map (lvF r xs b) ++ lvR r xs bss css).length = _
    rw [List.length_append, List.length_map, ih, List.length_cons, Nat.succ_mul]; omega
theorem lvR_snoc (r : Rk) (xs bs : List Int) (bss : List (List Int)) (css : List (List Bool)) : lvR r xs (bss ++ [bs]) css = lvR r xs bss css ++ css.map (lvF r xs bs) := by
  unfold lvR; rw [List.flatMap_append]; simp
theorem lvR_all (r : Rk) (xs : List Int) (ball : List Rg) : lvR r xs (choices ball) (carsA r.ls) = (lvA r xs ball).map fun l => l.map (Value.int .i64) := by
  unfold lvR lvA lvF
  rw [List.map_flatMap]
  congr 1
  funext bs
  rw [List.map_map]
  rfl

set_option maxRecDepth 100000 in
set_option maxHeartbeats 8000000 in
theorem leaves2_any (r : Rk) (xs : List Int) (a : Option Addr) (c : Nat) (ball : List Rg) (a2 : Option Addr) (c2 : Nat) (w : World) (hL : LinksAt w r.la r.ls) (hbal : balE r xs ball = 0) (hX : IntsAt w a xs) (hG : RgsAt w a2 ball) :
    Calls Tryd.prog 38 #[r.val, .slice a xs.length c, .slice a2 ball.length c2] w (RetLL 25 w.heap.size (lvR r xs (choices ball) (carsA r.ls)) w) := by
  obtain ⟨hck, hb4, hbw⟩ := bal_ok hbal
  have hf := faultN_ok (chk_ok hck).1
  have hbl := ball_len hbal
  have hset := chk_set hck
  have hxl : xs.length ≤ 16 := by rw [← hset.2.2]; exact els_len
  have BRD := Lib.hid (fun W (hb : Below w.heap.size w W) => boards_any ball a2 c2 hbw hb4 ball.length [] 0 none 0 W.heap.size W rfl (by omega) (hG.lower hb) (RowV.nil _ _ _) (fun g o e => by cases e) (fun _ => ⟨rfl, rfl⟩) (Nat.le_refl _))
  have CAR := Lib.hid (fun W (hb : Below w.heap.size w W) => carries_any r hf.2.1 r.ls.length [] 0 none 0 W.heap.size W rfl (by omega) (hL.lo hb) (RowV.nil _ _ _) (fun g o e => by cases e) (fun _ => ⟨rfl, rfl⟩) (Nat.le_refl _))
  have HBR : Hid (∀ i l, (brdL ball [] 0)[i]? = some l → ∃ bs : List Int, (choices ball)[i]? = some bs ∧ l = bs.map (Value.int .i64)) := Lib.hid (fun i l h => by
    unfold brdL at h
    rw [List.drop_zero, List.getElem?_map, Option.map_eq_some_iff] at h
    obtain ⟨bs, h1, h2⟩ := h
    exact ⟨bs, h1, by rw [← h2]; rfl⟩)
  have HCR : Hid (∀ i l, (carL r.ls [] 0)[i]? = some l → ∃ cs : List Bool, (carsA r.ls)[i]? = some cs ∧ l = cs.map Value.bool) := Lib.hid (fun i l h => by
    unfold carL at h
    rw [List.drop_zero, List.getElem?_map, Option.map_eq_some_iff] at h
    obtain ⟨cs, h1, h2⟩ := h
    exact ⟨cs, h1, by rw [← h2]; rfl⟩)
  have HLB := Lib.hid (show (brdL ball [] 0).length = (choices ball).length by unfold brdL; rw [List.length_map]; rfl)
  have HLC := Lib.hid (show (carL r.ls [] 0).length = (carsA r.ls).length by unfold carL; rw [List.length_map]; rfl)
  have HBM := Lib.hid (show (choices ball).length ≤ 6561 by rw [← HLB.out]; exact (brdL_len hbw hb4 [] 0).1)
  have HCM := Lib.hid (show (carsA r.ls).length ≤ 4096 by rw [← HLC.out]; exact (carL_len hf.2.1 [] 0).1)
  have FAL := Lib.hid (fun bs cs a2 c2 a3 c3 W (hb : Below w.heap.size w W) (hbs : bs ∈ choices ball) (hcs : cs ∈ carsA r.ls) (hB : IntsAt W a2 bs) (hC : BoolsAt W a3 cs) =>
    fallen_any r xs a c bs a2 c2 cs a3 c3 W (hL.lo hb) hck (hX.lo hb) hB (by rw [(choices_out _ _ hbs).1]; exact hbl) (choice_bd hbw hbs) hC (carsA_ok _ _ hcs).1)
  have LEF := Lib.hid (fun ys a3 c3 W (hb : Below w.heap.size w W) (hY : IntsAt W a3 ys) (hy : ys.length ≤ 16) => left3_any xs ys a a3 c c3 W (hX.lo hb) hY (by omega) (by omega))
  have HEL : Hid (∀ N, (els N).length ≤ 16) := Lib.hid (fun N => els_len)
  have HS1 := Lib.hid (fun (bss : List (List Int)) bs => lvR_snoc r xs bs bss (carsA r.ls))
  have HLL := Lib.hid (fun (bss : List (List Int)) => lvR_len r xs bss (carsA r.ls))
  have S0 := Lib.hid (St.start r w)
  obtain ⟨i25, hi25, hz0, hz1, hz2⟩ := info_parts info25
  clear hL hbal hX hG hck hf hbl hset hb4 hbw hxl
  unfold rCells at S0
  unfold Rk.val at *
  generalize brdL ball [] 0 = BL at *
  generalize carL r.ls [] 0 = CL at *
  have HLF : Hid (∀ bs cs, (leftL xs (els (falN r xs bs cs))).map (Value.int .i64) = lvF r xs bs cs) := Lib.hid (fun bs cs => rfl)
  have HN0 := Lib.hid (show lvR r xs [] (carsA r.ls) = [] from rfl)
  generalize hcb : choices ball = bss at *
  generalize hcc : carsA r.ls = css at *
  generalize hlr : lvR r xs = LR at *
  generalize hlf : lvF r xs = LF at *
  clear hcb hcc hlr hlf
  go_enter Tryd.func38, Tryd.ntmps38
  go_upto_region 2 with fail
  obtain ⟨w1, hw1⟩ : ∃ W, W = w.alloc (.cells #[.int .i64 r.rows, .int .i64 r.mid, .int .i64 r.gap, .int .i64 r.reach, .slice r.la r.ls.length r.lc] 24) := ⟨_, rfl⟩
  rw [← hw1] at S0 ⊢
  clear hw1
  have DB := Lib.hid (show Below w1.heap.size w1 w1.drew from Below.drew (Below.refl _ _))
  have SK := Lib.hid (fun (W : World) (hb : Below w1.heap.size w1 W) => (S0.out.go hb).c)
  go_cut [8, 9] from 12 (fun s8 s9 wx => ∃ aB cB aC cC, s8 = .slice aB BL.length cB ∧ s9 = .slice aC CL.length cC ∧ Hid (LLAt w1.heap.size wx aB BL) ∧ Hid (LLAt w1.heap.size wx aC CL) ∧ Hid (Below w1.heap.size w1 wx))
  case first =>
    have BR1 := Lib.hid (fun W (hb : Below w1.heap.size w1 W) => BRD.out W (below_go S0.out.bl hb))
    have CA1 := Lib.hid (fun W (hb : Below w1.heap.size w1 W) => CAR.out W (below_go S0.out.bl hb))
    clear BRD CAR
    refine wp_region_held_drew (S := (fun W => W.cell? ⟨w.heap.size, 0, none⟩ = some (.int .i64 r.rows) ∧ W.cell? ⟨w.heap.size, 1, none⟩ = some (.int .i64 r.mid) ∧ W.cell? ⟨w.heap.size, 2, none⟩ = some (.int .i64 r.gap) ∧ W.cell? ⟨w.heap.size, 3, none⟩ = some (.int .i64 r.reach) ∧ W.cell? ⟨w.heap.size, 4, none⟩ = some (.slice r.la r.ls.length r.lc))) (by kernel_rfl) ?_ (fun hHeld => ?_)
    · (try dsimp only) <;> (with_reducible first | exact SK.out _ DB2.out | exact SK.out _ DB1.out | exact SK.out _ DB.out)
    refine wpAnyH_take (i := 0) (oi := { dst := some 12, op := Op.move (Operand.tmp 2), type := 47, pos := "ref.go:228", after := #[], guard := none }) (v := ?v_lx2_0) rfl (by kernel_rfl) (by kernel_rfl) (by kernel_rfl) (fun _ _ _ h => h) (Or.inl ⟨by rfl, ?y_lx2_0⟩) (by assumption) ?_
    case y_lx2_0 => intro w hSw; (try dsimp only at hSw); go_simp; with_reducible rfl
    try simp only [Act.put, List.setIfInBounds_toArray, List.set_cons_zero, List.set_cons_succ]
    refine wpAnyH_take (i := 2) (oi := { dst := some 14, op := Op.load 24 (Operand.tmp 3), type := 24, pos := "ref.go:228", after := #[], guard := none }) (v := ?v_lx2_1) rfl (by kernel_rfl) (by kernel_rfl) (by kernel_rfl) (fun _ _ _ h => h) (Or.inl ⟨by rfl, ?y_lx2_1⟩) (by assumption) ?_
    case y_lx2_1 => intro w hSw; (try dsimp only at hSw); go_simp; with_reducible rfl
    try simp only [Act.put, List.setIfInBounds_toArray, List.set_cons_zero, List.set_cons_succ]
    refine wpAnyH_ready (rs := [1]) (by kernel_rfl) (by simp) ?_
    refine AllReadyH.cons (o := { dst := some 13, op := Op.call { callee := Callee.value (Operand.func 79), args := #[Operand.tmp 12, Operand.const (Value.slice none 0 0)], argTypes := #[47, 25] }, type := 67, pos := "ref.go:228", after := #[{ on := 0, ground := Ground.data }], guard := none }) rfl (fun K hK => ?_) ?_
    go_simp
    (first | (go_at_call 79; (with_reducible first | refine (BR1.out _ DB1.out).mono ?_ | refine (BR1.out _ DB.out).mono ?_); rintro e wX ⟨v3, rfl, hO3, hb⟩; (first | have DB2 := Lib.hid (below_go DB1.out hb); have OC := Lib.hid (OC.out.lo hb) | have DB1 := Lib.hid (below_go DB.out hb)); have OB := Lib.hid hO3; clear hO3 hb) | (go_at_call 80; (with_reducible first | refine (CA1.out _ DB1.out).mono ?_ | refine (CA1.out _ DB.out).mono ?_); rintro e wX ⟨v4, rfl, hO3, hb⟩; (first | have DB2 := Lib.hid (below_go DB1.out hb); have OB := Lib.hid (OB.out.lo hb) | have DB1 := Lib.hid (below_go DB.out hb)); have OC := Lib.hid hO3; clear hO3 hb))
    go_wp2_with fail
    refine hK.out _ _ ?_ (fun hHeld => ?_)
    · (try dsimp only) <;> (with_reducible first | exact SK.out _ DB2.out | exact SK.out _ DB1.out | exact SK.out _ DB.out)
    clear hK K
    try simp only [Act.put, List.setIfInBounds_toArray, List.set_cons_zero, List.set_cons_succ]
    refine wpAnyH_ready (rs := [3]) (by kernel_rfl) (by simp) ?_
    refine AllReadyH.cons (o := { dst := some 15, op := Op.call { callee := Callee.value (Operand.func 80), args := #[Operand.tmp 14, Operand.const (Value.slice none 0 0)], argTypes := #[24, 48] }, type := 128, pos := "ref.go:228", after := #[{ on := 2, ground := Ground.data }, { on := 1, ground := Ground.chain }], guard := none }) rfl (fun K hK => ?_) ?_
    go_simp
    (first | (go_at_call 79; (with_reducible first | refine (BR1.out _ DB1.out).mono ?_ | refine (BR1.out _ DB.out).mono ?_); rintro e wX ⟨v3, rfl, hO3, hb⟩; (first | have DB2 := Lib.hid (below_go DB1.out hb); have OC := Lib.hid (OC.out.lo hb) | have DB1 := Lib.hid (below_go DB.out hb)); have OB := Lib.hid hO3; clear hO3 hb) | (go_at_call 80; (with_reducible first | refine (CA1.out _ DB1.out).mono ?_ | refine (CA1.out _ DB.out).mono ?_); rintro e wX ⟨v4, rfl, hO3, hb⟩; (first | have DB2 := Lib.hid (below_go DB1.out hb); have OB := Lib.hid (OB.out.lo hb) | have DB1 := Lib.hid (below_go DB.out hb)); have OC := Lib.hid hO3; clear hO3 hb))
    go_wp2_with fail
    refine hK.out _ _ ?_ (fun hHeld => ?_)
    · (try dsimp only) <;> (with_reducible first | exact SK.out _ DB2.out | exact SK.out _ DB1.out | exact SK.out _ DB.out)
    clear hK K
    try simp only [Act.put, List.setIfInBounds_toArray, List.set_cons_zero, List.set_cons_succ]
    refine wpAnyH_take (i := 4) (oi := { dst := some 8, op := Op.assign (Operand.tmp 13), type := 67, pos := "ref.go:228", after := #[{ on := 1, ground := Ground.data }, { on := 3, ground := Ground.chain }, { on := 0, ground := Ground.phase }, { on := 1, ground := Ground.phase }, { on := 2, ground := Ground.textOnly Departure.lateStores }, { on := 3, ground := Ground.textOnly Departure.lateStoresUnsure }], guard := none }) (v := ?v_lx2_2) rfl (by kernel_rfl) (by kernel_rfl) (by kernel_rfl) (fun _ _ _ h => h) (Or.inl ⟨by rfl, ?y_lx2_2⟩) (by assumption) ?_
    case y_lx2_2 => intro w hSw; (try dsimp only at hSw); go_simp; with_reducible rfl
    try simp only [Act.put, List.setIfInBounds_toArray, List.set_cons_zero, List.set_cons_succ]
    refine wpAnyH_take (i := 5) (oi := { dst := some 9, op := Op.assign (Operand.tmp 15), type := 128, pos := "ref.go:228", after := #[{ on := 3, ground := Ground.data }, { on := 4, ground := Ground.chain }, { on := 0, ground := Ground.phase }, { on := 1, ground := Ground.phase }, { on := 2, ground := Ground.phase }, { on := 3, ground := Ground.phase }, { on := 4, ground := Ground.phase }], guard := none }) (v := ?v_lx2_3) rfl (by kernel_rfl) (by kernel_rfl) (by kernel_rfl) (fun _ _ _ h => h) (Or.inl ⟨by rfl, ?y_lx2_3⟩) (by assumption) ?_
    case y_lx2_3 => intro w hSw; (try dsimp only at hSw); go_simp; with_reducible rfl
    try simp only [Act.put, List.setIfInBounds_toArray, List.set_cons_zero, List.set_cons_succ]
    refine wpAnyH_done (by kernel_rfl) ?_ _
    rotate_left 1
    exact AllReadyH.nil
    exact AllReadyH.nil
    all_goals
      obtain ⟨aB, cB, rfl, hLB, _⟩ := OB.out.out
      obtain ⟨aC, cC, rfl, hLC, _⟩ := OC.out.out
      have LB := Lib.hid (hLB.mono (base' := w1.heap.size) (by first | exact DB1.out.size | exact DB.out.size | exact Nat.le_refl _))
      have LC := Lib.hid (hLC.mono (base' := w1.heap.size) (by first | exact DB1.out.size | exact DB.out.size | exact Nat.le_refl _))
      clear hLB hLC OB OC DB1
      go_wp2_with fail
      go_meet
      case rel => exact ⟨_, _, _, _, rfl, rfl, LB, LC, DB2⟩
  case rest =>
    obtain ⟨aB, cB, aC, cC, rfl, rfl, hB, hC, hw⟩ := hcut
    have LB := Lib.hid hB.out
    have LC := Lib.hid hC.out
    have B0 := Lib.hid (below_go S0.out.bl hw.out)
    have SK2 := Lib.hid (fun (W : World) (hb : Below wc.heap.size wc W) => SK.out W (below_go hw.out hb))
    have O0 : Hid (OwnLL 25 wc.heap.size wc.heap.size wc (.slice none 0 0) (LR (bss.take 0) css)) := Lib.hid (by rw [List.take_zero, HN0.out]; exact OwnLL.nil _ _ _ _)
    have C0 := Lib.hid (Below.refl wc.heap.size wc)
    clear hB hC DB SK BRD CAR
    go_wp2_with fail
    go_loopg [7, 10, 11] bss.length (fun g s7 s10 s11 wx => ∃ i : Nat, i ≤ bss.length ∧ g = bss.length - i ∧ s10 = .int .i64 (i : Int) ∧ Hid (OwnLL 25 wc.heap.size wc.heap.size wx s7 (LR (bss.take i) css)) ∧ Hid (Below wc.heap.size wc wx))
    case atStart => exact ⟨0, by omega, by omega, rfl, O0, C0⟩
    case round =>
      obtain ⟨i, hi, rfl, rfl, hO, hBc⟩ := hrel
      clear O0 C0
      by_cases hlt : i < bss.length
      · have hib : i < BL.length := by rw [HLB.out]; exact hlt
        obtain ⟨bs, hbs, hl⟩ := HBR.out i _ (List.getElem?_eq_getElem hib)
        obtain ⟨gB, oB, aR, cR, rfl, kB, hRB⟩ := LB.out i _ (List.getElem?_eq_getElem hib)
        rw [hl, List.length_map] at kB
        rw [hl] at hRB
        have HRB := Lib.hid hRB
        have KB := Lib.hid kB
        have HBM2 := Lib.hid (List.mem_of_getElem? hbs)
        have hz0' : (0 : Int) ≤ (i : Int) := by omega
        have hz1' : (i : Int) < (BL.length : Int) := by omega
        have hi7 : i ≤ 7000 := by have := HBM.out; omega
        have HT := Lib.hid (show LR (bss.take (i + 1)) css = LR (bss.take i) css ++ css.map (LF bs) by rw [take_next hbs]; exact HS1.out _ _)
        have HLI := Lib.hid (show (LR (bss.take i) css).length ≤ 6561 * 4096 by
          rw [HLL.out, List.length_take]
          exact Nat.mul_le_mul (by have := HBM.out; omega) HCM.out)
        have HII := Lib.hid (show (LR (bss.take i) css).length + css.length ≤ 6562 * 4096 by have := HLI.out; have := HCM.out; omega)
        generalize LR (bss.take i) css = L0 at *
        generalize hL1 : LR (bss.take (i + 1)) css = L1 at *
        have P0 : Hid (OwnLL 25 wc.heap.size wc.heap.size wr u7 (L0 ++ (css.take 0).map (LF bs))) := Lib.hid (by rw [List.take_zero, List.map_nil, List.append_nil]; exact hO.out)
        clear hbs hl kB hRB hO
        go_wp2_with fail
        go_loopg [7, 11] css.length (fun g s7 s11 wx => ∃ k : Nat, k ≤ css.length ∧ g = css.length - k ∧ s11 = .int .i64 (k : Int) ∧ Hid (OwnLL 25 wc.heap.size wc.heap.size wx s7 (L0 ++ (css.take k).map (LF bs))) ∧ Hid (Below wc.heap.size wc wx))
        case atStart => exact ⟨0, by omega, by omega, rfl, P0, hBc⟩
        case round =>
          clear P0 hBc
          obtain ⟨k, hk, rfl, rfl, hO, hBc⟩ := hrel
          by_cases hlk : k < css.length
          · have hkb : k < CL.length := by rw [HLC.out]; exact hlk
            obtain ⟨cs, hcs, hl⟩ := HCR.out k _ (List.getElem?_eq_getElem hkb)
            obtain ⟨gC, oC, aQ, cQ, rfl, kC, hRC⟩ := LC.out k _ (List.getElem?_eq_getElem hkb)
            rw [hl, List.length_map] at kC
            rw [hl] at hRC
            have HCM2 := Lib.hid (List.mem_of_getElem? hcs)
            have hy0' : (0 : Int) ≤ (k : Int) := by omega
            have hy1' : (k : Int) < (CL.length : Int) := by omega
            have hk7 : k ≤ 5000 := by have := HCM.out; omega
            have HT2 := Lib.hid (show L0 ++ (css.take (k + 1)).map (LF bs) = (L0 ++ (css.take k).map (LF bs)) ++ [LF bs cs] by rw [take_next hcs, List.map_append, List.append_assoc]; rfl)
            have HLK := Lib.hid (show (L0 ++ (css.take k).map (LF bs)).length + 1 ≤ 100000000 by
              rw [List.length_append, List.length_map, List.length_take]; have := HII.out; omega)
            generalize L0 ++ (css.take k).map (LF bs) = L2 at *
            generalize hL3 : L0 ++ (css.take (k + 1)).map (LF bs) = L3 at *
            have DR := Lib.hid (show Below wc.heap.size wc wr.drew from Below.drew hBc.out)
            have FAX := Lib.hid (FAL.out bs cs aR cR aQ cQ wr.drew (below_go B0.out DR.out) HBM2.out HCM2.out (HRB.out.ints.lo DR.out) (hRC.bools.lo DR.out))
            have KX := Lib.hid (fun (W : World) (hb : Below wc.heap.size wc W) => And.intro (SK2.out W hb) (And.intro (cell_lo hb KB.out) (cell_lo hb kC)))
            have HO := Lib.hid hO.out
            have HLFx := Lib.hid (HLF.out bs cs)
            have HELx := Lib.hid (HEL.out (falN r xs bs cs))
            generalize els (falN r xs bs cs) = ys at *
            have LEX := Lib.hid (fun a3 c3 W (hb : Below wc.heap.size wc W) (hY : IntsAt W a3 ys) => LEF.out ys a3 c3 W (below_go B0.out hb) hY HELx.out)
            generalize leftL xs ys = zs at *
            have HBW := Lib.hid hBc.out.size
            clear hcs hl kC hRC hO hBc HLF HEL FAL LEF HT HBR HCR
            go_wp2_with fail
            refine wp_region_held_drew (S := (fun W => (W.cell? ⟨w.heap.size, 0, none⟩ = some (.int .i64 r.rows) ∧ W.cell? ⟨w.heap.size, 1, none⟩ = some (.int .i64 r.mid) ∧ W.cell? ⟨w.heap.size, 2, none⟩ = some (.int .i64 r.gap) ∧ W.cell? ⟨w.heap.size, 3, none⟩ = some (.int .i64 r.reach) ∧ W.cell? ⟨w.heap.size, 4, none⟩ = some (.slice r.la r.ls.length r.lc)) ∧ W.cell? ⟨gB, oB + i, none⟩ = some (.slice aR bs.length cR) ∧ W.cell? ⟨gC, oC + k, none⟩ = some (.slice aQ cs.length cQ))) (by kernel_rfl) ?_ (fun hHeld => ?_)
            · (try dsimp only) <;> (with_reducible first | exact KX.out _ B4.out | exact KX.out _ D2.out | exact KX.out _ D3.out | exact KX.out _ D1.out | exact KX.out _ DR.out)
            refine wpAnyH_take (i := 0) (oi := { dst := some 28, op := Op.move (Operand.tmp 7), type := 67, pos := "ref.go:231", after := #[], guard := none }) (v := ?v_lx9_4) rfl (by kernel_rfl) (by kernel_rfl) (by kernel_rfl) (fun _ _ _ h => h) (Or.inl ⟨by rfl, ?y_lx9_4⟩) (by assumption) ?_
            case y_lx9_4 => intro w hSw; (try dsimp only at hSw); go_simp; with_reducible rfl
            try simp only [Act.put, List.setIfInBounds_toArray, List.set_cons_zero, List.set_cons_succ]
            refine wpAnyH_take (i := 1) (oi := { dst := some 29, op := Op.move (Operand.tmp 1), type := 25, pos := "ref.go:231", after := #[], guard := none }) (v := ?v_lx9_5) rfl (by kernel_rfl) (by kernel_rfl) (by kernel_rfl) (fun _ _ _ h => h) (Or.inl ⟨by rfl, ?y_lx9_5⟩) (by assumption) ?_
            case y_lx9_5 => intro w hSw; (try dsimp only at hSw); go_simp; with_reducible rfl
            try simp only [Act.put, List.setIfInBounds_toArray, List.set_cons_zero, List.set_cons_succ]
            refine wpAnyH_take (i := 2) (oi := { dst := some 30, op := Op.load 24 (Operand.tmp 3), type := 24, pos := "ref.go:231", after := #[], guard := none }) (v := ?v_lx9_6) rfl (by kernel_rfl) (by kernel_rfl) (by kernel_rfl) (fun _ _ _ h => h) (Or.inl ⟨by rfl, ?y_lx9_6⟩) (by assumption) ?_
            case y_lx9_6 => intro w hSw; (try dsimp only at hSw); go_simp; with_reducible rfl
            try simp only [Act.put, List.setIfInBounds_toArray, List.set_cons_zero, List.set_cons_succ]
            refine wpAnyH_take (i := 3) (oi := { dst := some 31, op := Op.move (Operand.tmp 1), type := 25, pos := "ref.go:231", after := #[], guard := none }) (v := ?v_lx9_7) rfl (by kernel_rfl) (by kernel_rfl) (by kernel_rfl) (fun _ _ _ h => h) (Or.inl ⟨by rfl, ?y_lx9_7⟩) (by assumption) ?_
            case y_lx9_7 => intro w hSw; (try dsimp only at hSw); go_simp; with_reducible rfl
            try simp only [Act.put, List.setIfInBounds_toArray, List.set_cons_zero, List.set_cons_succ]
            refine wpAnyH_take (i := 4) (oi := { dst := some 32, op := Op.move (Operand.tmp 8), type := 67, pos := "ref.go:231", after := #[], guard := none }) (v := ?v_lx9_8) rfl (by kernel_rfl) (by kernel_rfl) (by kernel_rfl) (fun _ _ _ h => h) (Or.inl ⟨by rfl, ?y_lx9_8⟩) (by assumption) ?_
            case y_lx9_8 => intro w hSw; (try dsimp only at hSw); go_simp; with_reducible rfl
            try simp only [Act.put, List.setIfInBounds_toArray, List.set_cons_zero, List.set_cons_succ]
            refine wpAnyH_take (i := 5) (oi := { dst := some 33, op := Op.move (Operand.tmp 10), type := 3, pos := "ref.go:231", after := #[], guard := none }) (v := ?v_lx9_9) rfl (by kernel_rfl) (by kernel_rfl) (by kernel_rfl) (fun _ _ _ h => h) (Or.inl ⟨by rfl, ?y_lx9_9⟩) (by assumption) ?_
            case y_lx9_9 => intro w hSw; (try dsimp only at hSw); go_simp; with_reducible rfl
            try simp only [Act.put, List.setIfInBounds_toArray, List.set_cons_zero, List.set_cons_succ]
            refine wpAnyH_take (i := 6) (oi := { dst := some 34, op := Op.indexAddr 67 (Operand.tmp 32) (Operand.tmp 33), type := 0, pos := "ref.go:231", after := #[{ on := 4, ground := Ground.data }, { on := 5, ground := Ground.data }], guard := none }) (v := ?v_lx9_10) rfl (by kernel_rfl) (by kernel_rfl) (by kernel_rfl) (fun _ _ _ h => h) (Or.inl ⟨by rfl, ?y_lx9_10⟩) (by assumption) ?_
            case y_lx9_10 => intro w hSw; (try dsimp only at hSw); go_simp; with_reducible rfl
            try simp only [Act.put, List.setIfInBounds_toArray, List.set_cons_zero, List.set_cons_succ]
            refine wpAnyH_take (i := 7) (oi := { dst := some 35, op := Op.load 25 (Operand.tmp 34), type := 25, pos := "ref.go:231", after := #[{ on := 6, ground := Ground.data }], guard := none }) (v := ?v_lx9_11) rfl (by kernel_rfl) (by kernel_rfl) (by kernel_rfl) (fun _ _ _ h => h) (Or.inl ⟨by rfl, ?y_lx9_11⟩) (by assumption) ?_
            case y_lx9_11 => intro w hSw; (try dsimp only at hSw); go_simp; with_reducible rfl
            try simp only [Act.put, List.setIfInBounds_toArray, List.set_cons_zero, List.set_cons_succ]
            refine wpAnyH_take (i := 8) (oi := { dst := some 36, op := Op.move (Operand.tmp 9), type := 128, pos := "ref.go:231", after := #[], guard := none }) (v := ?v_lx9_12) rfl (by kernel_rfl) (by kernel_rfl) (by kernel_rfl) (fun _ _ _ h => h) (Or.inl ⟨by rfl, ?y_lx9_12⟩) (by assumption) ?_
            case y_lx9_12 => intro w hSw; (try dsimp only at hSw); go_simp; with_reducible rfl
            try simp only [Act.put, List.setIfInBounds_toArray, List.set_cons_zero, List.set_cons_succ]
            refine wpAnyH_take (i := 9) (oi := { dst := some 37, op := Op.move (Operand.tmp 11), type := 3, pos := "ref.go:231", after := #[], guard := none }) (v := ?v_lx9_13) rfl (by kernel_rfl) (by kernel_rfl) (by kernel_rfl) (fun _ _ _ h => h) (Or.inl ⟨by rfl, ?y_lx9_13⟩) (by assumption) ?_
            case y_lx9_13 => intro w hSw; (try dsimp only at hSw); go_simp; with_reducible rfl
            try simp only [Act.put, List.setIfInBounds_toArray, List.set_cons_zero, List.set_cons_succ]
            refine wpAnyH_take (i := 10) (oi := { dst := some 38, op := Op.indexAddr 128 (Operand.tmp 36) (Operand.tmp 37), type := 0, pos := "ref.go:231", after := #[{ on := 8, ground := Ground.data }, { on := 9, ground := Ground.data }], guard := none }) (v := ?v_lx9_14) rfl (by kernel_rfl) (by kernel_rfl) (by kernel_rfl) (fun _ _ _ h => h) (Or.inl ⟨by rfl, ?y_lx9_14⟩) (by assumption) ?_
            case y_lx9_14 => intro w hSw; (try dsimp only at hSw); go_simp; with_reducible rfl
            try simp only [Act.put, List.setIfInBounds_toArray, List.set_cons_zero, List.set_cons_succ]
            refine wpAnyH_take (i := 11) (oi := { dst := some 39, op := Op.load 48 (Operand.tmp 38), type := 48, pos := "ref.go:231", after := #[{ on := 10, ground := Ground.data }], guard := none }) (v := ?v_lx9_15) rfl (by kernel_rfl) (by kernel_rfl) (by kernel_rfl) (fun _ _ _ h => h) (Or.inl ⟨by rfl, ?y_lx9_15⟩) (by assumption) ?_
            case y_lx9_15 => intro w hSw; (try dsimp only at hSw); go_simp; with_reducible rfl
            try simp only [Act.put, List.setIfInBounds_toArray, List.set_cons_zero, List.set_cons_succ]
            refine wpAnyH_ready (rs := [12]) (by kernel_rfl) (by simp) ?_
            refine AllReadyH.cons (o := { dst := some 40, op := Op.call { callee := Callee.value (Operand.func 33), args := #[Operand.tmp 30, Operand.tmp 31, Operand.tmp 35, Operand.tmp 39], argTypes := #[24, 25, 25, 48] }, type := 25, pos := "ref.go:231", after := #[{ on := 2, ground := Ground.data }, { on := 3, ground := Ground.data }, { on := 7, ground := Ground.data }, { on := 11, ground := Ground.data }], guard := none }) rfl (fun K hK => ?_) ?_
            go_simp
            (first | ((with_reducible refine step_run4 R4.out ?_ ?_ ?_); (exact rfl); (exact rfl)) | (go_at_call 33; (with_reducible refine FAX.out.mono ?_); rintro e wF ⟨aF, cF, rfl, hI, hn, hb⟩; have D1 := Lib.hid (below_go DR.out hb); have QF := Lib.hid hb; have IF := Lib.hid hI; clear hI hn hb) | (go_at_call 32; (with_reducible refine (LEX.out _ _ _ D1.out IF.out).mono ?_); rintro e wL ⟨aL, cL, rfl, hR, hn, hb⟩; have D2 := Lib.hid (below_go D1.out hb); have D3 := Lib.hid (below_al2 D2.out (.cells #[.slice aL zs.length cL] 25)); obtain ⟨v4, w4, hr4, hO4, hB4⟩ := app_row1 (w := wc) (l := zs.map (Value.int .i64)) (c := cL) 67 25 i25 Tryd.underlying67 hi25 hz0 hz1 hz2 (List.length_map ..) HO.out (below_go (below_go (Below.drew (Below.refl wr.heap.size wr)) QF.out) hb) (hR.mono (Nat.le_trans QF.out.size (Nat.le_refl _))) HBW.out (Nat.le_trans HBW.out (below_go (below_go (Below.drew (Below.refl wr.heap.size wr)) QF.out) hb).size) HLK.out D2.out (Nat.le_refl _); have R4 := Lib.hid hr4; have O4 := Lib.hid (show OwnLL 25 wc.heap.size wc.heap.size w4 v4 L3 by rw [HT2.out, ← HLFx.out]; exact hO4); have B4 := Lib.hid hB4; clear hR hn hb hr4 hO4 hB4))
            go_wp2_with fail
            refine hK.out _ _ ?_ (fun hHeld => ?_)
            · (try dsimp only) <;> (with_reducible first | exact KX.out _ B4.out | exact KX.out _ D2.out | exact KX.out _ D3.out | exact KX.out _ D1.out | exact KX.out _ DR.out)
            clear hK K
            try simp only [Act.put, List.setIfInBounds_toArray, List.set_cons_zero, List.set_cons_succ]
            refine wpAnyH_ready (rs := [13]) (by kernel_rfl) (by simp) ?_
            refine AllReadyH.cons (o := { dst := some 41, op := Op.call { callee := Callee.value (Operand.func 32), args := #[Operand.tmp 29, Operand.tmp 40], argTypes := #[25, 25] }, type := 25, pos := "ref.go:231", after := #[{ on := 1, ground := Ground.data }, { on := 12, ground := Ground.data }, { on := 12, ground := Ground.chain }], guard := none }) rfl (fun K hK => ?_) ?_
            go_simp
            (first | ((with_reducible refine step_run4 R4.out ?_ ?_ ?_); (exact rfl); (exact rfl)) | (go_at_call 33; (with_reducible refine FAX.out.mono ?_); rintro e wF ⟨aF, cF, rfl, hI, hn, hb⟩; have D1 := Lib.hid (below_go DR.out hb); have QF := Lib.hid hb; have IF := Lib.hid hI; clear hI hn hb) | (go_at_call 32; (with_reducible refine (LEX.out _ _ _ D1.out IF.out).mono ?_); rintro e wL ⟨aL, cL, rfl, hR, hn, hb⟩; have D2 := Lib.hid (below_go D1.out hb); have D3 := Lib.hid (below_al2 D2.out (.cells #[.slice aL zs.length cL] 25)); obtain ⟨v4, w4, hr4, hO4, hB4⟩ := app_row1 (w := wc) (l := zs.map (Value.int .i64)) (c := cL) 67 25 i25 Tryd.underlying67 hi25 hz0 hz1 hz2 (List.length_map ..) HO.out (below_go (below_go (Below.drew (Below.refl wr.heap.size wr)) QF.out) hb) (hR.mono (Nat.le_trans QF.out.size (Nat.le_refl _))) HBW.out (Nat.le_trans HBW.out (below_go (below_go (Below.drew (Below.refl wr.heap.size wr)) QF.out) hb).size) HLK.out D2.out (Nat.le_refl _); have R4 := Lib.hid hr4; have O4 := Lib.hid (show OwnLL 25 wc.heap.size wc.heap.size w4 v4 L3 by rw [HT2.out, ← HLFx.out]; exact hO4); have B4 := Lib.hid hB4; clear hR hn hb hr4 hO4 hB4))
            go_wp2_with fail
            refine hK.out _ _ ?_ (fun hHeld => ?_)
            · (try dsimp only) <;> (with_reducible first | exact KX.out _ B4.out | exact KX.out _ D2.out | exact KX.out _ D3.out | exact KX.out _ D1.out | exact KX.out _ DR.out)
            clear hK K
            try simp only [Act.put, List.setIfInBounds_toArray, List.set_cons_zero, List.set_cons_succ]
            refine wpAnyH_ready (rs := [14]) (by kernel_rfl) (by simp) ?_
            refine AllReadyH.cons (o := { dst := some 42, op := Op.buildSlice 67 1 #[(0, Operand.tmp 41)], type := 67, pos := "ref.go:231", after := #[{ on := 13, ground := Ground.data }], guard := none }) rfl (fun K hK => ?_) ?_
            go_simp
            refine hK.out _ _ ?_ (fun hHeld => ?_)
            · (try dsimp only) <;> (with_reducible first | exact KX.out _ B4.out | exact KX.out _ D2.out | exact KX.out _ D3.out | exact KX.out _ D1.out | exact KX.out _ DR.out)
            clear hK K
            try simp only [Act.put, List.setIfInBounds_toArray, List.set_cons_zero, List.set_cons_succ]
            refine wpAnyH_ready (rs := [15]) (by kernel_rfl) (by simp) ?_
            refine AllReadyH.cons (o := { dst := some 43, op := Op.call { callee := Callee.builtin Builtin.append, args := #[Operand.tmp 28, Operand.tmp 42], argTypes := #[67, 67] }, type := 67, pos := "ref.go:231", after := #[{ on := 0, ground := Ground.data }, { on := 14, ground := Ground.data }, { on := 13, ground := Ground.chain }], guard := none }) rfl (fun K hK => ?_) ?_
            (first | ((with_reducible refine step_run4 R4.out ?_ ?_ ?_); (exact rfl); (exact rfl)) | (go_at_call 33; (with_reducible refine FAX.out.mono ?_); rintro e wF ⟨aF, cF, rfl, hI, hn, hb⟩; have D1 := Lib.hid (below_go DR.out hb); have QF := Lib.hid hb; have IF := Lib.hid hI; clear hI hn hb) | (go_at_call 32; (with_reducible refine (LEX.out _ _ _ D1.out IF.out).mono ?_); rintro e wL ⟨aL, cL, rfl, hR, hn, hb⟩; have D2 := Lib.hid (below_go D1.out hb); have D3 := Lib.hid (below_al2 D2.out (.cells #[.slice aL zs.length cL] 25)); obtain ⟨v4, w4, hr4, hO4, hB4⟩ := app_row1 (w := wc) (l := zs.map (Value.int .i64)) (c := cL) 67 25 i25 Tryd.underlying67 hi25 hz0 hz1 hz2 (List.length_map ..) HO.out (below_go (below_go (Below.drew (Below.refl wr.heap.size wr)) QF.out) hb) (hR.mono (Nat.le_trans QF.out.size (Nat.le_refl _))) HBW.out (Nat.le_trans HBW.out (below_go (below_go (Below.drew (Below.refl wr.heap.size wr)) QF.out) hb).size) HLK.out D2.out (Nat.le_refl _); have R4 := Lib.hid hr4; have O4 := Lib.hid (show OwnLL 25 wc.heap.size wc.heap.size w4 v4 L3 by rw [HT2.out, ← HLFx.out]; exact hO4); have B4 := Lib.hid hB4; clear hR hn hb hr4 hO4 hB4))
            refine hK.out _ _ ?_ (fun hHeld => ?_)
            · (try dsimp only) <;> (with_reducible first | exact KX.out _ B4.out | exact KX.out _ D2.out | exact KX.out _ D3.out | exact KX.out _ D1.out | exact KX.out _ DR.out)
            clear hK K
            try simp only [Act.put, List.setIfInBounds_toArray, List.set_cons_zero, List.set_cons_succ]
            refine wpAnyH_take (i := 16) (oi := { dst := some 7, op := Op.assign (Operand.tmp 43), type := 67, pos := "ref.go:231", after := #[{ on := 15, ground := Ground.data }, { on := 15, ground := Ground.chain }, { on := 0, ground := Ground.phase }, { on := 1, ground := Ground.phase }, { on := 2, ground := Ground.phase }, { on := 3, ground := Ground.phase }, { on := 4, ground := Ground.phase }, { on := 5, ground := Ground.phase }, { on := 6, ground := Ground.phase }, { on := 7, ground := Ground.phase }, { on := 8, ground := Ground.phase }, { on := 9, ground := Ground.phase }, { on := 10, ground := Ground.phase }, { on := 11, ground := Ground.phase }, { on := 12, ground := Ground.phase }, { on := 13, ground := Ground.phase }, { on := 14, ground := Ground.phase }, { on := 15, ground := Ground.phase }], guard := none }) (v := ?v_lx9_16) rfl (by kernel_rfl) (by kernel_rfl) (by kernel_rfl) (fun _ _ _ h => h) (Or.inl ⟨by rfl, ?y_lx9_16⟩) (by assumption) ?_
            case y_lx9_16 => intro w hSw; (try dsimp only at hSw); go_simp; with_reducible rfl
            try simp only [Act.put, List.setIfInBounds_toArray, List.set_cons_zero, List.set_cons_succ]
            refine wpAnyH_done (by kernel_rfl) ?_ _
            rotate_left 1
            exact AllReadyH.nil
            exact AllReadyH.nil
            exact AllReadyH.nil
            exact AllReadyH.nil
            clear R4 D1 D2 D3 QF IF FAX LEX KX HO
            go_wp2_with fail
            go_roundg (css.length - (k + 1))
            case measure => omega
            case rel => exact ⟨k + 1, by omega, rfl, by simp, by rw [hL3]; exact O4, B4⟩
          · have hy1' : ¬ (k : Int) < (CL.length : Int) := by rw [HLC.out]; omega
            have HO2 := Lib.hid (show OwnLL 25 wc.heap.size wc.heap.size wr u7 L1 by
              have h := hO.out
              rw [List.take_of_length_le (by omega)] at h
              rw [HT.out]; exact h)
            clear hO hlk
            go_wp2_with fail
            go_roundg (bss.length - (i + 1))
            case measure => omega
            case rel => exact ⟨i + 1, by omega, rfl, by simp, by rw [hL1]; exact HO2, hBc⟩
      · have hz1' : ¬ (i : Int) < (BL.length : Int) := by rw [HLB.out]; omega
        have HO2 := Lib.hid (show OwnLL 25 w.heap.size w.heap.size wr u7 (LR bss css) by
          have h := hO.out
          rw [List.take_of_length_le (by omega)] at h
          exact h.mono B0.out.size B0.out.size)
        have HB2 := Lib.hid (below_go B0.out hBc.out)
        clear hO hlt hBc
        go_wp2_with fail
        go_returns
        exact ⟨_, rfl, HO2.out, HB2.out⟩

end Go.Proofs.YtaloffdkadhhnaaDoor
