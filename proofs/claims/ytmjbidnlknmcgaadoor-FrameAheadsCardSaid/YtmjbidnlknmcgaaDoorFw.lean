/- The contract of the law FrameFouls. -/
import Derived.Test.YtmjbidnlknmcgaaDoorFw0
import Derived.Test.YtmjbidnlknmcgaaDoorFo
set_option linter.unusedVariables false
set_option linter.unusedSimpArgs false
namespace Go.Proofs.YtmjbidnlknmcgaaDoor
open Go.RowKit

theorem fl_refl : ∀ bs, FlL bs bs
  | [] => .nil
  | k :: ks => .cons (.inl rfl) (fl_refl ks)

theorem fl_set {bs ys : List Int} {v : Int} (h : FlL bs ys) (hv : v = 0 ∨ v = -1) : ∀ (k : Nat) (y : Int), ys[k]? = some y → (y = 0 ∨ y = -1) → FlL bs (ys.set k v) := by
  induction h with
  | nil => intro k y h; simp at h
  | @cons a a' ks ks' hk hks ih =>
    intro k y h hy
    cases k with
    | zero =>
      simp only [List.getElem?_cons_zero, Option.some.injEq] at h
      subst h
      refine .cons (.inr ⟨?_, hv⟩) hks
      rcases hk with rfl | ⟨h1, _⟩
      · exact hy
      · exact h1
    | succ k => exact .cons hk (ih k y (by simpa using h) hy)

/-- A sheet, and what may stand instead of it. -/
structure FX (bs ys : List Int) : Prop where
  fl : FlL bs ys
  ge : ∀ y ∈ ys, -1 ≤ y

theorem FX.set {bs ys : List Int} {v y : Int} {k : Nat} (h : FX bs ys) (hv : v = 0 ∨ v = -1) (hy : ys[k]? = some y) (h0 : y ≤ 0) : FX bs (ys.set k v) := by
  have h1 := h.ge y (List.mem_of_getElem? hy)
  refine ⟨fl_set h.fl hv k y hy (by omega), fun x hx => ?_⟩
  rcases List.mem_or_eq_of_mem_set hx with hx | rfl
  · exact h.ge x hx
  · omega

theorem WL.set {w W : World} {l : Lw} (h : Hid (WL w W l)) {p : Addr} (hp : w.heap.size < p.block) (v : Value) : Hid (WL w (W.setCell p v) l) :=
  Lib.hid ⟨(Below.heap_setCell W p v _ (by omega)).trans h.out.lb, h.out.bl.setCell (by omega) v⟩

theorem setGo_le (pn : Int) (cs : List Int) : ∀ (bs : List (List Int)) (f : Nat) (acc : List Int), (setGo pn cs bs f acc).length ≤ acc.length + bs.length
  | [], _, _ => by simp [setGo]
  | b :: bs, f, acc => by
    rw [setGo]
    split
    · simp
    · have := setGo_le pn cs bs (f + b.length) (acc ++ [(partL cs f (needs pn cs f b.length)).sum + lastC acc])
      simp at this ⊢
      omega

theorem rdM_le (l : Lw) (bs : List Int) : (rdM l bs).length ≤ 1000 := by
  unfold rdM
  split
  · rename_i h
    obtain ⟨ok, hw, _⟩ := recS_ok h
    have f1 := hw.vd.f1
    have f2 := hw.vd.f2
    have f3 := ok.f2
    have := setGo_le l.pn (recS l bs).cs ((recS l bs).fs.take (recS l bs).s.f.toNat) 0 []
    rw [List.length_take] at this
    unfold setL
    simp only [List.length_nil] at this
    omega
  · simp

theorem own_sheet {w : World} {base n c : Nat} {a : Option Addr} {xs : List Int} (h : w.ownsRow base 3 1 (.slice a n c) n (xs.map (Value.int .i64))) : SheetAt w a c xs := by
  refine ⟨own_ballsAt h, fun e => ?_⟩
  rcases h.2 with ⟨h1, h0⟩ | ⟨g, cap, cur, hg, _⟩
  · have := h.1
    rw [List.length_map, h0] at this
    cases h1
    exact ⟨rfl, List.eq_nil_of_length_eq_zero (by omega)⟩
  · cases hg; cases e

theorem rdF_ne {l : Lw} {bs : List Int} : ∀ zs ∈ rdF l bs, 0 < zs.length := by
  unfold rdF
  split
  · rename_i h; exact (recS_rcs h).ne
  · simp

theorem flat_take {F : List (List Int)} {k : Nat} {zs : List Int} (h : F[k]? = some zs) : (F.take (k + 1)).flatten = (F.take k).flatten ++ zs := by
  rw [List.take_add_one, h]; simp

theorem flat_take_le (F : List (List Int)) (k : Nat) : (F.take k).flatten.length ≤ F.flatten.length := by
  have h : F.flatten.length = ((F.take k).flatten ++ (F.drop k).flatten).length := by rw [← List.flatten_append, List.take_append_drop]
  rw [h, List.length_append]
  omega

theorem bit_val {x : Int} (h : 0 ≤ x) : wrap64 (-wrap64 (x.tmod 2)) = 0 ∨ wrap64 (-wrap64 (x.tmod 2)) = -1 := by
  have e : x.tmod 2 = x % 2 := Int.tmod_eq_emod_of_nonneg h
  rw [e]
  rcases (show x % 2 = 0 ∨ x % 2 = 1 by omega) with h1 | h1
  · rw [h1, IntWalk.wrap64_in 0 ⟨by omega, by omega⟩]; exact .inl (IntWalk.wrap64_in _ ⟨by omega, by omega⟩)
  · rw [h1, IntWalk.wrap64_in 1 ⟨by omega, by omega⟩]; exact .inr (IntWalk.wrap64_in _ ⟨by omega, by omega⟩)

theorem flat_ge : ∀ {F : List (List Int)}, (∀ zs ∈ F, 0 < zs.length) → F.length ≤ F.flatten.length
  | [], _ => by simp
  | z :: F, h => by
    have h1 := flat_ge (F := F) (fun zs hz => h zs (List.mem_cons_of_mem _ hz))
    have h2 := h z List.mem_cons_self
    simp only [List.length_cons, List.flatten_cons, List.length_append]
    omega

theorem balls_some {w : World} {a : Option Addr} {xs : List Int} (h : BallsAt w a xs) (h0 : 0 < xs.length) : ∃ g o, a = some ⟨g, o, none⟩ := by
  obtain ⟨g, o, e, _⟩ := h 0 (xs[0]'h0) (List.getElem?_eq_getElem _)
  exact ⟨g, o, e⟩

set_option maxRecDepth 100000 in
set_option maxHeartbeats 16000000 in
theorem fouls_any (l : Lw) (bs : List Int) (a : Option Addr) (c : Nat) (m : Int) (w : World) (hs : SheetAt w a c bs) (hT : TabOK w) (hm0 : 0 ≤ m) (hm1 : m < 4294967296) :
    Calls Tryd.prog 12 #[l.val, .slice a bs.length c, .int .u32 m] w fun e w' => e = .returned (.bool true) ∧ Below w.heap.size w w' := by
  have HT := Lib.hid hT
  have HS := Lib.hid hs
  have WAK := Lib.hid wakes_any
  have RDY := Lib.hid (ready_any l bs)
  clear hT hs
  by_cases he : rdE l bs = 0
  · have hd : decide (rdE l bs = 0) = true := by simp [he]
    rw [hd] at RDY
    have HE := Lib.hid he
    have hlen : bs.length ≤ 40 := (errS_zero (rdE_zero he).1).2
    have LST := Lib.hid (fun w h => list_any bs a c w h (by omega))
    have LAW := Lib.hid (law_any l)
    have RD := Lib.hid (rd_fr l)
    have GE := Lib.hid (rd_ge (rdE_zero he).2)
    clear hd he
    unfold Lw.val at *
    go_enter Tryd.func12, Tryd.ntmps12
    go_wp2_with fail
    have A1 := WL.start w l
    generalize World.alloc w _ = w1 at A1 ⊢
    obtain ⟨k0, k1, k2, k3⟩ := WL.at A1
    go_wp2_with fail
    refine (RDY.out a c w1 (HS.out.1.lo A1.out.bl)).mono ?_
    rintro e w2 ⟨rfl, hb⟩
    have A2 := WL.lo A1 hb
    clear hb A1 k0 k1 k2 k3
    go_wp2_with fail
    refine (LST.out w2 (HS.out.lo A2.out.bl)).mono ?_
    rintro e w3 ⟨v, rfl, ho, hb⟩
    obtain ⟨xa, xc, rfl⟩ := own_len ho
    have A3 := WL.lo A2 hb
    have O3 := Lib.hid ho
    have hw2 : w.heap.size < w2.heap.size := lt_of_block A2.out.lb
    clear hb ho A2
    go_wp2_with fail
    go_loopg [8] bs.length (fun g s8 wx => ∃ (k : Nat) (ys : List Int), k ≤ bs.length ∧ g = bs.length - k ∧ s8 = .int .i64 (k : Int) ∧ Hid (FX bs ys) ∧ Hid (wx.ownsRow w2.heap.size 3 1 (.slice xa bs.length xc) bs.length (ys.map (Value.int .i64))) ∧ Hid (WL w wx l))
    case atStart => exact ⟨0, bs, by omega, rfl, rfl, Lib.hid ⟨fl_refl bs, GE.out⟩, O3, A3⟩
    case round =>
      clear O3 A3
      obtain ⟨k, ys, hk, rfl, rfl, hfx, how, A⟩ := hrel
      by_cases hlt : k < bs.length
      · have hk1 : (k : Int) < (bs.length : Int) := by omega
        have hk0 : (0 : Int) ≤ (k : Int) := by omega
        obtain ⟨g, cap, hv, hg0, hg1, hg2, hg3⟩ := own_form how.out (by omega)
        cases hv
        have hyl : ys.length = bs.length := (forall2_len hfx.out.fl).symm
        obtain ⟨y, hy⟩ : ∃ y, Hid (ys[k]? = some y) := ⟨ys[k]'(by omega), Lib.hid (List.getElem?_eq_getElem _)⟩
        have dk : wr.cell? ⟨g, k, none⟩ = some (.int .i64 y) := own_cell how.out k _ (by rw [List.getElem?_map, hy.out]; rfl)
        have dfz : wr.frozen? ⟨g, k, none⟩ = false := own_free how.out k
        by_cases hy0 : y ≤ 0
        · have hd : decide (y ≤ 0) = true := by simpa using hy0
          go_wp2_with fail
          go_roundg (bs.length - (k + 1))
          case measure => omega
          case rel =>
            have hbv := bit_val (Int.ediv_nonneg hm0 (Int.pow_nonneg (by decide : (0 : Int) ≤ 2) : (0 : Int) ≤ 2 ^ (k % 32)))
            refine ⟨k + 1, ys.set k _, by omega, rfl, by simp, Lib.hid (hfx.out.set hbv hy.out hy0), Lib.hid ?_, WL.set A (by simp; omega) _⟩
            rw [List.map_set]
            exact ownsRow_set how.out hlt
        · have hd : decide (y ≤ 0) = false := by simpa using hy0
          go_wp2_with fail
          go_roundg (bs.length - (k + 1))
          case measure => omega
          case rel => exact ⟨k + 1, ys, by omega, rfl, by simp, hfx, how, A⟩
      · have hke : k = bs.length := by omega
        subst hke
        have HYL := Lib.hid (forall2_len hfx.out.fl).symm
        have fo := fo_ok HE.out hfx.out.fl
        have XS := Lib.hid (own_sheet how.out)
        have R1 := RD.out bs
        have R2 := RD.out ys
        have L2 : ∀ w, SheetAt w xa xc ys → Calls Tryd.prog 19 #[.slice xa bs.length xc] w fun e w' => ∃ v, e = .returned v ∧ w'.ownsRow w.heap.size 3 1 v bs.length (ys.map (Value.int .i64)) ∧ Below w.heap.size w w' := by
          rw [← HYL.out]; exact fun w h => list_any ys xa xc w h (by rw [HYL.out]; omega)
        rw [HE.out] at R1
        rw [fo.e, ← fo.m, ← fo.s, ← fo.d, HYL.out] at R2
        have FNE := Lib.hid (rdF_ne (l := l) (bs := ys))
        have FFL := Lib.hid fo.fl
        have ML := Lib.hid (rdM_le l bs)
        generalize rdM l bs = M at R1 R2 ML
        generalize rdS l bs = S at R1 R2
        generalize rdD l bs = D at R1 R2
        generalize rdF l bs = F1 at R1
        generalize rdN l bs = N1 at R1
        generalize rdF l ys = F2 at R2 FNE FFL
        generalize rdN l ys = N2 at R2
        replace R1 := Lib.hid R1
        replace R2 := Lib.hid R2
        replace L2 := Lib.hid L2
        clear RD fo hfx how GE RDY hk hlt
        obtain ⟨k0, k1, k2, k3⟩ := WL.at A
        go_wp2_with fail
        refine (LAW.out wr).mono ?_
        rintro e w4 ⟨rfl, hb⟩
        have A4 := WL.lo A hb
        have X4 := Lib.hid (XS.out.lo hb)
        clear hb A XS k0 k1 k2 k3
        go_wp2_with fail
        refine (LST.out w4 (HS.out.lo A4.out.bl)).mono ?_
        rintro e w5 ⟨v, rfl, ho, hb⟩
        obtain ⟨va, vc, rfl⟩ := own_len ho
        have A5 := WL.lo A4 hb
        have X5 := Lib.hid (X4.out.lo hb)
        have S5 := Lib.hid (own_ballsAt ho)
        clear hb ho A4 X4
        go_wp2_with fail
        refine (R1.out va vc w5 S5.out).mono ?_
        rintro e w6 ⟨fa, fc, qa, qc, rfl, hQ, hF, hb⟩
        have A6 := WL.al (WL.lo A5 hb) (.cells #[.slice fa N1 fc, .slice qa M.length qc, .int .i64 S, .bool D] 43)
        have X6 := Lib.hid ((X5.out.lo hb).lo (below_al w6 (.cells #[.slice fa N1 fc, .slice qa M.length qc, .int .i64 S, .bool D] 43)))
        have Q6 := Lib.hid (hQ.out.lo (below_al w6 (.cells #[.slice fa N1 fc, .slice qa M.length qc, .int .i64 S, .bool D] 43)))
        have G6 : Hid (GK (w6.alloc (.cells #[.slice fa N1 fc, .slice qa M.length qc, .int .i64 S, .bool D] 43)) w6.heap.size (.slice fa N1 fc) (.slice qa M.length qc) S D) := Lib.hid ⟨heap_alloc_new w6 _⟩
        clear hb hQ hF A5 X5 S5
        obtain ⟨k0, k1, k2, k3⟩ := WL.at A6
        go_wp2_with fail
        obtain ⟨p1, hp1⟩ : ∃ p1, w6.heap.size = p1 := ⟨_, rfl⟩
        rw [hp1] at G6 ⊢
        clear hp1
        generalize World.alloc w6 _ = w7 at A6 X6 Q6 G6 k0 k1 k2 k3 ⊢
        refine (LAW.out w7).mono ?_
        rintro e w8 ⟨rfl, hb⟩
        have A8 := WL.lo A6 hb
        have X8 := Lib.hid (X6.out.lo hb)
        have Q8 := Lib.hid (Q6.out.lo hb)
        have G8 := GK.lo G6 hb
        clear hb A6 X6 Q6 G6 k0 k1 k2 k3
        go_wp2_with fail
        refine (L2.out w8 X8.out).mono ?_
        rintro e w9 ⟨v, rfl, ho, hb⟩
        obtain ⟨vb, vd, rfl⟩ := own_len ho
        have A9 := WL.lo A8 hb
        have X9 := Lib.hid (X8.out.lo hb)
        have Q9 := Lib.hid (Q8.out.lo hb)
        have G9 := GK.lo G8 hb
        have S9 := Lib.hid (own_ballsAt ho)
        clear hb ho A8 X8 Q8 G8
        go_wp2_with fail
        refine (R2.out vb vd w9 S9.out).mono ?_
        rintro e wa ⟨fa2, fc2, qa2, qc2, rfl, hQ, hF, hb⟩
        have AA := WL.al (WL.lo A9 hb) (.cells #[.slice fa2 N2 fc2, .slice qa2 M.length qc2, .int .i64 S, .bool D] 43)
        have BL := below_al wa (.cells #[.slice fa2 N2 fc2, .slice qa2 M.length qc2, .int .i64 S, .bool D] 43)
        have XA := Lib.hid ((X9.out.lo hb).lo BL)
        have QA := Lib.hid ((Q9.out.lo hb).lo BL)
        have GA := GK.lo (GK.lo G9 hb) BL
        have QB := Lib.hid (hQ.out.lo BL)
        have FB := FR.lo hF BL
        have GB : Hid (GK (wa.alloc (.cells #[.slice fa2 N2 fc2, .slice qa2 M.length qc2, .int .i64 S, .bool D] 43)) wa.heap.size (.slice fa2 N2 fc2) (.slice qa2 M.length qc2) S D) := Lib.hid ⟨heap_alloc_new wa _⟩
        clear hb hQ hF A9 X9 S9 Q9 G9 BL R1 R2 L2 LST LAW
        obtain ⟨p2, hp2⟩ : ∃ p2, wa.heap.size = p2 := ⟨_, rfl⟩
        rw [hp2] at GB
        obtain ⟨a0, a1, a2, a3⟩ := GK.at GA
        obtain ⟨b0, b1, b2, b3⟩ := GK.at GB
        go_wp2_with fail
        clear hp2
        generalize World.alloc wa _ = wb at AA XA QA GA QB FB GB a0 a1 a2 a3 b0 b1 b2 b3 ⊢
        refine (ints_same M M.length qa qa2 qc qc2 wb rfl ML.out QA.out QB.out).mono ?_
        rintro e wd ⟨rfl, hg⟩
        have hb := grown_belowN hg.out
        have AD := WL.lo AA hb
        have XD := Lib.hid (XA.out.lo hb)
        have GA2 := GK.lo GA hb
        have GB2 := GK.lo GB hb
        have FD := FR.lo FB hb
        clear hb hg AA XA QA GA QB FB GB a0 a1 a2 a3 b0 b1 b2 b3
        obtain ⟨a0, a1, a2, a3⟩ := GK.at GA2
        obtain ⟨b0, b1, b2, b3⟩ := GK.at GB2
        go_wp2_with fail
        have WB := Lib.hid (Below.refl wd.heap.size wd)
        have ND := FD.out.len
        have N40 := flat_ge FNE.out
        rw [FFL.out, HYL.out] at N40
        go_loopg [13, 14] N2 (fun g s13 s14 wx => ∃ (k : Nat), k ≤ N2 ∧ g = N2 - k ∧ s14 = .int .i64 (k : Int) ∧ Hid (wx.ownsRow wd.heap.size 3 1 s13 (F2.take k).flatten.length ((F2.take k).flatten.map (Value.int .i64))) ∧ Hid (Below wd.heap.size wd wx))
        case atStart => exact ⟨0, by omega, rfl, rfl, Lib.hid (by simpa using World.ownsRow_nil _ _ _ _), WB⟩
        case round =>
          clear a0 a1 a2 a3 b0 b1 b2 b3 WB
          obtain ⟨k, hk, rfl, rfl, how, hB⟩ := hrel
          obtain ⟨b0, b1, b2, b3⟩ := GK.at (GK.lo GB2 hB.out)
          by_cases hlt : k < N2
          · have hk1 : (k : Int) < (N2 : Int) := by omega
            have hk0 : (0 : Int) ≤ (k : Int) := by omega
            obtain ⟨zs, hzs⟩ : ∃ zs, Hid (F2[k]? = some zs) := ⟨F2[k]'(by omega), Lib.hid (List.getElem?_eq_getElem _)⟩
            obtain ⟨gf, xa2, xc2, rfl, hz1, hz2⟩ := (FR.lo FD hB.out).out.get hzs.out
            obtain ⟨gx, ox, rfl⟩ := balls_some hz2 (FNE.out zs (List.mem_of_getElem? hzs.out))
            have hft := Lib.hid (flat_take hzs.out)
            have hfl := flat_take_le F2 (k + 1)
            rw [FFL.out, HYL.out, hft.out, List.length_append] at hfl
            have NWS := Lib.hid (balls_news hz2)
            obtain ⟨z, hz⟩ : ∃ z, zs.length = z := ⟨_, rfl⟩
            rw [hz] at hfl hz1
            have HZ := Lib.hid hz
            clear hz hz2
            obtain ⟨i3, hi3, hy0, hy1, hy2⟩ := info_parts info3
            go_wp2_with (at_builtin; go_must (refine wpList_append_own_at _ rfl _ _ 24 rfl wd.heap.size 3 i3 (.int .i64 0) 1 8 Tryd.underlying24 hi3 hy0 hy1 hy2 rfl (by decide) _ _ _ rfl how.out ⟨gx, ox, none⟩ z xc2 (zs.map (Value.int .i64)) rfl (by rw [List.length_map, HZ.out]; simp) NWS.out (by simp [Value.oneCell']) (by unfold maxLen; omega) (by omega) hB.out.size ?_); intro v' w9 hown' hgrow hnil hloc; have ho1 := Lib.hid hown'; have hB9 := Lib.hid (below_own hB.out how.out hgrow); clear hown' hgrow hnil hloc)
            go_roundg (N2 - (k + 1))
            case measure => omega
            case rel =>
              refine ⟨k + 1, by omega, rfl, by simp, Lib.hid ?_, hB9⟩
              rw [hft.out, List.map_append, List.length_append, HZ.out]
              exact ho1.out
          · have hke : k = N2 := by omega
            subst hke
            have hfe : F2.take k = F2 := List.take_of_length_le (by omega)
            have how2 := how.out
            rw [hfe, FFL.out, HYL.out] at how2
            obtain ⟨ya, yc, rfl⟩ := own_len how2
            have O2 := Lib.hid (own_ballsAt how2)
            clear hfe how2 how hlt hk
            go_wp2_with fail
            refine (ints_same ys bs.length ya xa yc xc wr HYL.out (by omega) O2.out (XD.out.1.lo hB.out)).mono ?_
            rintro e we ⟨rfl, hg⟩
            have AE := WL.lo AD (hB.out.trans ((grown_belowN hg.out).mono hB.out.size))
            clear hg O2 b0 b1 b2 b3
            go_wp2_with fail
            refine (WAK.out _ (HT.out.below AE.out.bl HT.out.pos)).mono ?_
            rintro e wf ⟨rfl, hb⟩
            have BF := Lib.hid (AE.out.bl.trans (hb.mono AE.out.bl.size))
            clear hb
            go_wp2_with fail
            go_ret
            exact ⟨rfl, BF.out⟩
  · have hd : decide (rdE l bs = 0) = false := by simp [he]
    rw [hd] at RDY
    clear hd he
    unfold Lw.val at *
    go_enter Tryd.func12, Tryd.ntmps12
    go_wp2_with fail
    have A1 := WL.start w l
    generalize World.alloc w _ = w1 at A1 ⊢
    obtain ⟨k0, k1, k2, k3⟩ := WL.at A1
    go_wp2_with fail
    refine (RDY.out a c w1 (HS.out.1.lo A1.out.bl)).mono ?_
    rintro e w2 ⟨rfl, hb⟩
    have A2 := WL.lo A1 hb
    clear hb A1 k0 k1 k2 k3
    go_wp2_with fail
    refine (WAK.out _ (HT.out.below A2.out.bl HT.out.pos)).mono ?_
    rintro e w3 ⟨rfl, hb⟩
    have BF := Lib.hid (A2.out.bl.trans (hb.mono A2.out.bl.size))
    clear hb
    go_wp2_with fail
    go_ret
    exact ⟨rfl, BF.out⟩

end Go.Proofs.YtmjbidnlknmcgaaDoor
