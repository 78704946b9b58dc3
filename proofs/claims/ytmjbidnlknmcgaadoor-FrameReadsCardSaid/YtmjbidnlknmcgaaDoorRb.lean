/- The contract of the reference's Read. -/
import Derived.Test.YtmjbidnlknmcgaaDoorRa
import Derived.Test.YtmjbidnlknmcgaaDoorSa
set_option linter.unusedVariables false
set_option linter.unusedSimpArgs false
namespace Go.Proofs.YtmjbidnlknmcgaaDoor
open Go.RowKit

set_option maxRecDepth 100000 in
set_option maxHeartbeats 16000000 in
theorem read_ref (l : Lw) (bs : List Int) (a : Option Addr) (c : Nat) (w : World) (hs : BallsAt w a bs) (h : rdE l bs = 0) :
    Calls Tryd.prog 25 #[l.val, .slice a bs.length c] w fun e w' => ∃ fa fc qa qc, e = .returned (.agg #[.slice fa (rdN l bs) fc, .slice qa (rdM l bs).length qc, .int .i64 (rdS l bs), .bool (rdD l bs)]) ∧
      Hid (BallsAt w' qa (rdM l bs)) ∧ Hid (FR w' fa (rdN l bs) fc (rdF l bs)) ∧ Below w.heap.size w w' := by
  have CNT := Lib.hid (fun w hs => counts_ref l bs a c w hs h)
  have HS := Lib.hid hs
  have ok := (recS_ok h).1
  have OK := Lib.hid ok
  have hlen : bs.length ≤ 40 := (errS_zero (rdE_zero h).1).2
  have PLY := Lib.hid (fun w h => play_ref l bs a c w ok h (by omega))
  have hpf := play_fol l bs (rec0 l)
  have e0 : (rec0 l).s = begS l := rfl
  have e1 : (fol l (rec0 l) bs).1 = recS l bs := rfl
  have e2 := (rdE_zero h).2
  have hA0 := At.start ok e2
  rw [e2, e0, e1] at hpf
  rw [e1] at hA0
  have x1 : rdN l bs = (recS l bs).fs.length := by simp [rdN, h]
  have x2 : rdF l bs = (recS l bs).fs := by simp [rdF, h]
  have x3 : rdS l bs = (recS l bs).s.s := by simp [rdS, h]
  have x4 : rdD l bs = ((recS l bs).s.f == l.fr) := by simp [rdD, h]
  rw [x1, x2, x3, x4]
  rw [← hpf.2.1] at PLY
  obtain ⟨M, hM⟩ : ∃ M, rdM l bs = M := ⟨_, rfl⟩
  rw [hM] at CNT ⊢
  obtain ⟨m, hm⟩ : ∃ m, M.length = m := ⟨_, rfl⟩
  rw [hm] at CNT ⊢
  obtain ⟨R, hR⟩ : ∃ R, recS l bs = R := ⟨_, rfl⟩
  rw [hR] at PLY hA0 ⊢
  obtain ⟨P, hP⟩ : ∃ P, playL l (begS l) bs = P := ⟨_, rfl⟩
  rw [hP] at PLY hA0 hpf
  obtain ⟨n, hn⟩ : ∃ n, bs.length = n := ⟨_, rfl⟩
  rw [← hpf.1, hn] at PLY
  rw [hn] at CNT hlen ⊢
  have HPL : Hid (P.length = n) := Lib.hid (by rw [← hpf.1]; exact hn)
  obtain ⟨t, ht⟩ : ∃ t, refS l R.s = t := ⟨_, rfl⟩
  rw [ht] at PLY
  have htf : t.f = R.s.f := by
    rw [← ht]
    unfold refS
    split
    · rename_i e; rw [e]
    · rfl
  have htn : R.s.f ≠ l.fr → t.s = R.s.s := by
    intro hne
    rw [← ht]
    unfold refS
    rw [if_neg hne]
  have HA0 := Lib.hid hA0
  have HTF := Lib.hid htf
  have HTN := Lib.hid htn
  have HN := Lib.hid hn
  clear hs h ok e0 e1 e2 hpf hA0 x1 x2 x3 x4 hM hm hR hP hn ht htf htn
  unfold Lw.val St.val at *
  go_enter Tryd.func25, Tryd.ntmps25
  go_wp2_with fail
  have A1 := WL.al (WL.start w l) (.cells #[.slice none 0 0, .slice none 0 0, .int .i64 0, .bool false] 47)
  have G1 := Rgm.new1 w (.cells #[.int .i64 l.fr, .int .i64 l.pn, .int .i64 l.bl, .int .i64 l.tp] 23) (.slice none 0 0) (.slice none 0 0) 0 false
  generalize World.alloc (World.alloc w _) _ = w1 at A1 G1 ⊢
  obtain ⟨k0, k1, k2, k3⟩ := WL.at A1
  go_wp2_with fail
  refine (PLY.out w1 (HS.out.lo A1.out.bl)).mono ?_
  rintro e w2 ⟨v, rfl, ⟨pbase, ho, _⟩, hb⟩
  obtain ⟨gbo, gc, rfl⟩ := own2_len ho
  have A2 := WL.lo A1 hb
  have G2 := Rgm.lo G1 hb
  have hal := below_al w2 (.cells #[.int .i64 t.f, .int .i64 t.b, .int .i64 t.s, .bool t.set, .int .i64 t.has] 36)
  have A3 := WL.lo A2 hal
  have G3 := Rgm.lo G2 hal
  have T3 : Hid ((w2.alloc (.cells #[.int .i64 t.f, .int .i64 t.b, .int .i64 t.s, .bool t.set, .int .i64 t.has] 36)).heap[w2.heap.size]? = some (.cells #[.int .i64 t.f, .int .i64 t.b, .int .i64 t.s, .bool t.set, .int .i64 t.has] 36 (0, 0))) := Lib.hid (heap_alloc_new w2 _)
  have B3 := Lib.hid (fun (i : Nat) (p : Int × Int) (hp : P[i]? = some p) => (show ∃ g, gbo = some ⟨g, 0, none⟩ ∧ g < (w2.alloc (.cells #[.int .i64 t.f, .int .i64 t.b, .int .i64 t.s, .bool t.set, .int .i64 t.has] 36)).heap.size ∧ (w2.alloc (.cells #[.int .i64 t.f, .int .i64 t.b, .int .i64 t.s, .bool t.set, .int .i64 t.has] 36)).cell? ⟨g, i * 2, none⟩ = some (.int .i64 p.1) from by
    have hlt : 0 < n := by have h2 := (List.getElem?_eq_some_iff.1 hp).1; have h3 := HPL.out; omega
    obtain ⟨g, c', hv, hg1, _, _, hcell⟩ := own2_form ho hlt
    cases hv
    exact ⟨g, rfl, Nat.lt_of_lt_of_le hg1 hal.size, below_cell hal (hcell _ _ (ballC_at hp).1)⟩))
  clear hb ho hal A1 A2 k0 k1 k2 k3 PLY G1 G2
  go_wp2_with fail
  obtain ⟨b5, hb5⟩ : ∃ b5, w2.heap.size = b5 := ⟨_, rfl⟩
  rw [hb5] at T3 ⊢
  clear hb5
  generalize World.alloc w2 _ = w3 at A3 T3 B3 G3 ⊢
  have SP : Hid (∀ W, Hid (BL w3 W) → (W.cell? ⟨w.heap.size, 0, none⟩ = some (.int .i64 l.fr) ∧ W.cell? ⟨w.heap.size, 1, none⟩ = some (.int .i64 l.pn) ∧ W.cell? ⟨w.heap.size, 2, none⟩ = some (.int .i64 l.bl) ∧ W.cell? ⟨w.heap.size, 3, none⟩ = some (.int .i64 l.tp) ∧ W.cell? ⟨b5, 0, none⟩ = some (.int .i64 t.f))) := Lib.hid (fun W h => by
    obtain ⟨k0, k1, k2, k3⟩ := BL.law h A3
    have h1 := (h.out.b.block _ (lt_of_block T3.out)).trans T3.out
    exact ⟨k0, k1, k2, k3, by simp [World.cell?, h1]⟩)
  have CN : Hid (∀ W, BL w3 W → Calls Tryd.prog 49 #[.agg #[.int .i64 l.fr, .int .i64 l.pn, .int .i64 l.bl, .int .i64 l.tp], .slice a n c] W fun e w' => ∃ v, e = .returned v ∧ w'.ownsRow W.heap.size 3 1 v m (M.map (Value.int .i64)) ∧ Below W.heap.size W w') := Lib.hid (fun W h => CNT.out W (HS.out.lo (A3.out.bl.trans (h.b.mono A3.out.bl.size))))
  obtain ⟨D, hDe⟩ : ∃ D : Bool, (t.f == l.fr) = D := ⟨_, rfl⟩
  go_upto_region 2 with fail
  go_cut [7] (fun s7 wx => ∃ (g7 : Nat) (qa : Option Addr) (qc : Nat), s7 = .pointer (some ⟨g7, 0, none⟩) ∧ Hid (BL w3 wx) ∧ Hid (Rgm wx g7 (.slice none 0 0) (.slice qa m qc) 0 D) ∧ Hid (QF wx qa M w3.heap.size g7) ∧ Hid (w3.heap.size ≤ g7))
  case first =>
    have hd0 : w3.heap.size ≤ w3.heap.size := Nat.le_refl _
    clear hlen HA0 HTF HTN HN OK HS CNT A3 G3 T3 B3
    go_region_held3 (fun W => W.cell? ⟨w.heap.size, 0, none⟩ = some (.int .i64 l.fr) ∧ W.cell? ⟨w.heap.size, 1, none⟩ = some (.int .i64 l.pn) ∧ W.cell? ⟨w.heap.size, 2, none⟩ = some (.int .i64 l.bl) ∧ W.cell? ⟨w.heap.size, 3, none⟩ = some (.int .i64 l.tp) ∧ W.cell? ⟨b5, 0, none⟩ = some (.int .i64 t.f))
      (with_reducible first | exact SP.out _ (BL.dr (BL.start w3)) | exact SP.out _ (BL.dr (BL.al (BL.start w3) _)) | exact SP.out _ PA | exact SP.out _ (BL.al PA _) | exact SP.out _ (BL.put PA (by omega) _ _ _ _))
      (first
        | (go_at_call 49; (with_reducible refine (CN.out _ (BL.dr (BL.start w3)).out).mono ?_); rintro e wA ⟨v, rfl, ho, hb⟩; obtain ⟨qa, qc, rfl⟩ := own_len ho; have PA := BL.lo (BL.dr (BL.start w3)) hb; have QA := QF.of_own (b := wA.heap.size) ho (Nat.le_refl _) (.inr (Nat.le_refl _)); have hA := PA.out.b.size; clear hb ho)
        | (go_at_call 49; (with_reducible refine (CN.out _ (BL.dr (BL.al (BL.start w3) _)).out).mono ?_); rintro e wA ⟨v, rfl, ho, hb⟩; obtain ⟨qa, qc, rfl⟩ := own_len ho; have PA := BL.lo (BL.dr (BL.al (BL.start w3) _)) hb; have ZA := Rgm.lo (Rgm.dr (Rgm.new w3 _ _ _ _)) hb; have QA := QF.of_own (b := w3.heap.size) (lo := w3.heap.size) ho (by simp) (.inl (by simp)); have hA := PA.out.b.size; have hf := Rgm.fz ZA; obtain ⟨⟨d0, d1, d2, d3⟩, z0, z1, z2, z3⟩ := hf; clear hb ho))
    all_goals
      go_wp2_with fail
      go_meet
      first
        | exact ⟨_, qa, qc, rfl, BL.al PA _, Rgm.new wA _ _ _ _, QF.lo QA (below_al wA _), Lib.hid hA⟩
        | exact ⟨_, qa, qc, rfl, BL.put PA (by omega) _ _ _ _, Rgm.put ZA, QF.put QA _ _ _ _, Lib.hid (Nat.le_refl _)⟩
  case rest =>
    obtain ⟨g7, qa, qc, rfl, B4, G4, Q4, H7⟩ := hcut
    clear SP CN CNT
    generalize wc = w4 at B4 G4 Q4 ⊢
    have A4 := WL.lo A3 B4.out.b
    have GI0 := Lib.hid (GI.start (w := w) (B := w.heap.size) G4 (Nat.le_trans A3.out.bl.size H7.out) A4.out.bl)
    have hg74 := lt_of_block G4.out.blk
    have HG74 := Lib.hid hg74
    clear hg74
    go_wp2_with fail
    obtain ⟨base, hbase⟩ : ∃ base, w4.heap.size = base := ⟨_, rfl⟩
    rw [hbase] at GI0 HG74
    have HBS := Lib.hid hbase
    clear hbase
    go_loopg [8] n (fun g s8 wx => ∃ (i : Nat) (r : Rc) (fv : Value) (vs : List Value), i ≤ n ∧ g = n - i ∧ s8 = .int .i64 (i : Int) ∧ Hid (At l bs R P r i) ∧ Hid (GI w4 w wx w.heap.size base g7 (.slice qa m qc) 0 D fv vs r.fs))
    case atStart => exact ⟨0, _, _, _, by omega, rfl, rfl, HA0, GI0⟩
    case round =>
      obtain ⟨i, r, fv, vs, hi, rfl, rfl, hAt, hGI⟩ := hrel
      by_cases hlt : i < n
      · have hi0 : (0 : Int) ≤ (i : Int) := by omega
        have hi1 : (i : Int) < (n : Int) := by omega
        obtain ⟨k, hk⟩ : ∃ k, bs[i]? = some k := ⟨bs[i]'(by rw [HN.out]; exact hlt), List.getElem?_eq_getElem _⟩
        obtain ⟨hot, ⟨pc, hp⟩, hNx⟩ := hAt.out.next OK.out hk
        obtain ⟨hk0, hk1, hk2⟩ := okT_out hot
        obtain ⟨nf1, nf2, nf3, nf4⟩ := noteFs_len hAt.out.w
        have hwv := hAt.out.w.vd
        obtain ⟨f, hf⟩ : ∃ f : Nat, r.s.f = (f : Int) := ⟨r.s.f.toNat, by have := hwv.f1; omega⟩
        have hff : r.s.f.toNat = f := by omega
        have hf9 : f ≤ 9 := by have := hwv.f2; have := OK.out.f2; omega
        rw [hff] at nf1 nf2 nf3 nf4
        rw [hf] at hp
        obtain ⟨gb, rfl, hgb1, hcb3⟩ := B3.out i _ hp
        obtain ⟨ga, oa, rfl, hcs0⟩ := HS.out i k hk
        have hga := World.block_lt_of_cell? w _ hcs0
        simp only at hcb3 hga
        have hwb : w.heap.size ≤ w3.heap.size := A3.out.bl.size
        have hbb : w3.heap.size ≤ base := by have := B4.out.b.size; have := HBS.out; omega
        have hg7 := H7.out
        have hcb4 : w4.cell? ⟨gb, i * 2, none⟩ = some (.int .i64 (f : Int)) := below_cell B4.out.b hcb3
        have hcs4 : w4.cell? ⟨ga, oa + i, none⟩ = some (.int .i64 k) := below_cell A4.out.bl hcs0
        have HGB : Hid (gb < base ∧ gb ≠ g7) := Lib.hid ⟨by omega, by omega⟩
        have HGA : Hid (ga < base ∧ ga ≠ g7) := Lib.hid ⟨by omega, by omega⟩
        have HCB4 := Lib.hid hcb4
        have HCS4 := Lib.hid hcs4
        have HK := Lib.hid (And.intro hk1 (show k ≤ 10 by have := hwv.s2; have := OK.out.p2; omega))
        obtain ⟨r1, hr1⟩ : ∃ r1, noteR l r k = r1 := ⟨_, rfl⟩
        rw [hr1] at hNx
        have HNX := Lib.hid hNx
        have HFS1 : Hid (∀ zs, (noteFs r)[f]? = some zs → (noteFs r).set f (zs ++ [k]) = r1.fs) := Lib.hid (fun zs hz => by
          have h1 := note_fs l r k (zs := zs) (by rw [hff]; exact hz)
          rw [hff, hr1] at h1
          exact h1.symm)
        have HZL : Hid (∀ zs ∈ noteFs r, zs.length ≤ 100) := Lib.hid (fun zs hz => by
          have hh := hAt.out.w.zs
          unfold noteFs at hz
          split at hz
          · rcases List.mem_append.1 hz with hz | hz
            · have := hh zs hz; omega
            · simp at hz; subst hz; simp
          · have := hh zs hz; omega)
        obtain ⟨fa, fc, hfv⟩ := own_len hGI.out.outer
        subst hfv
        obtain ⟨N, hN⟩ : ∃ N, r.fs.length = N := ⟨_, rfl⟩
        have hvl := hGI.out.ln
        rw [hN] at hvl nf1 nf2 nf4
        rw [hvl] at hGI
        have c0 := hGI.out.c0
        have cb := hGI.out.cell HGB.out.1 HGB.out.2 hcb4
        obtain ⟨B1, hB1⟩ : ∃ B1 : Bool, Hid (decide (N ≤ f) = B1) := ⟨_, Lib.hid rfl⟩
        have hB2 : decide (N ≤ f) = B1 := hB1.out
        obtain ⟨FS, hFS⟩ : ∃ FS, noteFs r = FS := ⟨_, rfl⟩
        have NF1 : Hid (B1 = true → FS = r.fs ++ [[]]) := Lib.hid (fun e => by rw [← hFS]; exact nf1 (by rw [← hB1.out] at e; simpa using e))
        have NF2 : Hid (B1 = false → FS = r.fs) := Lib.hid (fun e => by rw [← hFS]; exact nf2 (by rw [← hB1.out] at e; simpa using e))
        rw [hFS] at HFS1 HZL nf3
        have HFL := Lib.hid nf3
        have HVN := Lib.hid hvl
        have hN20 : N ≤ 20 := by omega
        have W6 := Lib.hid hGI.out.dr
        have W5 := hGI
        clear hk hot hp hNx hk0 hk1 hk2 nf1 nf2 nf3 nf4 hwv hf hff hgb1 hcb3 hcs0 hga hwb hbb hg7 hcb4 hcs4 hr1 hN hvl hB1 hFS hAt HA0 HG74 hGI
        go_wp2
        go_still_tail 8, (by kernel_rfl)
        go_upto_if 38 with fail
        go_cut [] (fun wx => ∃ (fv : Value) (vs2 : List Value), Hid (GI w4 w wx w.heap.size base g7 (.slice qa m qc) 0 D fv vs2 FS))
        case first =>
          clear c0 cb
          have c0 := W6.out.c0
          have z0 := W6.out.free 0
          cases B1
          · go_wp2_with fail
            go_meet
            exact ⟨_, _, Lib.hid (by rw [NF2.out (by simp)]; exact W6.out)⟩
          · obtain ⟨i0, hi24, hz0, hz1, hz2⟩ := info_parts info24
            have hfo := W5.out.outer
            rw [HVN.out] at hfo
            have h5 : base ≤ wr.heap.size := W6.out.sz
            go_wp2_with (at_builtin; go_must (refine wpList_append_own_at _ rfl _ _ 41 rfl base 24 i0 (.slice none 0 0) 1 24 Tryd.underlying41 hi24 hz0 hz1 hz2 rfl (by decide) _ _ _ rfl ((own_al hfo _).drew) ⟨wr.heap.size, 0, none⟩ 1 1 [.slice none 0 0] rfl rfl (cell_one_new _ _ _) (by simp [Value.oneCell']) (by unfold maxLen; first | omega | (simp; omega)) (by first | omega | (simp; omega)) (by first | omega | (simp; omega)) ?_); intro v' w1x hown' hgrow hnil hloc; obtain ⟨g1, cap1, rfl⟩ := ownsRow_succ hown'; have hg1 := Lib.hid (grown_alloc_drew hgrow); have HO1 := Lib.hid (W5.out.open' hg1.out (by rw [HVN.out]; exact hown') (loc_open hloc)); have c0n := (W5.out.grow (p := (24, .slice fa N fc, vs)) (by simp [itemsG]) hg1.out).1; have z0n : w1x.frozen? ⟨g7, 0, none⟩ = false := (by simp [World.frozen?, c0n]); have c0m : w1x.cell? ⟨g7, 0, none⟩ = some (.slice fa N fc) := (by simp [World.cell?, c0n]); clear hown' hgrow hnil hloc c0n)
            go_meet
            exact ⟨_, _, Lib.hid (by rw [NF1.out (by simp)]; exact HO1.out)⟩
        case rest =>
          obtain ⟨fv2, vs2, HG2⟩ := hcut
          clear W5 W6 c0 cb NF1 NF2 hB2
          generalize wc = W2 at HG2 ⊢
          have hout := HG2.out.outer
          have hvl2 : vs2.length = f + 1 := by rw [HG2.out.ln]; exact HFL.out
          have HVL := Lib.hid hvl2
          obtain ⟨g1, cap1, hfv2, hgq1, hgq2, hgq3, hgq4⟩ := own_form hout (by omega)
          rw [hvl2] at hfv2
          subst hfv2
          have hcb : W2.cell? ⟨gb, i * 2, none⟩ = some (.int .i64 (f : Int)) := HG2.out.cell HGB.out.1 HGB.out.2 HCB4.out
          have hcs : W2.cell? ⟨ga, oa + i, none⟩ = some (.int .i64 k) := HG2.out.cell HGA.out.1 HGA.out.2 HCS4.out
          have HGB := Lib.hid HGB.out.1
          have HGA := Lib.hid HGA.out.1
          have hf0 : (0 : Int) ≤ (f : Int) := by omega
          have hf1 : (f : Int) < ((f + 1 : Nat) : Int) := by omega
          have hf2 : f < f + 1 := by omega
          have hf3 : (f : Int) < (f : Int) + 1 := by omega
          clear hout hvl2 hgq1 hgq2 hgq3 hgq4 HCB4 HCS4
          go_wp2_with fail
          obtain ⟨zs, hzs⟩ : ∃ zs, Hid (FS[f]? = some zs) := ⟨FS[f]'(by have := HFL.out; omega), Lib.hid (List.getElem?_eq_getElem _)⟩
          obtain ⟨vI, hvI⟩ : ∃ vI, Hid (vs2[f]? = some vI) := ⟨vs2[f]'(by have := HFL.out; have := HG2.out.ln; omega), Lib.hid (List.getElem?_eq_getElem _)⟩
          have hin := HG2.out.inner hvI.out hzs.out
          have hinm := HG2.out.inner_mem hvI.out hzs.out
          have hout := HG2.out.outer
          have hc0 := HG2.out.c0
          have cI : W2.cell? ⟨g1, f, none⟩ = some vI := own_cell (by rw [HVL.out] at hout; exact hout) f vI hvI.out
          have zI : W2.frozen? ⟨g1, f, none⟩ = false := own_free (by rw [HVL.out] at hout; exact hout) f
          have hzl : zs.length ≤ 100 := HZL.out zs (List.mem_of_getElem? hzs.out)
          obtain ⟨i3, hi3, hy0, hy1, hy2⟩ := info_parts info3
          have hgf : some g1 ≠ vI.ownBlock := HG2.out.row_ne hvI.out hzs.out
          have hg1b : base ≤ g1 ∧ g1 < W2.heap.size := hout.lt g1 rfl
          have hsz2 := HG2.out.sz
          obtain ⟨vA, WA, hrunA, hownA, hgrA, hnilA, hlocA⟩ := run_append_own_at (P := Tryd.prog) (w := (W2.alloc (.cells #[.int .i64 k] 3)).drew) base 24 24 3 i3 (.int .i64 0) 1 8 Tryd.underlying24 hi3 hy0 hy1 hy2 rfl (by omega) vI zs.length (zs.map (Value.int .i64)) ((own_al hin _).drew) ⟨W2.heap.size, 0, none⟩ 1 1 [.int .i64 k] rfl (World.news_of_block (cs := #[.int .i64 k]) (t := 3) (fr := (0, 0)) (heap_alloc_new W2 _)) (by simp [Value.oneCell']) (by unfold maxLen; omega) (by omega) (by simp; omega)
          obtain ⟨gA, capA, rfl⟩ := ownsRow_succ hownA
          have cA : WA.cell? ⟨g1, f, none⟩ = some vI := (hgrA.cell_far _ (by simp; omega) hgf).trans (cell_alloc_d cI _)
          have zA : WA.frozen? ⟨g1, f, none⟩ = false := (hgrA.frozen_far _ (by simp; omega) hgf).trans (frz_alloc cI zI _)
          have HR3 := Lib.hid (HG2.out.put (ys := zs ++ [k]) (vA := .slice (some ⟨gA, 0, none⟩) (zs.length + 1) capA) hvI.out hzs.out (grown_alloc_drew hgrA) (by simpa using hownA) (hlocA.imp id (fun e k hk => by rw [e] at hk; cases hk; simp)))
          clear hout
          obtain ⟨wf, hwf⟩ : ∃ wf : Array Bool → World, Hid (∀ L, wf L = if L.getD 23 false = true then WA.setCell ⟨g1, f, none⟩ (.slice (some ⟨gA, 0, none⟩) (zs.length + 1) capA) else if L.getD 21 false = true then WA else if L.getD 20 false = true then (W2.alloc (.cells #[.int .i64 k] 3)).drew else W2.drew) := ⟨_, Lib.hid (fun _ => rfl)⟩
          have FAR : ∀ (L : Array Bool) (p : Addr) (v : Value), p.block < base → W2.cell? p = some v → (wf L).cell? p = some v := fun L p v hp hc => by
            have hA : WA.cell? p = some v := (hgrA.cell_far _ (by have := HG2.out.sz; simp; omega) (fun e => by have := ((HG2.out.ow.own _ hinm).lt p.block e.symm).1; omega)).trans (cell_alloc_d hc _)
            rw [hwf.out]; split
            · rw [World.cell?_setCell_far _ _ _ _ (fun e => by have e : g1 = p.block := e; omega)]; exact hA
            · split
              · exact hA
              · split
                · exact cell_alloc_d hc _
                · exact hc
          have C0 : ∀ L, (wf L).cell? ⟨g7, 0, none⟩ = some (.slice (some ⟨g1, 0, none⟩) (f + 1) cap1) := fun L => FAR L _ _ HG2.out.hb hc0
          have CB : ∀ L, (wf L).cell? ⟨gb, i * 2, none⟩ = some (.int .i64 (f : Int)) := fun L => FAR L _ _ HGB.out hcb
          have CS : ∀ L, (wf L).cell? ⟨ga, oa + i, none⟩ = some (.int .i64 k) := fun L => FAR L _ _ HGA.out hcs
          have CI : ∀ L, L.getD 23 false = false → (wf L).cell? ⟨g1, f, none⟩ = some vI := fun L h => by
            rw [hwf.out, h, if_neg (by simp)]
            split
            · exact cA
            · split
              · exact cell_alloc_d cI _
              · exact cI
          have hsame : ∀ (L : Array Bool) (i : Nat), i ≠ 20 → i ≠ 21 → i ≠ 23 → wf (L.setIfInBounds i true) = wf L := fun L i h20 h21 h23 => by
            rw [hwf.out, hwf.out, getD_set_ne (Ne.symm h23), getD_set_ne (Ne.symm h21), getD_set_ne (Ne.symm h20)]
          refine wp_region_flow (val := fun qq => match qq with
            | 0 => .pointer (some ⟨g7, 0, none⟩)
            | 1 => .slice (some ⟨g1, 0, none⟩) (f + 1) cap1
            | 2 => .slice (some ⟨gb, 0, none⟩) n gc
            | 3 => .int .i64 (i : Int)
            | 4 => .pointer (some ⟨gb, i * 2, none⟩)
            | 5 => .pointer (some ⟨gb, i * 2, none⟩)
            | 6 => .int .i64 (f : Int)
            | 7 => .pointer (some ⟨g7, 0, none⟩)
            | 8 => .slice (some ⟨g1, 0, none⟩) (f + 1) cap1
            | 9 => .slice (some ⟨gb, 0, none⟩) n gc
            | 10 => .int .i64 (i : Int)
            | 11 => .pointer (some ⟨gb, i * 2, none⟩)
            | 12 => .pointer (some ⟨gb, i * 2, none⟩)
            | 13 => .int .i64 (f : Int)
            | 14 => .pointer (some ⟨g1, f, none⟩)
            | 15 => vI
            | 16 => .slice (some ⟨ga, oa, none⟩) n c
            | 17 => .int .i64 (i : Int)
            | 18 => .pointer (some ⟨ga, oa + i, none⟩)
            | 19 => .int .i64 k
            | 20 => .slice (some ⟨W2.heap.size, 0, none⟩) 1 1
            | 21 => .slice (some ⟨gA, 0, none⟩) (zs.length + 1) capA
            | 22 => .pointer (some ⟨g1, f, none⟩)
            | _ => undef) wf (by kernel_rfl) (by kernel_rfl) (by kernel_rfl) (by rw [hwf.out]; rfl) ?_ ?_
          · refine ⟨?_, ?_, ?_, ?_, ?_, ?_, ?_, ?_, ?_, ?_, ?_, ?_, ?_, ?_, ?_, ?_, ?_, ?_, ?_, ?_, ?_, ?_, ?_, ?_, trivial⟩
            · intro L a hLs hl hdep hc hfr K hK
              have et7 : a.tmps.getD 7 undef = .pointer (some ⟨g7, 0, none⟩) := hfr.evalBase 7 (by kernel_rfl)
              have ft7 : a.eval (.tmp 7) = .pointer (some ⟨g7, 0, none⟩) := hfr.evalBase 7 (by kernel_rfl)
              rw [hsame _ _ (by omega) (by omega) (by omega)] at hK
              generalize wf L = wL at hK ⊢
              clear hfr hc hdep hl ft7 C0 CB CS CI FAR hsame hwf hrunA hownA hgrA hnilA hlocA hc0 hcb hcs cI zI cA zA hin hi3 hy0 hy1 hy2
              go_simp
              exact hK
            · intro L a hLs hl hdep hc hfr K hK
              have gx0 : a.tmps[44]? = some (.pointer (some ⟨g7, 0, none⟩)) := hfr.got 0 _ 44 rfl rfl (hdep ⟨0, .data⟩ (by simp) rfl) (by simp)
              have e0 : a.tmps.getD 44 undef = .pointer (some ⟨g7, 0, none⟩) := hfr.eval 0 _ 44 rfl rfl (by simp) (hdep ⟨0, .data⟩ (by simp) rfl)
              have f0 : a.eval (.tmp 44) = .pointer (some ⟨g7, 0, none⟩) := hfr.eval 0 _ 44 rfl rfl (by simp) (hdep ⟨0, .data⟩ (by simp) rfl)
              have hcell := C0 L
              rw [hsame _ _ (by omega) (by omega) (by omega)] at hK
              generalize wf L = wL at hcell hK ⊢
              clear hfr hc hdep hl f0 C0 CB CS CI FAR hsame hwf hrunA hownA hgrA hnilA hlocA hc0 hcb hcs cI zI cA zA hin hi3 hy0 hy1 hy2
              go_simp
              exact hK
            · intro L a hLs hl hdep hc hfr K hK
              have et6 : a.tmps.getD 6 undef = .slice (some ⟨gb, 0, none⟩) n gc := hfr.evalBase 6 (by kernel_rfl)
              have ft6 : a.eval (.tmp 6) = .slice (some ⟨gb, 0, none⟩) n gc := hfr.evalBase 6 (by kernel_rfl)
              rw [hsame _ _ (by omega) (by omega) (by omega)] at hK
              generalize wf L = wL at hK ⊢
              clear hfr hc hdep hl ft6 C0 CB CS CI FAR hsame hwf hrunA hownA hgrA hnilA hlocA hc0 hcb hcs cI zI cA zA hin hi3 hy0 hy1 hy2
              go_simp
              exact hK
            · intro L a hLs hl hdep hc hfr K hK
              have et8 : a.tmps.getD 8 undef = .int .i64 (i : Int) := hfr.evalBase 8 (by kernel_rfl)
              have ft8 : a.eval (.tmp 8) = .int .i64 (i : Int) := hfr.evalBase 8 (by kernel_rfl)
              rw [hsame _ _ (by omega) (by omega) (by omega)] at hK
              generalize wf L = wL at hK ⊢
              clear hfr hc hdep hl ft8 C0 CB CS CI FAR hsame hwf hrunA hownA hgrA hnilA hlocA hc0 hcb hcs cI zI cA zA hin hi3 hy0 hy1 hy2
              go_simp
              exact hK
            · intro L a hLs hl hdep hc hfr K hK
              have gx2 : a.tmps[46]? = some (.slice (some ⟨gb, 0, none⟩) n gc) := hfr.got 2 _ 46 rfl rfl (hdep ⟨2, .data⟩ (by simp) rfl) (by simp)
              have e2 : a.tmps.getD 46 undef = .slice (some ⟨gb, 0, none⟩) n gc := hfr.eval 2 _ 46 rfl rfl (by simp) (hdep ⟨2, .data⟩ (by simp) rfl)
              have f2 : a.eval (.tmp 46) = .slice (some ⟨gb, 0, none⟩) n gc := hfr.eval 2 _ 46 rfl rfl (by simp) (hdep ⟨2, .data⟩ (by simp) rfl)
              have gx3 : a.tmps[47]? = some (.int .i64 (i : Int)) := hfr.got 3 _ 47 rfl rfl (hdep ⟨3, .data⟩ (by simp) rfl) (by simp)
              have e3 : a.tmps.getD 47 undef = .int .i64 (i : Int) := hfr.eval 3 _ 47 rfl rfl (by simp) (hdep ⟨3, .data⟩ (by simp) rfl)
              have f3 : a.eval (.tmp 47) = .int .i64 (i : Int) := hfr.eval 3 _ 47 rfl rfl (by simp) (hdep ⟨3, .data⟩ (by simp) rfl)
              rw [hsame _ _ (by omega) (by omega) (by omega)] at hK
              generalize wf L = wL at hK ⊢
              clear hfr hc hdep hl f2 f3 C0 CB CS CI FAR hsame hwf hrunA hownA hgrA hnilA hlocA hc0 hcb hcs cI zI cA zA hin hi3 hy0 hy1 hy2
              go_simp
              exact hK
            · intro L a hLs hl hdep hc hfr K hK
              have gx4 : a.tmps[48]? = some (.pointer (some ⟨gb, i * 2, none⟩)) := hfr.got 4 _ 48 rfl rfl (hdep ⟨4, .data⟩ (by simp) rfl) (by simp)
              have e4 : a.tmps.getD 48 undef = .pointer (some ⟨gb, i * 2, none⟩) := hfr.eval 4 _ 48 rfl rfl (by simp) (hdep ⟨4, .data⟩ (by simp) rfl)
              have f4 : a.eval (.tmp 48) = .pointer (some ⟨gb, i * 2, none⟩) := hfr.eval 4 _ 48 rfl rfl (by simp) (hdep ⟨4, .data⟩ (by simp) rfl)
              rw [hsame _ _ (by omega) (by omega) (by omega)] at hK
              generalize wf L = wL at hK ⊢
              clear hfr hc hdep hl f4 C0 CB CS CI FAR hsame hwf hrunA hownA hgrA hnilA hlocA hc0 hcb hcs cI zI cA zA hin hi3 hy0 hy1 hy2
              go_simp
              exact hK
            · intro L a hLs hl hdep hc hfr K hK
              have gx5 : a.tmps[49]? = some (.pointer (some ⟨gb, i * 2, none⟩)) := hfr.got 5 _ 49 rfl rfl (hdep ⟨5, .data⟩ (by simp) rfl) (by simp)
              have e5 : a.tmps.getD 49 undef = .pointer (some ⟨gb, i * 2, none⟩) := hfr.eval 5 _ 49 rfl rfl (by simp) (hdep ⟨5, .data⟩ (by simp) rfl)
              have f5 : a.eval (.tmp 49) = .pointer (some ⟨gb, i * 2, none⟩) := hfr.eval 5 _ 49 rfl rfl (by simp) (hdep ⟨5, .data⟩ (by simp) rfl)
              have hcell := CB L
              rw [hsame _ _ (by omega) (by omega) (by omega)] at hK
              generalize wf L = wL at hcell hK ⊢
              clear hfr hc hdep hl f5 C0 CB CS CI FAR hsame hwf hrunA hownA hgrA hnilA hlocA hc0 hcb hcs cI zI cA zA hin hi3 hy0 hy1 hy2
              go_simp
              exact hK
            · intro L a hLs hl hdep hc hfr K hK
              have et7 : a.tmps.getD 7 undef = .pointer (some ⟨g7, 0, none⟩) := hfr.evalBase 7 (by kernel_rfl)
              have ft7 : a.eval (.tmp 7) = .pointer (some ⟨g7, 0, none⟩) := hfr.evalBase 7 (by kernel_rfl)
              rw [hsame _ _ (by omega) (by omega) (by omega)] at hK
              generalize wf L = wL at hK ⊢
              clear hfr hc hdep hl ft7 C0 CB CS CI FAR hsame hwf hrunA hownA hgrA hnilA hlocA hc0 hcb hcs cI zI cA zA hin hi3 hy0 hy1 hy2
              go_simp
              exact hK
            · intro L a hLs hl hdep hc hfr K hK
              have gx7 : a.tmps[51]? = some (.pointer (some ⟨g7, 0, none⟩)) := hfr.got 7 _ 51 rfl rfl (hdep ⟨7, .data⟩ (by simp) rfl) (by simp)
              have e7 : a.tmps.getD 51 undef = .pointer (some ⟨g7, 0, none⟩) := hfr.eval 7 _ 51 rfl rfl (by simp) (hdep ⟨7, .data⟩ (by simp) rfl)
              have f7 : a.eval (.tmp 51) = .pointer (some ⟨g7, 0, none⟩) := hfr.eval 7 _ 51 rfl rfl (by simp) (hdep ⟨7, .data⟩ (by simp) rfl)
              have hcell := C0 L
              rw [hsame _ _ (by omega) (by omega) (by omega)] at hK
              generalize wf L = wL at hcell hK ⊢
              clear hfr hc hdep hl f7 C0 CB CS CI FAR hsame hwf hrunA hownA hgrA hnilA hlocA hc0 hcb hcs cI zI cA zA hin hi3 hy0 hy1 hy2
              go_simp
              exact hK
            · intro L a hLs hl hdep hc hfr K hK
              have et6 : a.tmps.getD 6 undef = .slice (some ⟨gb, 0, none⟩) n gc := hfr.evalBase 6 (by kernel_rfl)
              have ft6 : a.eval (.tmp 6) = .slice (some ⟨gb, 0, none⟩) n gc := hfr.evalBase 6 (by kernel_rfl)
              rw [hsame _ _ (by omega) (by omega) (by omega)] at hK
              generalize wf L = wL at hK ⊢
              clear hfr hc hdep hl ft6 C0 CB CS CI FAR hsame hwf hrunA hownA hgrA hnilA hlocA hc0 hcb hcs cI zI cA zA hin hi3 hy0 hy1 hy2
              go_simp
              exact hK
            · intro L a hLs hl hdep hc hfr K hK
              have et8 : a.tmps.getD 8 undef = .int .i64 (i : Int) := hfr.evalBase 8 (by kernel_rfl)
              have ft8 : a.eval (.tmp 8) = .int .i64 (i : Int) := hfr.evalBase 8 (by kernel_rfl)
              rw [hsame _ _ (by omega) (by omega) (by omega)] at hK
              generalize wf L = wL at hK ⊢
              clear hfr hc hdep hl ft8 C0 CB CS CI FAR hsame hwf hrunA hownA hgrA hnilA hlocA hc0 hcb hcs cI zI cA zA hin hi3 hy0 hy1 hy2
              go_simp
              exact hK
            · intro L a hLs hl hdep hc hfr K hK
              have gx9 : a.tmps[53]? = some (.slice (some ⟨gb, 0, none⟩) n gc) := hfr.got 9 _ 53 rfl rfl (hdep ⟨9, .data⟩ (by simp) rfl) (by simp)
              have e9 : a.tmps.getD 53 undef = .slice (some ⟨gb, 0, none⟩) n gc := hfr.eval 9 _ 53 rfl rfl (by simp) (hdep ⟨9, .data⟩ (by simp) rfl)
              have f9 : a.eval (.tmp 53) = .slice (some ⟨gb, 0, none⟩) n gc := hfr.eval 9 _ 53 rfl rfl (by simp) (hdep ⟨9, .data⟩ (by simp) rfl)
              have gx10 : a.tmps[54]? = some (.int .i64 (i : Int)) := hfr.got 10 _ 54 rfl rfl (hdep ⟨10, .data⟩ (by simp) rfl) (by simp)
              have e10 : a.tmps.getD 54 undef = .int .i64 (i : Int) := hfr.eval 10 _ 54 rfl rfl (by simp) (hdep ⟨10, .data⟩ (by simp) rfl)
              have f10 : a.eval (.tmp 54) = .int .i64 (i : Int) := hfr.eval 10 _ 54 rfl rfl (by simp) (hdep ⟨10, .data⟩ (by simp) rfl)
              rw [hsame _ _ (by omega) (by omega) (by omega)] at hK
              generalize wf L = wL at hK ⊢
              clear hfr hc hdep hl f9 f10 C0 CB CS CI FAR hsame hwf hrunA hownA hgrA hnilA hlocA hc0 hcb hcs cI zI cA zA hin hi3 hy0 hy1 hy2
              go_simp
              exact hK
            · intro L a hLs hl hdep hc hfr K hK
              have gx11 : a.tmps[55]? = some (.pointer (some ⟨gb, i * 2, none⟩)) := hfr.got 11 _ 55 rfl rfl (hdep ⟨11, .data⟩ (by simp) rfl) (by simp)
              have e11 : a.tmps.getD 55 undef = .pointer (some ⟨gb, i * 2, none⟩) := hfr.eval 11 _ 55 rfl rfl (by simp) (hdep ⟨11, .data⟩ (by simp) rfl)
              have f11 : a.eval (.tmp 55) = .pointer (some ⟨gb, i * 2, none⟩) := hfr.eval 11 _ 55 rfl rfl (by simp) (hdep ⟨11, .data⟩ (by simp) rfl)
              rw [hsame _ _ (by omega) (by omega) (by omega)] at hK
              generalize wf L = wL at hK ⊢
              clear hfr hc hdep hl f11 C0 CB CS CI FAR hsame hwf hrunA hownA hgrA hnilA hlocA hc0 hcb hcs cI zI cA zA hin hi3 hy0 hy1 hy2
              go_simp
              exact hK
            · intro L a hLs hl hdep hc hfr K hK
              have gx12 : a.tmps[56]? = some (.pointer (some ⟨gb, i * 2, none⟩)) := hfr.got 12 _ 56 rfl rfl (hdep ⟨12, .data⟩ (by simp) rfl) (by simp)
              have e12 : a.tmps.getD 56 undef = .pointer (some ⟨gb, i * 2, none⟩) := hfr.eval 12 _ 56 rfl rfl (by simp) (hdep ⟨12, .data⟩ (by simp) rfl)
              have f12 : a.eval (.tmp 56) = .pointer (some ⟨gb, i * 2, none⟩) := hfr.eval 12 _ 56 rfl rfl (by simp) (hdep ⟨12, .data⟩ (by simp) rfl)
              have hcell := CB L
              rw [hsame _ _ (by omega) (by omega) (by omega)] at hK
              generalize wf L = wL at hcell hK ⊢
              clear hfr hc hdep hl f12 C0 CB CS CI FAR hsame hwf hrunA hownA hgrA hnilA hlocA hc0 hcb hcs cI zI cA zA hin hi3 hy0 hy1 hy2
              go_simp
              exact hK
            · intro L a hLs hl hdep hc hfr K hK
              have gx8 : a.tmps[52]? = some (.slice (some ⟨g1, 0, none⟩) (f + 1) cap1) := hfr.got 8 _ 52 rfl rfl (hdep ⟨8, .data⟩ (by simp) rfl) (by simp)
              have e8 : a.tmps.getD 52 undef = .slice (some ⟨g1, 0, none⟩) (f + 1) cap1 := hfr.eval 8 _ 52 rfl rfl (by simp) (hdep ⟨8, .data⟩ (by simp) rfl)
              have f8 : a.eval (.tmp 52) = .slice (some ⟨g1, 0, none⟩) (f + 1) cap1 := hfr.eval 8 _ 52 rfl rfl (by simp) (hdep ⟨8, .data⟩ (by simp) rfl)
              have gx13 : a.tmps[57]? = some (.int .i64 (f : Int)) := hfr.got 13 _ 57 rfl rfl (hdep ⟨13, .data⟩ (by simp) rfl) (by simp)
              have e13 : a.tmps.getD 57 undef = .int .i64 (f : Int) := hfr.eval 13 _ 57 rfl rfl (by simp) (hdep ⟨13, .data⟩ (by simp) rfl)
              have f13 : a.eval (.tmp 57) = .int .i64 (f : Int) := hfr.eval 13 _ 57 rfl rfl (by simp) (hdep ⟨13, .data⟩ (by simp) rfl)
              rw [hsame _ _ (by omega) (by omega) (by omega)] at hK
              generalize wf L = wL at hK ⊢
              clear hfr hc hdep hl f8 f13 C0 CB CS CI FAR hsame hwf hrunA hownA hgrA hnilA hlocA hc0 hcb hcs cI zI cA zA hin hi3 hy0 hy1 hy2
              go_simp
              exact hK
            · intro L a hLs hl hdep hc hfr K hK
              have gx14 : a.tmps[58]? = some (.pointer (some ⟨g1, f, none⟩)) := hfr.got 14 _ 58 rfl rfl (hdep ⟨14, .data⟩ (by simp) rfl) (by simp)
              have e14 : a.tmps.getD 58 undef = .pointer (some ⟨g1, f, none⟩) := hfr.eval 14 _ 58 rfl rfl (by simp) (hdep ⟨14, .data⟩ (by simp) rfl)
              have f14 : a.eval (.tmp 58) = .pointer (some ⟨g1, f, none⟩) := hfr.eval 14 _ 58 rfl rfl (by simp) (hdep ⟨14, .data⟩ (by simp) rfl)
              have hno : L.getD 23 false = false := not_later hc hl 23 _ rfl ⟨15, .phase⟩ (by simp) rfl
              have hcell := CI L hno
              clear hno
              rw [hsame _ _ (by omega) (by omega) (by omega)] at hK
              generalize wf L = wL at hcell hK ⊢
              clear hfr hc hdep hl f14 C0 CB CS CI FAR hsame hwf hrunA hownA hgrA hnilA hlocA hc0 hcb hcs cI zI cA zA hin hi3 hy0 hy1 hy2
              go_simp
              exact hK
            · intro L a hLs hl hdep hc hfr K hK
              have et1 : a.tmps.getD 1 undef = .slice (some ⟨ga, oa, none⟩) n c := hfr.evalBase 1 (by kernel_rfl)
              have ft1 : a.eval (.tmp 1) = .slice (some ⟨ga, oa, none⟩) n c := hfr.evalBase 1 (by kernel_rfl)
              rw [hsame _ _ (by omega) (by omega) (by omega)] at hK
              generalize wf L = wL at hK ⊢
              clear hfr hc hdep hl ft1 C0 CB CS CI FAR hsame hwf hrunA hownA hgrA hnilA hlocA hc0 hcb hcs cI zI cA zA hin hi3 hy0 hy1 hy2
              go_simp
              exact hK
            · intro L a hLs hl hdep hc hfr K hK
              have et8 : a.tmps.getD 8 undef = .int .i64 (i : Int) := hfr.evalBase 8 (by kernel_rfl)
              have ft8 : a.eval (.tmp 8) = .int .i64 (i : Int) := hfr.evalBase 8 (by kernel_rfl)
              rw [hsame _ _ (by omega) (by omega) (by omega)] at hK
              generalize wf L = wL at hK ⊢
              clear hfr hc hdep hl ft8 C0 CB CS CI FAR hsame hwf hrunA hownA hgrA hnilA hlocA hc0 hcb hcs cI zI cA zA hin hi3 hy0 hy1 hy2
              go_simp
              exact hK
            · intro L a hLs hl hdep hc hfr K hK
              have gx16 : a.tmps[60]? = some (.slice (some ⟨ga, oa, none⟩) n c) := hfr.got 16 _ 60 rfl rfl (hdep ⟨16, .data⟩ (by simp) rfl) (by simp)
              have e16 : a.tmps.getD 60 undef = .slice (some ⟨ga, oa, none⟩) n c := hfr.eval 16 _ 60 rfl rfl (by simp) (hdep ⟨16, .data⟩ (by simp) rfl)
              have f16 : a.eval (.tmp 60) = .slice (some ⟨ga, oa, none⟩) n c := hfr.eval 16 _ 60 rfl rfl (by simp) (hdep ⟨16, .data⟩ (by simp) rfl)
              have gx17 : a.tmps[61]? = some (.int .i64 (i : Int)) := hfr.got 17 _ 61 rfl rfl (hdep ⟨17, .data⟩ (by simp) rfl) (by simp)
              have e17 : a.tmps.getD 61 undef = .int .i64 (i : Int) := hfr.eval 17 _ 61 rfl rfl (by simp) (hdep ⟨17, .data⟩ (by simp) rfl)
              have f17 : a.eval (.tmp 61) = .int .i64 (i : Int) := hfr.eval 17 _ 61 rfl rfl (by simp) (hdep ⟨17, .data⟩ (by simp) rfl)
              rw [hsame _ _ (by omega) (by omega) (by omega)] at hK
              generalize wf L = wL at hK ⊢
              clear hfr hc hdep hl f16 f17 C0 CB CS CI FAR hsame hwf hrunA hownA hgrA hnilA hlocA hc0 hcb hcs cI zI cA zA hin hi3 hy0 hy1 hy2
              go_simp
              exact hK
            · intro L a hLs hl hdep hc hfr K hK
              have gx18 : a.tmps[62]? = some (.pointer (some ⟨ga, oa + i, none⟩)) := hfr.got 18 _ 62 rfl rfl (hdep ⟨18, .data⟩ (by simp) rfl) (by simp)
              have e18 : a.tmps.getD 62 undef = .pointer (some ⟨ga, oa + i, none⟩) := hfr.eval 18 _ 62 rfl rfl (by simp) (hdep ⟨18, .data⟩ (by simp) rfl)
              have f18 : a.eval (.tmp 62) = .pointer (some ⟨ga, oa + i, none⟩) := hfr.eval 18 _ 62 rfl rfl (by simp) (hdep ⟨18, .data⟩ (by simp) rfl)
              have hcell := CS L
              rw [hsame _ _ (by omega) (by omega) (by omega)] at hK
              generalize wf L = wL at hcell hK ⊢
              clear hfr hc hdep hl f18 C0 CB CS CI FAR hsame hwf hrunA hownA hgrA hnilA hlocA hc0 hcb hcs cI zI cA zA hin hi3 hy0 hy1 hy2
              go_simp
              exact hK
            · intro L a hLs hl hdep hc hfr K hK
              have gx19 : a.tmps[63]? = some (.int .i64 k) := hfr.got 19 _ 63 rfl rfl (hdep ⟨19, .data⟩ (by simp) rfl) (by simp)
              have e19 : a.tmps.getD 63 undef = .int .i64 k := hfr.eval 19 _ 63 rfl rfl (by simp) (hdep ⟨19, .data⟩ (by simp) rfl)
              have f19 : a.eval (.tmp 63) = .int .i64 k := hfr.eval 19 _ 63 rfl rfl (by simp) (hdep ⟨19, .data⟩ (by simp) rfl)
              have hA1 : L.getD 21 false = false := not_later hc hl 21 _ rfl ⟨20, .data⟩ (by simp) rfl
              have hA2 : L.getD 23 false = false := not_later hc hl 23 _ rfl ⟨20, .phase⟩ (by simp) rfl
              have w1' : wf L = W2.drew := by rw [hwf.out, hA2, hA1, hl]; rfl
              have w2' : wf (L.setIfInBounds 20 true) = (W2.alloc (.cells #[.int .i64 k] 3)).drew := by
                rw [hwf.out, getD_set_ne (by omega), getD_set_ne (by omega), hA2, hA1, getD_set_self]
                · rfl
                · exact (by rw [hLs]; simp)
              rw [w1']
              rw [w2'] at hK
              clear hfr hc hdep hl w1' w2' hA1 hA2 C0 CB CS CI FAR hsame hwf hrunA hownA hgrA hnilA hlocA hc0 hcb hcs cI zI cA zA hin hi3 hy0 hy1 hy2 f19
              go_simp
              exact hK
            · intro L a hLs hl hdep hc hfr K hK
              have gx15 : a.tmps[59]? = some (vI) := hfr.got 15 _ 59 rfl rfl (hdep ⟨15, .data⟩ (by simp) rfl) (by simp)
              have e15 : a.tmps.getD 59 undef = vI := hfr.eval 15 _ 59 rfl rfl (by simp) (hdep ⟨15, .data⟩ (by simp) rfl)
              have f15 : a.eval (.tmp 59) = vI := hfr.eval 15 _ 59 rfl rfl (by simp) (hdep ⟨15, .data⟩ (by simp) rfl)
              have gx20 : a.tmps[64]? = some (.slice (some ⟨W2.heap.size, 0, none⟩) 1 1) := hfr.got 20 _ 64 rfl rfl (hdep ⟨20, .data⟩ (by simp) rfl) (by simp)
              have e20 : a.tmps.getD 64 undef = .slice (some ⟨W2.heap.size, 0, none⟩) 1 1 := hfr.eval 20 _ 64 rfl rfl (by simp) (hdep ⟨20, .data⟩ (by simp) rfl)
              have f20 : a.eval (.tmp 64) = .slice (some ⟨W2.heap.size, 0, none⟩) 1 1 := hfr.eval 20 _ 64 rfl rfl (by simp) (hdep ⟨20, .data⟩ (by simp) rfl)
              have h23 := hdep ⟨20, .data⟩ (by simp) rfl
              have h26 : L.getD 23 false = false := not_later hc hl 23 _ rfl ⟨21, .data⟩ (by simp) rfl
              have w1' : wf L = (W2.alloc (.cells #[.int .i64 k] 3)).drew := by rw [hwf.out, h26, hl, h23]; rfl
              have w2' : wf (L.setIfInBounds 21 true) = WA := by
                rw [hwf.out, getD_set_ne (by omega), h26, getD_set_self]
                · rfl
                · exact (by rw [hLs]; simp)
              rw [w1']
              rw [w2'] at hK
              rw [if_pos (by simp [Region.wanted])]
              unfold Oper.wp execOp
              simp only [resolve, invoke, builtin, Sem.run_bind, Sem.run_pure, Result.andThen_ok, List.map_toArray, List.map_cons, List.map_nil, f15, f20, hrunA]
              exact hK
            · intro L a hLs hl hdep hc hfr K hK
              have gx1 : a.tmps[45]? = some (.slice (some ⟨g1, 0, none⟩) (f + 1) cap1) := hfr.got 1 _ 45 rfl rfl (hdep ⟨1, .data⟩ (by simp) rfl) (by simp)
              have e1 : a.tmps.getD 45 undef = .slice (some ⟨g1, 0, none⟩) (f + 1) cap1 := hfr.eval 1 _ 45 rfl rfl (by simp) (hdep ⟨1, .data⟩ (by simp) rfl)
              have f1 : a.eval (.tmp 45) = .slice (some ⟨g1, 0, none⟩) (f + 1) cap1 := hfr.eval 1 _ 45 rfl rfl (by simp) (hdep ⟨1, .data⟩ (by simp) rfl)
              have gx6 : a.tmps[50]? = some (.int .i64 (f : Int)) := hfr.got 6 _ 50 rfl rfl (hdep ⟨6, .data⟩ (by simp) rfl) (by simp)
              have e6 : a.tmps.getD 50 undef = .int .i64 (f : Int) := hfr.eval 6 _ 50 rfl rfl (by simp) (hdep ⟨6, .data⟩ (by simp) rfl)
              have f6 : a.eval (.tmp 50) = .int .i64 (f : Int) := hfr.eval 6 _ 50 rfl rfl (by simp) (hdep ⟨6, .data⟩ (by simp) rfl)
              rw [hsame _ _ (by omega) (by omega) (by omega)] at hK
              generalize wf L = wL at hK ⊢
              clear hfr hc hdep hl f1 f6 C0 CB CS CI FAR hsame hwf hrunA hownA hgrA hnilA hlocA hc0 hcb hcs cI zI cA zA hin hi3 hy0 hy1 hy2
              go_simp
              exact hK
            · intro L a hLs hl hdep hc hfr K hK
              have gx22 : a.tmps[66]? = some (.pointer (some ⟨g1, f, none⟩)) := hfr.got 22 _ 66 rfl rfl (hdep ⟨22, .data⟩ (by simp) rfl) (by simp)
              have e22 : a.tmps.getD 66 undef = .pointer (some ⟨g1, f, none⟩) := hfr.eval 22 _ 66 rfl rfl (by simp) (hdep ⟨22, .data⟩ (by simp) rfl)
              have f22 : a.eval (.tmp 66) = .pointer (some ⟨g1, f, none⟩) := hfr.eval 22 _ 66 rfl rfl (by simp) (hdep ⟨22, .data⟩ (by simp) rfl)
              have gx21 : a.tmps[65]? = some (.slice (some ⟨gA, 0, none⟩) (zs.length + 1) capA) := hfr.got 21 _ 65 rfl rfl (hdep ⟨21, .data⟩ (by simp) rfl) (by simp)
              have e21 : a.tmps.getD 65 undef = .slice (some ⟨gA, 0, none⟩) (zs.length + 1) capA := hfr.eval 21 _ 65 rfl rfl (by simp) (hdep ⟨21, .data⟩ (by simp) rfl)
              have f21 : a.eval (.tmp 65) = .slice (some ⟨gA, 0, none⟩) (zs.length + 1) capA := hfr.eval 21 _ 65 rfl rfl (by simp) (hdep ⟨21, .data⟩ (by simp) rfl)
              have h24 := hdep ⟨21, .data⟩ (by simp) rfl
              have w1' : wf L = WA := by rw [hwf.out, hl, h24]; rfl
              have w2' : wf (L.setIfInBounds 23 true) = WA.setCell ⟨g1, f, none⟩ (.slice (some ⟨gA, 0, none⟩) (zs.length + 1) capA) := by
                rw [hwf.out, getD_set_self]
                · rfl
                · exact (by rw [hLs]; simp)
              rw [w1']
              rw [w2'] at hK
              clear hfr hc hdep hl w1' w2' h24 C0 CB CS CI FAR hsame hwf hrunA hownA hgrA hnilA hlocA hc0 hcb hcs cI zI hin hi3 hy0 hy1 hy2 f22 f21
              go_simp
              exact hK
          · intro L hall
            have hlast := hall 23 (by simp)
            rw [hwf.out, hlast, if_pos rfl]
            simp only [finA, Act.put, List.setIfInBounds_toArray, List.set_cons_zero, List.set_cons_succ]
            clear hrunA hownA hgrA hnilA hlocA hc0 hcb hcs cI zI cA zA hin hi3 hy0 hy1 hy2 FAR C0 CB CS CI hsame hwf hall hlast
            generalize World.setCell WA _ _ = W4 at HR3 ⊢
            go_wp2_with fail
            go_roundg (n - (i + 1))
            case measure => omega
            case rel => exact ⟨i + 1, r1, _, _, by omega, rfl, by simp, HNX, Lib.hid (by rw [HFS1.out _ hzs.out] at *; exact HR3.out)⟩
      · have hie : i = n := by omega
        subst hie
        have hi1 : ¬ (i : Int) < (i : Int) := by omega
        have hrR : r = R := by
          have h1 := hAt.out
          rw [← HN.out] at h1
          exact h1.last
        have hd := hAt.out.d
        have hfr7 := hGI.out
        rw [hrR] at hd hfr7
        have HDN := Lib.hid hd
        have HG7 := Lib.hid hfr7
        have hrb : w.heap.size + 1 < base ∧ w.heap.size + 1 ≠ g7 := by
          have h1 := lt_of_block G3.out.blk
          have h2 := H7.out
          have h3 := B4.out.b.size
          have h4 := HBS.out
          omega
        have HRB := Lib.hid hrb
        have hDD : D = (R.s.f == l.fr) := by rw [← hDe, HTF.out]
        have HDD := Lib.hid hDD
        have hb5b : b5 < base ∧ b5 ≠ g7 := by
          have h1 := lt_of_block T3.out
          have h2 := H7.out
          have h3 := B4.out.b.size
          have h4 := HBS.out
          omega
        have ct4 : w4.cell? ⟨b5, 2, none⟩ = some (.int .i64 t.s) := by
          have h1 := (B4.out.b.block _ (lt_of_block T3.out)).trans T3.out
          simp [World.cell?, h1]
        have ct := HG7.out.cell (p := ⟨b5, 2, none⟩) hb5b.1 hb5b.2 ct4
        have z2 := HG7.out.free 2
        have c3 := HG7.out.c3
        clear hfr7 hrR hd hDD ct4 hGI hAt HA0 hDe
        go_upto_if 69 with fail
        go_cut [] (fun wx => Hid (GI w4 w wx w.heap.size base g7 (.slice qa m qc) R.s.s D fv vs R.fs))
        case first =>
          have c2 := HG7.out.c2
          cases D
          · have hts : t.s = R.s.s := HTN.out (fun e => by have := HDD.out; rw [e] at this; simp at this)
            rw [hts] at ct
            clear hts
            go_wp2_with fail
            go_meet
            exact Lib.hid (HG7.out.set2 _)
          · have h0 : R.s.s = 0 := HDN.out (by have := HDD.out; simpa using this.symm)
            have H0 := Lib.hid h0
            clear h0
            go_wp2_with fail
            go_meet
            exact Lib.hid (by rw [H0.out]; exact HG7.out)
        case rest =>
          have HG8 := hcut
          clear hcut HG7 c3 z2 ct
          generalize wc = w8 at HG8 ⊢
          have RG8 : Hid (Rgm w8 (w.heap.size + 1) (.slice none 0 0) (.slice none 0 0) 0 false) := Lib.hid ⟨(HG8.out.far _ HRB.out.1 HRB.out.2).trans ((B4.out.b.block _ (lt_of_block G3.out.blk)).trans G3.out.blk)⟩
          have HQ : Hid (∀ i v, M[i]? = some v → ∃ g, qa = some ⟨g, 0, none⟩ ∧ w8.cell? ⟨g, i, none⟩ = some (.int .i64 v) ∧ w.heap.size + 1 ≠ g) := Lib.hid (fun i v hv => by
            obtain ⟨g, h1, h2, h3, h4⟩ := Q4.out.q i v hv
            have h5 := World.block_lt_of_cell? w4 _ h2
            have h6 := HBS.out
            have h7 := lt_of_block G3.out.blk
            simp only at h5
            exact ⟨g, h1, HG8.out.cell (p := ⟨g, i, none⟩) (by show g < base; omega) h3 h2, by omega⟩)
          obtain ⟨fa, fc, hfv⟩ := own_len HG8.out.outer
          rw [HG8.out.ln] at hfv
          subst hfv
          have c0 := HG8.out.c0
          have c1 := HG8.out.c1
          have c2 := HG8.out.c2
          have c3 := HG8.out.c3
          obtain ⟨⟨d0, d1, d2, d3⟩, z0, z1, z2, z3⟩ := Rgm.fz RG8
          clear hb5b hrb hi1 hi
          go_wp2_with fail
          have RP := Rgm.put (fv' := .slice fa R.fs.length fc) (qv' := .slice qa m qc) (st' := R.s.s) (dn' := D) RG8
          have FP := Lib.hid (HG8.out.done HRB.out.1 (.slice fa R.fs.length fc) (.slice qa m qc) (.int .i64 R.s.s) (.bool D)).2
          have BP := Lib.hid ((((HG8.out.bl.setCell (p := ⟨w.heap.size + 1, 0, none⟩) (Nat.le_succ _) (.slice fa R.fs.length fc)).setCell (p := ⟨w.heap.size + 1, 1, none⟩) (Nat.le_succ _) (.slice qa m qc)).setCell (p := ⟨w.heap.size + 1, 2, none⟩) (Nat.le_succ _) (.int .i64 R.s.s)).setCell (p := ⟨w.heap.size + 1, 3, none⟩) (Nat.le_succ _) (.bool D))
          have QP : Hid (BallsAt ((((w8.setCell ⟨w.heap.size + 1, 0, none⟩ (.slice fa R.fs.length fc)).setCell ⟨w.heap.size + 1, 1, none⟩ (.slice qa m qc)).setCell ⟨w.heap.size + 1, 2, none⟩ (.int .i64 R.s.s)).setCell ⟨w.heap.size + 1, 3, none⟩ (.bool D)) qa M) := Lib.hid (fun i v hv => by
            obtain ⟨g, h1, h2, h3⟩ := HQ.out i v hv
            refine ⟨g, 0, h1, ?_⟩
            rw [Nat.zero_add, World.cell?_setCell_far _ _ _ _ h3, World.cell?_setCell_far _ _ _ _ h3, World.cell?_setCell_far _ _ _ _ h3, World.cell?_setCell_far _ _ _ _ h3]
            exact h2)
          clear c0 c1 c2 c3 d0 d1 d2 d3 z0 z1 z2 z3 RG8 HQ HG8
          generalize World.setCell _ _ _ = W9 at RP FP BP QP ⊢
          obtain ⟨⟨c0, c1, c2, c3⟩, -⟩ := Rgm.fz RP
          refine bodyPost_ret (v := .agg #[.slice fa R.fs.length fc, .slice qa m qc, .int .i64 R.s.s, .bool D]) (by simp [results, Tryd.results25, go_sem, c0, c1, c2, c3]) rfl ?_
          exact ⟨fa, fc, qa, qc, by rw [HDD.out], QP, FP, BP.out⟩

end Go.Proofs.YtmjbidnlknmcgaaDoor
