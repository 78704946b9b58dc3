/- The contract of Ended: a sheet that is a game's, with an ending by words. -/
import Derived.Test.YtmjbidnlknmcgabDoorDr
import Derived.Test.YtmjbidnlknmcgabDoorFf
set_option linter.unusedVariables false
set_option linter.unusedSimpArgs false
namespace Go.Proofs.YtmjbidnlknmcgabDoor
open Go.RowKit

theorem fol_mu {l : Lw} (ok : l.Ok) : ∀ (bs : List Int) (r : Rc) (i : Nat), RcW l r i → (fol l r bs).2 + mu l (fol l r bs).1.s ≤ mu l r.s
  | [], r, i, h => by simp [fol]
  | k :: ks, r, i, h => by
    rw [fol]
    by_cases ht : okT l r.s k = true
    · rw [if_pos ht]
      have h1 := fol_mu ok ks (noteR l r k) (i + 1) (h.note ok ht)
      obtain ⟨hf, hk1, hk2⟩ := okT_out ht
      have h2 := (beh_vd ok h.vd (by have := h.vd.f2; omega) hk1 hk2).2
      have h3 : (noteR l r k).s = behS l r.s k := rfl
      rw [h3] at h1
      simp only
      omega
    · rw [if_neg ht]
      simp

/-- A sheet that is a game's, and where it ends. -/
structure FO (l : Lw) (ys : List Int) (s : Sd) : Prop where
  n : (fol l (rec0 l) ys).2 = ys.length
  s : (fol l (rec0 l) ys).1.s = s

theorem FO.of {l : Lw} {bs : List Int} (h : rdE l bs = 0) : FO l bs (recS l bs).s := ⟨(rdE_zero h).2, rfl⟩
theorem FO.vd {l : Lw} {ys : List Int} {s : Sd} (h : FO l ys s) (ok : l.Ok) : Vd l s := by
  have := (fol_rcw ok ys (rec0 l) 0 (rec0_rcw ok)).vd
  rwa [h.s] at this
theorem FO.len {l : Lw} {ys : List Int} {s : Sd} (h : FO l ys s) (ok : l.Ok) : ys.length + mu l s ≤ 30 := by
  have h1 := fol_mu ok ys (rec0 l) 0 (rec0_rcw ok)
  rw [h.n, h.s] at h1
  have h2 := mu_le ok (beg_vd l ok)
  have h3 : (rec0 l).s = begS l := rfl
  rw [h3] at h1
  omega
theorem FO.snoc {l : Lw} {ys : List Int} {s : Sd} {k : Int} (h : FO l ys s) (hk : okT l s k = true) : FO l (ys ++ [k]) (behS l s k) := by
  have h1 := fol_snoc l ys (rec0 l) k h.n
  rw [h.s, if_pos hk] at h1
  refine ⟨by rw [h1]; simp, ?_⟩
  rw [h1]
  show behS l (fol l (rec0 l) ys).1.s k = _
  rw [h.s]
theorem FO.rd {l : Lw} {ys : List Int} {s : Sd} (h : FO l ys s) (ok : l.Ok) : rdE l ys = 0 := by
  have h1 := h.len ok
  have h2 : errS l ys.length = 0 := by
    simp only [errS, (okB_iff l).2 ok, if_true]
    rw [if_pos (by omega)]
  rw [rdE, if_neg (by simp [h2]), if_neg (by rw [h.n]; omega)]

def WordsAt (w : World) (a : Option Addr) (ws : List Int) : Prop := ∀ i v, ws[i]? = some v → (∃ g o, a = some ⟨g, o, none⟩ ∧ w.cell? ⟨g, o + i, none⟩ = some (.int .u8 v)) ∧ 0 ≤ v ∧ v < 256

/-- What goes through the loop. -/
structure NI (w1 W : World) (b8 : Nat) (t : St) (v : Value) (n : Nat) (ys : List Int) : Prop where
  bl : Below w1.heap.size w1 W
  sb : W.heap[b8]? = some (.cells #[.int .i64 t.f, .int .i64 t.b, .int .i64 t.s, .bool t.set, .int .i64 t.has] 56 (0, 0))
  ow : W.ownsRow w1.heap.size 3 1 v n (ys.map (Value.int .i64))
  ne : v.ownBlock ≠ some b8
  b1 : w1.heap.size ≤ b8
theorem NI.lo {w1 W W' : World} {b8 n : Nat} {t : St} {v : Value} {ys : List Int} (h : Hid (NI w1 W b8 t v n ys)) (hb : Below W.heap.size W W') : Hid (NI w1 W' b8 t v n ys) :=
  Lib.hid ⟨h.out.bl.trans (hb.mono h.out.bl.size), (hb.block _ (lt_of_block h.out.sb)).trans h.out.sb, own_below h.out.ow hb, h.out.ne, h.out.b1⟩
theorem NI.app {w1 W W' : World} {b8 n n' : Nat} {t : St} {v v' : Value} {ys ys' : List Int} {o : Obj} (h : Hid (NI w1 W b8 t v n ys)) (hg : (W.alloc o).grownBy W' v.ownBlock) (ho : W'.ownsRow w1.heap.size 3 1 v' n' (ys'.map (Value.int .i64)))
    (hl : v'.ownBlock = v.ownBlock ∨ v'.ownBlock = some (W.alloc o).heap.size) : Hid (NI w1 W' b8 t v' n' ys') := by
  have h1 := (NI.lo h (below_al W o)).out
  have hlt := lt_of_block h1.sb
  refine Lib.hid ⟨h1.bl.grown hg h1.bl.size (fun k e => (h.out.ow.lt k e).1), (hg.block b8 hlt (Ne.symm h.out.ne)).trans h1.sb, ho, ?_, h.out.b1⟩
  rcases hl with hl | hl
  · rw [hl]; exact h.out.ne
  · rw [hl]; intro e; cases e; omega
theorem NI.put {w1 W : World} {b8 n : Nat} {t : St} {v : Value} {ys : List Int} (h : Hid (NI w1 W b8 t v n ys)) (t' : St) :
    Hid (NI w1 (((((W.setCell ⟨b8, 0, none⟩ (.int .i64 t'.f)).setCell ⟨b8, 1, none⟩ (.int .i64 t'.b)).setCell ⟨b8, 2, none⟩ (.int .i64 t'.s)).setCell ⟨b8, 3, none⟩ (.bool t'.set)).setCell ⟨b8, 4, none⟩ (.int .i64 t'.has)) b8 t' v n ys) := by
  have h := h.out
  refine Lib.hid ⟨((((h.bl.setCell (p := ⟨b8, 0, none⟩) h.b1 _).setCell (p := ⟨b8, 1, none⟩) h.b1 _).setCell (p := ⟨b8, 2, none⟩) h.b1 _).setCell (p := ⟨b8, 3, none⟩) h.b1 _).setCell (p := ⟨b8, 4, none⟩) h.b1 _, ?_, ?_, h.ne, h.b1⟩
  · simpa using blk_setCell (blk_setCell (blk_setCell (blk_setCell (blk_setCell h.sb 0 (.int .i64 t'.f)) 1 (.int .i64 t'.b)) 2 (.int .i64 t'.s)) 3 (.bool t'.set)) 4 (.int .i64 t'.has)
  · exact h.ow.kept (grown_set (grown_set (grown_set (grown_set (grown_set (World.grownBy.refl W (some b8)) 0 _) 1 _) 2 _) 3 _) 4 _) (.inr h.ne)
theorem NI.cells {w1 W : World} {b8 n : Nat} {t : St} {v : Value} {ys : List Int} (h : Hid (NI w1 W b8 t v n ys)) : (W.cell? ⟨b8, 0, none⟩ = some (.int .i64 t.f) ∧ W.cell? ⟨b8, 1, none⟩ = some (.int .i64 t.b) ∧ W.cell? ⟨b8, 2, none⟩ = some (.int .i64 t.s) ∧ W.cell? ⟨b8, 3, none⟩ = some (.bool t.set) ∧ W.cell? ⟨b8, 4, none⟩ = some (.int .i64 t.has)) ∧
    W.frozen? ⟨b8, 0, none⟩ = false ∧ W.frozen? ⟨b8, 1, none⟩ = false ∧ W.frozen? ⟨b8, 2, none⟩ = false ∧ W.frozen? ⟨b8, 3, none⟩ = false ∧ W.frozen? ⟨b8, 4, none⟩ = false := by
  obtain ⟨hc, hf⟩ := s5_of h.out.sb
  exact ⟨⟨hc.c0, hc.c1, hc.c2, hc.c3, hc.c4⟩, hf 0, hf 1, hf 2, hf 3, hf 4⟩

/-- One ball more. -/
structure ES (l : Lw) (s : Sd) (t : St) (k : Int) (s1 : Sd) (t1 : St) (cn : Int) : Prop where
  ok : okT l s k = true
  e1 : behS l s k = s1
  e2 : refS l s1 = t1
  vd : Vd l s1
  thr : ∀ W, Calls Tryd.prog 22 #[.agg #[.int .i64 l.fr, .int .i64 l.pn, .int .i64 l.bl, .int .i64 l.tp], .agg #[.int .i64 t.f, .int .i64 t.b, .int .i64 t.s, .bool t.set, .int .i64 t.has], .int .i64 k] W fun e W' =>
    e = .returned (.tuple #[.agg #[.int .i64 t1.f, .int .i64 t1.b, .int .i64 t1.s, .bool t1.set, .int .i64 t1.has], .int .i64 cn]) ∧ Below W.heap.size W W'
theorem es_of {l : Lw} {s : Sd} {t : St} {k : Int} (ok : l.Ok) (v : Vd l s) (ht : refS l s = t) (hlt : t.f < l.fr) (h0 : 0 ≤ k) (h1 : k ≤ t.s) : ∃ s1 t1 cn, ES l s t k s1 t1 cn := by
  have hnf : s.f ≠ l.fr := by
    intro e
    rw [← ht, refS, if_pos e] at hlt
    simp at hlt
  have hflt : s.f < l.fr := by have := v.f2; omega
  have htf : t.f = s.f ∧ t.b = s.b ∧ t.s = s.s := by rw [← ht, refS, if_neg hnf]; exact ⟨rfl, rfl, rfl⟩
  have hk2 : k ≤ s.s := by omega
  have hk1 : -1 ≤ k := by omega
  have hbv := beh_vd (k := k) ok v hflt hk1 hk2
  have hk10 : k ≤ 10 := by have := v.s2; have := ok.p2; omega
  refine ⟨behS l s k, refS l (behS l s k), cnt l s k, by simp [okT, hnf, hk1, hk2], rfl, rfl, hbv.1, fun W => ?_⟩
  have h := throw_ref l t k W ok (by have := v.f1; omega) (by have := ok.f2; omega) (by have := v.b1; omega) (by have := v.b2; omega) (by have := v.s1; omega) (by have := v.s2; have := ok.p2; omega) hk1 hk10
  have e1 : nR l t k = cnt l s k := by rw [← ht, nr_cnt ok hnf hk1]
  have e2 : thrR l t (cnt l s k) = refS l (behS l s k) := by rw [← ht, thr_eq ok v hflt hk1 hk2]
  rw [e1, e2] at h
  exact h

theorem own_lower {w : World} {base b n : Nat} {e : TypeId} {v : Value} {xs : List Value} (h : w.ownsRow base e 1 v n xs) (hb : b ≤ base) : w.ownsRow b e 1 v n xs :=
  ⟨h.1, h.2.imp id fun ⟨g, cap, cur, hv, hg, r⟩ => ⟨g, cap, cur, hv, Nat.le_trans hb hg, r⟩⟩
theorem t_bd {l : Lw} {s : Sd} {t : St} (ok : l.Ok) (v : Vd l s) (ht : refS l s = t) : 0 ≤ t.s ∧ t.s ≤ 10 ∧ t.f = s.f := by
  have h1 := v.s1
  have h2 := v.s2
  have h3 := ok.p1
  have h4 := ok.p2
  rw [← ht, refS]
  split
  · rename_i hf; exact ⟨by simp; omega, by simp; omega, by simp [hf]⟩
  · exact ⟨by simp; omega, by simp; omega, rfl⟩

set_option maxRecDepth 100000 in
set_option maxHeartbeats 16000000 in
theorem endd_any (l : Lw) (bs : List Int) (a : Option Addr) (c : Nat) (wa : Option Addr) (ws : List Int) (wc : Nat) (w : World) (hr : rdE l bs = 0) (hs : SheetAt w a c bs) (hw : WordsAt w wa ws) (hwl : (ws.length : Int) ≤ 9223372036854775807) :
    Calls Tryd.prog 8 #[l.val, .slice a bs.length c, .slice wa ws.length wc] w fun e w' => ∃ ys v, e = .returned v ∧ w'.ownsRow w.heap.size 3 1 v ys.length (ys.map (Value.int .i64)) ∧ (∃ xs, bs ++ xs = ys) ∧ (∃ s, FO l ys s ∧ s.f = l.fr) ∧ Below w.heap.size w w' := by
  have ok := (recS_ok hr).1
  have HS := Lib.hid hs
  have HW := Lib.hid hw
  have OK := Lib.hid ok
  have hlen : bs.length ≤ 40 := (errS_zero (rdE_zero hr).1).2
  have LST := Lib.hid (fun w h => list_any bs a c w h (by omega))
  have PLY := Lib.hid (fun w h => play_ref l bs a c w ok h (by omega))
  have FO0 := Lib.hid (FO.of hr)
  have hpf : playS l (begS l) bs = (recS l bs).s := ((play_fol l bs (rec0 l)).2.1).symm
  rw [hpf] at PLY
  obtain ⟨sd0, hsd0⟩ : ∃ sd0, (recS l bs).s = sd0 := ⟨_, rfl⟩
  rw [hsd0] at PLY FO0
  obtain ⟨t0, ht0⟩ : ∃ t0, refS l sd0 = t0 := ⟨_, rfl⟩
  rw [ht0] at PLY
  have HT0 := Lib.hid ht0
  clear hs hw ok hpf hsd0 ht0 hr
  unfold Lw.val St.val at *
  go_enter Tryd.func8, Tryd.ntmps8
  go_wp2_with fail
  have A1 := WL.start w l
  generalize World.alloc w _ = w1 at A1 ⊢
  refine (LST.out w1 (HS.out.lo A1.out.bl)).mono ?_
  rintro e w2 ⟨v, rfl, ho, hb⟩
  have B2 := BL.lo (BL.start w1) hb
  have O2 := Lib.hid ho
  obtain ⟨va, vc, rfl⟩ := own_len ho
  clear hb ho
  obtain ⟨k0, k1, k2, k3⟩ := BL.law B2 A1
  go_wp2_with fail
  refine (PLY.out w2 (HS.out.1.lo (A1.out.bl.trans (B2.out.b.mono A1.out.bl.size)))).mono ?_
  rintro e w3 ⟨v9, rfl, _, hb⟩
  have NI3 : Hid (NI w1 (w3.alloc (.cells #[.int .i64 t0.f, .int .i64 t0.b, .int .i64 t0.s, .bool t0.set, .int .i64 t0.has] 56)) w3.heap.size t0 (.slice va bs.length vc) bs.length bs) :=
    Lib.hid ⟨(BL.al (BL.lo B2 hb) _).out.b, heap_alloc_new w3 _, own_al (own_below O2.out hb) _, (own_ne2 O2.out hb.size).out, (BL.lo B2 hb).out.b.size⟩
  clear hb k0 k1 k2 k3 B2 O2
  go_wp2_with fail
  obtain ⟨b8, hb8⟩ : ∃ b8, w3.heap.size = b8 := ⟨_, rfl⟩
  rw [hb8] at NI3 ⊢
  clear hb8
  generalize World.alloc w3 _ = w4 at NI3 ⊢
  obtain ⟨i3, hi3, hy0, hy1, hy2⟩ := info_parts info3
  go_loopg [7, 10] 40 (fun g s7 s10 wx => ∃ (n : Nat) (ys : List Int) (sd : Sd) (t : St), Hid (∃ xs, bs ++ xs = ys ∧ xs.length = n) ∧ n ≤ 30 ∧ g = 40 - n ∧ s10 = .int .i64 (n : Int) ∧ Hid (NI w1 wx b8 t s7 ys.length ys) ∧ Hid (refS l sd = t) ∧ Hid (FO l ys sd))
  case atStart => exact ⟨0, bs, sd0, t0, Lib.hid ⟨[], by simp, rfl⟩, by omega, rfl, rfl, NI3, HT0, FO0⟩
  case round =>
    clear NI3 HT0 FO0
    obtain ⟨n, ys, sd, t, hn, hn30, rfl, rfl, hN, hT, hF⟩ := hrel
    have hlenY := hF.out.len OK.out
    obtain ⟨sa, sc, rfl⟩ := own_len hN.out.ow
    obtain ⟨⟨c0, c1, c2, c3, c4⟩, f0, f1, f2, f3, f4⟩ := NI.cells hN
    obtain ⟨k0, k1, k2, k3⟩ := WL.at (WL.lo A1 hN.out.bl)
    obtain ⟨ts0, ts1, tf⟩ := t_bd OK.out (hF.out.vd OK.out) hT.out
    have HTF := Lib.hid tf
    clear tf
    have hn40 : (n : Int) < 40 := by omega
    have hnw : IntKind.i64.wrap (n : Int) = (n : Int) := IntWalk.i64_in _ (by omega)
    by_cases hlt : t.f < l.fr
    · have hsw : IntKind.i64.wrap (t.s + 1) = t.s + 1 := IntWalk.i64_in _ (by omega)
      have hs1 : ¬ t.s + 1 = 0 := by omega
      by_cases hwn : ws.length = 0
      · have hw0 : ¬ (0 : Int) < (ws.length : Int) := by omega
        clear hwn
        obtain ⟨kk, hkk⟩ : ∃ kk, (0 : Int).tmod (t.s + 1) = kk := ⟨_, rfl⟩
        have kk0 : 0 ≤ kk := by rw [← hkk]; exact Int.tmod_nonneg _ (by omega)
        have kk1 : kk < t.s + 1 := by rw [← hkk]; exact Int.tmod_lt_of_pos _ (by omega)
        obtain ⟨s1, t1, cn, hes⟩ := es_of OK.out (hF.out.vd OK.out) hT.out hlt kk0 (by omega : kk ≤ t.s)
        have THR := Lib.hid hes.thr
        have HES := Lib.hid hes
        clear hes
        have hkz : kk = 0 := by rw [← hkk]; simp
        subst hkz
        go_wp2_with (at_builtin; go_must (refine wpList_append_own_at _ rfl _ _ 28 rfl w1.heap.size 3 i3 (.int .i64 0) 1 8 Tryd.underlying28 hi3 hy0 hy1 hy2 rfl (by decide) _ ys.length _ rfl (own_al hN.out.ow _) ⟨wr.heap.size, 0, none⟩ 1 1 [.int .i64 0] rfl rfl (World.news_of_block (heap_alloc_new wr _)) (by simp [Value.oneCell']) (by unfold maxLen; omega) (by omega) (Nat.le_trans hN.out.bl.size (below_al wr _).size) ?_); intro v' w9 hown' hgrow hnil hloc; have hN2 : Hid (NI w1 w9 b8 t v' (ys.length + 1) (ys ++ [0])) := NI.app hN hgrow (by rw [List.map_append]; exact hown') hloc; clear hown' hgrow hnil hloc; obtain ⟨⟨d0, d1, d2, d3, d4⟩, z0, z1, z2, z3, z4⟩ := NI.cells hN2; obtain ⟨m0, m1, m2, m3⟩ := WL.at (WL.lo A1 hN2.out.bl))
        refine (THR.out w9).mono ?_
        rintro e wB ⟨rfl, hb⟩
        have hN3 := NI.lo hN2 hb
        clear hb hN2 d0 d1 d2 d3 d4 z0 z1 z2 z3 z4 m0 m1 m2 m3
        obtain ⟨⟨d0, d1, d2, d3, d4⟩, z0, z1, z2, z3, z4⟩ := NI.cells hN3
        go_wp2_with fail
        go_roundg (40 - (n + 1))
        case measure => omega
        case rel =>
          have hF2 := hF.out.snoc HES.out.ok
          rw [HES.out.e1] at hF2
          have hl30 := hF2.len OK.out
          obtain ⟨xs, hxs, hxn⟩ := hn.out
          rw [List.length_append, ← hxs, List.length_append, hxn] at hl30
          refine ⟨n + 1, ys ++ [0], s1, t1, Lib.hid ⟨xs ++ [0], by rw [← hxs]; simp, by simp [hxn]⟩, by simp at hl30; omega, rfl, by simp, ?_, Lib.hid HES.out.e2, Lib.hid hF2⟩
          rw [List.length_append]; exact NI.put hN3 t1
      · have hwp : (0 : Int) < (ws.length : Int) := by omega
        have hwz : ¬ (ws.length : Int) = 0 := by omega
        obtain ⟨q, hq⟩ : ∃ q, n % ws.length = q := ⟨_, rfl⟩
        have hq1 : q < ws.length := by rw [← hq]; exact Nat.mod_lt _ (by omega)
        have hrem : Int.tmod (n : Int) (ws.length : Int) = (q : Int) := by rw [← hq]; exact (Int.ofNat_tmod n ws.length).symm
        have q0 : (0 : Int) ≤ (q : Int) := by omega
        have q1 : (q : Int) < (ws.length : Int) := by omega
        have hqw : IntKind.i64.wrap (q : Int) = (q : Int) := IntWalk.i64_in _ (by omega)
        obtain ⟨x, hx⟩ : ∃ x, ws[q]? = some x := ⟨ws[q]'hq1, List.getElem?_eq_getElem _⟩
        obtain ⟨⟨g, o, rfl, hc⟩, x0, x1⟩ := HW.out q x hx
        have cX : wr.cell? ⟨g, o + q, none⟩ = some (.int .u8 x) := below_cell (A1.out.bl.trans (hN.out.bl.mono A1.out.bl.size)) hc
        have hxw : IntKind.i64.wrap x = x := IntWalk.i64_in _ (by omega)
        obtain ⟨kk, hkk⟩ : ∃ kk, x.tmod (t.s + 1) = kk := ⟨_, rfl⟩
        have kk0 : 0 ≤ kk := by rw [← hkk]; exact Int.tmod_nonneg _ (by omega)
        have kk1 : kk < t.s + 1 := by rw [← hkk]; exact Int.tmod_lt_of_pos _ (by omega)
        have hkw : IntKind.i64.wrap kk = kk := IntWalk.i64_in _ (by omega)
        obtain ⟨s1, t1, cn, hes⟩ := es_of OK.out (hF.out.vd OK.out) hT.out hlt kk0 (by omega : kk ≤ t.s)
        have THR := Lib.hid hes.thr
        have HES := Lib.hid hes
        clear hes hx hc hq
        go_wp2_with (at_builtin; go_must (refine wpList_append_own_at _ rfl _ _ 28 rfl w1.heap.size 3 i3 (.int .i64 0) 1 8 Tryd.underlying28 hi3 hy0 hy1 hy2 rfl (by decide) _ ys.length _ rfl (own_al hN.out.ow _) ⟨wr.heap.size, 0, none⟩ 1 1 [.int .i64 kk] rfl rfl (World.news_of_block (heap_alloc_new wr _)) (by simp [Value.oneCell']) (by unfold maxLen; omega) (by omega) (Nat.le_trans hN.out.bl.size (below_al wr _).size) ?_); intro v' w9 hown' hgrow hnil hloc; have hN2 : Hid (NI w1 w9 b8 t v' (ys.length + 1) (ys ++ [kk])) := NI.app hN hgrow (by rw [List.map_append]; exact hown') hloc; clear hown' hgrow hnil hloc; obtain ⟨⟨d0, d1, d2, d3, d4⟩, z0, z1, z2, z3, z4⟩ := NI.cells hN2; obtain ⟨m0, m1, m2, m3⟩ := WL.at (WL.lo A1 hN2.out.bl))
        refine (THR.out w9).mono ?_
        rintro e wB ⟨rfl, hb⟩
        have hN3 := NI.lo hN2 hb
        clear hb hN2 d0 d1 d2 d3 d4 z0 z1 z2 z3 z4 m0 m1 m2 m3
        obtain ⟨⟨d0, d1, d2, d3, d4⟩, z0, z1, z2, z3, z4⟩ := NI.cells hN3
        go_wp2_with fail
        go_roundg (40 - (n + 1))
        case measure => omega
        case rel =>
          have hF2 := hF.out.snoc HES.out.ok
          rw [HES.out.e1] at hF2
          have hl30 := hF2.len OK.out
          obtain ⟨xs, hxs, hxn⟩ := hn.out
          rw [List.length_append, ← hxs, List.length_append, hxn] at hl30
          refine ⟨n + 1, ys ++ [kk], s1, t1, Lib.hid ⟨xs ++ [kk], by rw [← hxs]; simp, by simp [hxn]⟩, by simp at hl30; omega, rfl, by simp, ?_, Lib.hid HES.out.e2, Lib.hid hF2⟩
          rw [List.length_append]; exact NI.put hN3 t1
    · go_wp2_with fail
      go_ret
      obtain ⟨xs, hxs, hxn⟩ := hn.out
      refine ⟨ys, .slice sa ys.length sc, rfl, own_lower hN.out.ow A1.out.bl.size, ⟨xs, hxs⟩, ⟨sd, hF.out, ?_⟩, A1.out.bl.trans (hN.out.bl.mono A1.out.bl.size)⟩
      have := (hF.out.vd OK.out).f2
      have := HTF.out
      omega

end Go.Proofs.YtmjbidnlknmcgabDoor
