/- The contract of the reference's Rest: one step. -/
import Derived.Test.YtmjbidnlknmcgaaDoorTc
set_option linter.unusedVariables false
set_option linter.unusedSimpArgs false
namespace Go.Proofs.YtmjbidnlknmcgaaDoor
open Go.RowKit Go.Maps

theorem info4 : (Tryd.prog.info? 4).map (fun i => (i.zero, i.size, i.bytes)) = some (some (.bool false), 1, 1) := by kernel_rfl

/-- A row of bits beside one that grows. -/
structure BO (W : World) (v : Value) (g n M : Nat) : Prop where
  b : BitsAt W g n M
  ne : v.ownBlock ≠ some g
theorem BO.app {W W' : World} {v v' : Value} {g n M : Nat} (h : BO W v g n M) (hg : W.grownBy W' v.ownBlock) (hl : v'.ownBlock = v.ownBlock ∨ ∀ k, v'.ownBlock = some k → W.heap.size ≤ k) : BO W' v' g n M :=
  ⟨h.b.far hg (fun e => h.ne e.symm), fun e => by
    rcases hl with h1 | h1
    · rw [h1] at e; exact h.ne e
    · have := h1 g e
      have := h.b.blk
      omega⟩
theorem BO.set {W : World} {g0 L c g n M p : Nat} {u : Value} (h : BO W (.slice (some ⟨g0, 0, none⟩) L c) g n M) : BO (W.setCell ⟨g0, p, none⟩ u) (.slice (some ⟨g0, 0, none⟩) L c) g n M :=
  ⟨h.b.far (grown_set (World.grownBy.refl W (some g0)) p u) (fun e => h.ne e.symm), h.ne⟩

theorem GoodT.less {w : World} {F G : Nat → Prop} {l : Lw} {D : DataW Unit} (h : GoodT w F l D) (hg : ∀ k, G k → F k) : GoodT w G l D :=
  ⟨h.tidy, h.keys, fun s v f hh z => by
    obtain ⟨g, n, c, h1, h2, h3⟩ := h.els s v f hh z
    exact ⟨g, n, c, h1, h2, fun h4 => h3 (hg g h4)⟩⟩

/-- What Rest leaves: its answer, its memory. -/
def RestPost (l : Lw) (s : Sd) (bm : Nat) (F : Nat → Prop) (w : World) (e : Ending) (w' : World) : Prop :=
  ∃ g n c, e = .returned (.slice (some ⟨g, 0, none⟩) n c) ∧ Hid (BitsAt w' g n (Rs l s)) ∧ ¬ F g ∧ Hid (MT w' F bm l) ∧ Hid (w.grownBy w' (some bm))

/-- The own row goes into the memory. -/
theorem rest_fin {w W w5 : World} {F : Nat → Prop} {l : Lw} {s : Sd} {t : St} {x y : Int} {bm base g c L : Nat} {D : DataW Unit} (ok : l.Ok) (v : Vd l s) (hf : s.f ≠ l.fr) (hbm : bm < w.heap.size) (hF : ∀ k, F k → k < w.heap.size)
    (h : RI w W F l t x y bm base (.slice (some ⟨g, 0, none⟩) L c) L (Rs l s)) (hT : Top L (Rs l s)) (h0 : 0 < L) (hL : L ≤ 1000) (hgood : GoodT W (fun k => F k ∨ (Value.slice (some ⟨g, 0, none⟩) L c).ownBlock = some k) l D)
    (hno : W.cell? ⟨bm, 0, none⟩ = none) (hown5 : w5.ownsMap Tryd.prog 105 sread bm 8713 (D.put (kt l s) (sdat g L c))) (hgr5 : W.grownBy w5 (some bm)) : RestPost l s bm F w (.returned (.slice (some ⟨g, 0, none⟩) L c)) w5 := by
  have hgb : base ≤ g := (h.ow.lt g rfl).1
  have hb := h.hb
  have hB := (h.bits hT h0 hL).far hgr5 (fun e => by cases e; omega)
  have hFg : ¬ F g := fun e => by have := hF g e; omega
  have hg5 : GoodT w5 F l D := (hgood.far hgr5 (fun k hc _ e => by cases e; rw [hno] at hc; cases hc)).less (fun k hk => .inl hk)
  have hp := hg5.put (g := g) (n := L) (c := c) ok v hf hB hFg
  exact ⟨g, L, c, rfl, Lib.hid hB, hFg, Lib.hid ⟨_, owns_sizeT hown5 hp.size, hp⟩, Lib.hid (h.gr.trans hgr5)⟩

set_option maxRecDepth 100000 in
set_option maxHeartbeats 16000000 in
theorem rest_step (l : Lw) (ok : l.Ok) (bm : Nat) (s : Sd) (w : World) (F : Nat → Prop) (v : Vd l s) (hm : MT w F bm l) (hF : ∀ k, F k → k < w.heap.size)
    (ih : Hid (∀ (s' : Sd) (W : World) (G : Nat → Prop), mu l s' < mu l s → Vd l s' → MT W G bm l → (∀ k, G k → k < W.heap.size) → Calls Tryd.prog 56 #[l.val, tlv l s', .map (some bm)] W (RestPost l s' bm G W))) :
    Calls Tryd.prog 56 #[l.val, tlv l s, .map (some bm)] w (RestPost l s bm F w) := by
  have HM := Lib.hid hm
  have HF := Lib.hid hF
  have OK := Lib.hid ok
  have HV := Lib.hid v
  have hkey0 := key105 l s (v.wfT ok)
  have hbm := hm.lt
  have THR := Lib.hid (fun (k : Int) (W : World) hf h0 h1 => throwT l s k W ok v hf h0 h1)
  unfold tlv Lw.val at *
  obtain ⟨t, ht⟩ : ∃ t, refS l s = t := ⟨_, rfl⟩
  have hts : s.f ≠ l.fr → t.s = s.s := fun hne => by rw [← ht, refS, if_neg hne]
  have htf : t.f = s.f := by
    rw [← ht]
    unfold refS
    split
    · rename_i e; rw [e]
    · rfl
  rw [ht] at hkey0 THR ⊢
  obtain ⟨x, hx⟩ : ∃ x, s.x = x := ⟨_, rfl⟩
  obtain ⟨y, hy⟩ : ∃ y, s.y = y := ⟨_, rfl⟩
  rw [hx, hy] at hkey0 THR ⊢
  have HK := Lib.hid hkey0
  have HTS := Lib.hid hts
  have HTF := Lib.hid htf
  have HX := Lib.hid hx
  clear hm hF hkey0 ht hts htf hx hy ok v
  go_enter Tryd.func56, Tryd.ntmps56
  go_upto_region 1 with fail
  have A1 := WL.al (WL.start w l) (.cells #[.int .i64 t.f, .int .i64 t.b, .int .i64 t.s, .bool t.set, .int .i64 t.has, .int .i64 x, .int .i64 y] 105)
  have T1 := TL.new1 w (.cells #[.int .i64 l.fr, .int .i64 l.pn, .int .i64 l.bl, .int .i64 l.tp] 23) t x y
  have M1 := Lib.hid ((HM.out.lo (below_al _ (.cells #[.int .i64 l.fr, .int .i64 l.pn, .int .i64 l.bl, .int .i64 l.tp] 23))).lo (below_al _ (.cells #[.int .i64 t.f, .int .i64 t.b, .int .i64 t.s, .bool t.set, .int .i64 t.has, .int .i64 x, .int .i64 y] 105)))
  generalize World.alloc (World.alloc w _) _ = w1 at A1 T1 M1 ⊢
  obtain ⟨k0, k1, k2, k3⟩ := WL.at A1
  obtain ⟨d0, d1, d2, d3, d4, d5, d6⟩ := TL.at T1
  by_cases hf : s.f = l.fr
  · have hfb : (t.f == l.fr) = true := by have := HTF.out; simp; omega
    have hR : Rs l s = 1 := by rw [Rs_eq OK.out s HV.out, part, allB, if_pos hf, if_pos hf]; rfl
    have HR := Lib.hid hR
    clear hR hf
    go_wp2_with fail
    go_ret
    have hal := below_al w1 (.cells #[.bool true] 4)
    refine ⟨w1.heap.size, 1, 1, rfl, Lib.hid ⟨?_, ?_, ?_, ?_, ?_⟩, fun e => ?_, Lib.hid (M1.out.lo hal), Lib.hid ((below_row (A1.out.bl.trans (hal.mono A1.out.bl.size))).but _)⟩
    · intro j hj
      have : j = 0 := by omega
      subst this
      rw [HR.out]
      have h1 : (w1.alloc (.cells #[.bool true] 4)).heap[w1.heap.size]? = some (.cells #[.bool true] 4 (0, 0)) := heap_alloc_new w1 _
      rw [World.cell?, h1]
      rfl
    · rw [HR.out]; decide
    · omega
    · omega
    · rw [HR.out]; rfl
    · have h1 := HF.out _ e
      have h2 := A1.out.bl.size
      omega
  · have hfb : (t.f == l.fr) = false := by have := HTF.out; simp; omega
    have hts := HTS.out hf
    have NF := Lib.hid hf
    obtain ⟨D, hown, hgood⟩ := M1.out.mem
    obtain ⟨v1, ps, hrun, hv⟩ := World.ownsMap.look_ok hown law105 Tryd.underlying107 (zero102 w1) sread_zero HK.out
    clear hf
    cases hh : Maps.has D (kt l s)
    · rw [hh] at hrun
      clear hv hh hown hgood
      have IH := ih
      have HTSS := Lib.hid hts
      have hs1 := HV.out.s1
      obtain ⟨S, hS⟩ : ∃ S : Nat, t.s = (S : Int) := ⟨t.s.toNat, by omega⟩
      have hSS : s.s.toNat = S := by omega
      have hs10 : S ≤ 10 := by have := HV.out.s2; have := OK.out.p2; omega
      have HSS := Lib.hid hSS
      have HTSS2 := Lib.hid hS
      have I0 := Lib.hid (RI.start (F := F) A1 T1 M1.out)
      obtain ⟨base, hbase⟩ : ∃ base, w1.heap.size = base := ⟨_, rfl⟩
      rw [hbase] at I0
      clear hts hs1 hSS hS hbase A1 T1 M1 ih
      go_wp2_with fail
      clear k0 k1 k2 k3 d0 d1 d2 d3 d4 d5 d6 hrun
      obtain ⟨i4, hi4, hz0, hz1, hz2⟩ := info_parts info4
      go_loopg [9, 10] (S + 1) (fun g s9 s10 wx => ∃ (i : Nat) (oa : Option Addr) (L oc N : Nat), i ≤ S + 1 ∧ g = S + 1 - i ∧ s10 = .int .i64 (i : Int) ∧ s9 = .slice oa L oc ∧ Hid (RI w wx F l t x y bm base (.slice oa L oc) L N) ∧ Hid (N = part l s (upTo i) ∧ Top L N))
      case atStart => exact ⟨0, none, 0, 0, 0, by omega, rfl, rfl, rfl, I0, Lib.hid ⟨by simp [part, upTo, NF.out], by decide, fun h => by omega⟩⟩
      case round =>
        clear I0
        obtain ⟨i, oa, L, oc, N, hi, rfl, rfl, rfl, hI, hN⟩ := hrel
        by_cases hlt : i < S + 1
        · have hi1 : (i : Int) ≤ t.s := by have := HTSS2.out; omega
          have hi1b : i ≤ S := by omega
          have hw1 : IntKind.i64.wrap ((i : Int) + 1) = (i : Int) + 1 := IntWalk.i64_in _ (by omega)
          have hsS : s.s = (S : Int) := by rw [← HTSS.out]; exact HTSS2.out
          have hflt : s.f < l.fr := by have := HV.out.f2; have := NF.out; omega
          have hbv := beh_vd (k := (i : Int)) OK.out HV.out hflt (by omega) (by omega)
          have hcl := cnt_le OK.out HV.out (by omega : -1 ≤ (i : Int)) (by omega)
          obtain ⟨s1, hs1⟩ : ∃ s1, behS l s (i : Int) = s1 := ⟨_, rfl⟩
          obtain ⟨t1, ht1⟩ : ∃ t1, refS l s1 = t1 := ⟨_, rfl⟩
          obtain ⟨x1, hx1⟩ : ∃ x1, s1.x = x1 := ⟨_, rfl⟩
          obtain ⟨y1, hy1⟩ : ∃ y1, s1.y = y1 := ⟨_, rfl⟩
          obtain ⟨a, ha⟩ : ∃ a, ad l s (i : Int) = a := ⟨_, rfl⟩
          have ha2 : cnt l s (i : Int) * (1 + x) = (a : Int) := by
            rw [← ha, ← HX.out]
            exact (Int.toNat_of_nonneg (Int.mul_nonneg hcl.1 (by have := HV.out.x1; omega))).symm
          have ha30 : a ≤ 30 := by
            have h1 : cnt l s (i : Int) * (1 + x) ≤ 10 * 3 := Int.mul_le_mul (by omega) (by have := HV.out.x2; have := HX.out; omega) (by have := HV.out.x1; have := HX.out; omega) (by omega)
            omega
          obtain ⟨M, hM⟩ : ∃ M, Rs l s1 = M := ⟨_, rfl⟩
          have TH := Lib.hid (fun (W : World) => show Calls Tryd.prog 74 #[.agg #[.int .i64 l.fr, .int .i64 l.pn, .int .i64 l.bl, .int .i64 l.tp], .agg #[.int .i64 t.f, .int .i64 t.b, .int .i64 t.s, .bool t.set, .int .i64 t.has, .int .i64 x, .int .i64 y], .int .i64 (i : Int)] W fun e w' =>
              e = .returned (.tuple #[.agg #[.int .i64 t1.f, .int .i64 t1.b, .int .i64 t1.s, .bool t1.set, .int .i64 t1.has, .int .i64 x1, .int .i64 y1], .int .i64 (a : Int)]) ∧ Below W.heap.size W w' from by
            have h := THR.out (i : Int) W NF.out (by omega) (by omega)
            rw [hs1, ht1, hx1, hy1, ha2] at h
            exact h)
          have IH1 := Lib.hid (fun (W : World) (G : Nat → Prop) => show MT W G bm l → (∀ k, G k → k < W.heap.size) → Calls Tryd.prog 56 #[.agg #[.int .i64 l.fr, .int .i64 l.pn, .int .i64 l.bl, .int .i64 l.tp], .agg #[.int .i64 t1.f, .int .i64 t1.b, .int .i64 t1.s, .bool t1.set, .int .i64 t1.has, .int .i64 x1, .int .i64 y1], .map (some bm)] W (RestPost l s1 bm G W) from by
            have h := IH.out s1 W G (by rw [← hs1]; exact hbv.2) (by rw [← hs1]; exact hbv.1)
            rw [ht1, hx1, hy1] at h
            exact h)
          have HN1 : Hid (part l s (upTo (i + 1)) = N ||| (M <<< a)) := Lib.hid (by rw [upTo_succ, part_snoc, hs1, ha, hM, hN.out.1])
          have HRM := Lib.hid hM
          have hL901 : L ≤ 901 := hN.out.2.le OK.out HV.out (fun j hj => part_sub (i := i) OK.out HV.out NF.out (by have := HSS.out; omega) j (by rw [← hN.out.1]; exact hj))
          have HT0 := Lib.hid hN.out.2
          have h := hI.out
          have hl4 := l4_of h.lb
          obtain ⟨k0, k1, k2, k3⟩ := hl4
          obtain ⟨d0, d1, d2, d3, d4, d5, d6⟩ := TL.at (Lib.hid (TL.mk h.tb))
          have HSZ := Lib.hid hsS
          have HLT := Lib.hid hflt
          clear h hsS hflt hbv hcl hs1 ht1 hx1 hy1 ha ha2 hM hN
          go_wp2_with fail
          refine (TH.out wr).mono ?_
          rintro e w2 ⟨rfl, hb⟩
          have hal := below_al w2 (.cells #[.int .i64 t1.f, .int .i64 t1.b, .int .i64 t1.s, .bool t1.set, .int .i64 t1.has, .int .i64 x1, .int .i64 y1] 105)
          have I3 := Lib.hid ((hI.out.keep hb).keep hal)
          have T3 := TL.new w2 t1 x1 y1
          clear hb hal hI k0 k1 k2 k3 d0 d1 d2 d3 d4 d5 d6 TH
          go_upto_region 11 with fail
          obtain ⟨b11, hb11⟩ : ∃ b11, w2.heap.size = b11 := ⟨_, rfl⟩
          rw [hb11] at T3 ⊢
          clear hb11
          generalize World.alloc w2 _ = w3 at I3 T3 ⊢
          obtain ⟨k0, k1, k2, k3⟩ := l4_of I3.out.lb
          obtain ⟨d0, d1, d2, d3, d4, d5, d6⟩ := TL.at T3
          go_wp2_with fail
          refine (IH1.out w3 (fun k => F k ∨ (Value.slice oa L oc).ownBlock = some k) I3.out.mt (fun k hk => by
            rcases hk with hk | hk
            · have := HF.out k hk; have := I3.out.gr.size; omega
            · exact (I3.out.ow.lt k hk).2)).mono ?_
          rintro e w4 ⟨g, n, c, rfl, hB, hgF, hMT, hG⟩
          have I4 := Lib.hid (RI.call I3.out hbm hMT.out hG.out)
          have B4 : Hid (BO w4 (.slice oa L oc) g n M) := Lib.hid ⟨by rw [← HRM.out]; exact hB.out, fun e => hgF (.inr e)⟩
          have hn1 : n ≤ 1000 := hB.out.le
          have hn0 : 0 < n := hB.out.pos
          have HTM : Hid (Top n M) := Lib.hid (by rw [← HRM.out]; exact ⟨hB.out.lt, fun _ => hB.out.top⟩)
          clear hB hgF hMT hG I3 T3 k0 k1 k2 k3 d0 d1 d2 d3 d4 d5 d6 IH1 THR IH
          go_wp2_with fail
          go_loopg [9, 14] n (fun gg s9 s14 wx => ∃ (k : Nat) (oa : Option Addr) (L1 oc : Nat), k ≤ n ∧ gg = n - k ∧ s14 = .int .i64 (k : Int) ∧ s9 = .slice oa L1 oc ∧ Hid (RI w wx F l t x y bm base (.slice oa L1 oc) L1 (NK N M a k)) ∧ Hid (L1 = if k = 0 then L else max L (a + k)) ∧ Hid (BO wx (.slice oa L1 oc) g n M))
          case atStart => exact ⟨0, oa, L, oc, by omega, rfl, rfl, rfl, Lib.hid (by rw [NK_zero]; exact I4.out), Lib.hid (by simp), B4⟩
          case round =>
            clear I4 B4
            obtain ⟨k, oa, L1, oc, hk, rfl, rfl, rfl, hI, hL, hB⟩ := hrel
            have hL1 : L1 ≤ 2000 := by
              have h1 := hL.out
              split at h1
              · omega
              · rw [h1]; exact Nat.max_le.2 ⟨by omega, by omega⟩
            have hw2 : IntKind.i64.wrap ((k : Int) + 1) = (k : Int) + 1 := IntWalk.i64_in _ (by omega)
            by_cases hkn : k < n
            · have hk0 : (0 : Int) ≤ (k : Int) := by omega
              have hk1 : (k : Int) < (n : Int) := by omega
              obtain ⟨p, hp⟩ : ∃ p, a + k = p := ⟨_, rfl⟩
              have hw3 : IntKind.i64.wrap ((a : Int) + (k : Int)) = (p : Int) := by rw [IntWalk.i64_in _ (by omega)]; omega
              have HNK : Hid (NK N M a k < 2 ^ L1) := Lib.hid (by
                have h1 := hL.out
                split at h1
                · rename_i h2; rw [h2, NK_zero, h1]; exact HT0.out.lt
                · rw [h1]; exact NK_lt (Nat.lt_of_lt_of_le HT0.out.lt (Nat.pow_le_pow_right (by omega) (Nat.le_max_left _ _))) (Nat.le_max_right _ _))
              have HP := Lib.hid hp
              clear hp
              have hp0 : (0 : Int) ≤ (p : Int) := by omega
              have hp2 : p ≤ 2000 := by have := HP.out; omega
              go_wp2_with fail
              go_loopg [9] (p + 1 - L1) (fun gg s9 wx => ∃ (oa : Option Addr) (L2 oc : Nat), gg = p + 1 - L2 ∧ s9 = .slice oa L2 oc ∧ Hid (L1 ≤ L2 ∧ L2 ≤ max L1 (p + 1)) ∧ Hid (RI w wx F l t x y bm base (.slice oa L2 oc) L2 (NK N M a k)) ∧ Hid (BO wx (.slice oa L2 oc) g n M))
              case atStart => exact ⟨oa, L1, oc, rfl, rfl, Lib.hid ⟨Nat.le_refl _, Nat.le_max_left _ _⟩, hI, hB⟩
              case round =>
                clear hI hB
                obtain ⟨oa, L2, oc, rfl, rfl, hLL, hI, hB⟩ := hrel
                have hL2 : L2 ≤ 2001 := by have := hLL.out.2; have := Nat.max_le.2 ⟨(by omega : L1 ≤ 2001), (by omega : p + 1 ≤ 2001)⟩; omega
                by_cases hpl : L2 ≤ p
                · have hpl1 : (L2 : Int) ≤ (p : Int) := by omega
                  have how := hI.out.ow
                  have hsz := hI.out.sz
                  go_wp2_with (at_builtin; go_must (refine wpList_append_own_at _ rfl _ _ 102 rfl base 4 i4 (.bool false) 1 1 Tryd.underlying102 hi4 hz0 hz1 hz2 rfl (by decide) _ L2 _ rfl (own_al how _) ⟨wr.heap.size, 0, none⟩ 1 1 [.bool false] rfl rfl (World.news_of_block (heap_alloc_new wr _)) (by simp [Value.oneCell']) (by unfold maxLen; omega) (by first | omega | (simp; omega)) (by first | omega | (simp; omega)) ?_); intro v' w9 hown' hgrow hnil hloc; have I9 := Lib.hid (RI.app hI.out hbm (hgr_open hgrow) hown' (loc_open hloc) (Nat.lt_of_lt_of_le HNK.out (Nat.pow_le_pow_right (by omega) hLL.out.1))); have B9 := Lib.hid (hB.out.app (hgr_open hgrow) (loc_open hloc)); obtain ⟨va, vc, rfl⟩ := own_len hown'; clear hown' hgrow hnil hloc)
                  go_roundg (p + 1 - (L2 + 1))
                  case measure => omega
                  case rel => exact ⟨va, L2 + 1, vc, rfl, rfl, Lib.hid ⟨by have := hLL.out.1; omega, by have := hLL.out.2; have := Nat.le_max_right L1 (p + 1); omega⟩, I9, B9⟩
                · have hpl1 : ¬ (L2 : Int) ≤ (p : Int) := by omega
                  have hpl2 : (p : Int) < (L2 : Int) := by omega
                  have hpl3 : p < L2 := by omega
                  obtain ⟨go, oc', hv, _, _, _, _⟩ := own_form hI.out.ow (by omega)
                  cases hv
                  have cp := own_cell hI.out.ow p _ (bitsL_get hpl3)
                  have zp := own_free hI.out.ow p
                  have cr := hB.out.b.c k hkn
                  obtain ⟨b1, hb1⟩ : ∃ b1, (NK N M a k).testBit p = b1 := ⟨_, rfl⟩
                  obtain ⟨b2, hb2⟩ : ∃ b2, M.testBit k = b2 := ⟨_, rfl⟩
                  rw [hb1] at cp
                  rw [hb2] at cr
                  have HBB : Hid ((bitsL L2 (NK N M a k)).set p (.bool (b1 || b2)) = bitsL L2 (NK N M a (k + 1))) := Lib.hid (by
                    have h1 := NK_set (N := N) (M := M) (a := a) (k := k) (L := L2) (by rw [HP.out]; exact hpl3)
                    rw [HP.out, hb1, hb2] at h1
                    exact h1)
                  have HL2 : Hid (L2 = max L (a + (k + 1))) := Lib.hid (by
                    have h1 := hLL.out
                    have h2 := hL.out
                    have h3 := HP.out
                    split at h2 <;> omega)
                  clear hb1 hb2
                  cases b1
                  · go_wp2_with fail
                    go_roundg (n - (k + 1))
                    case measure => omega
                    case rel => exact ⟨k + 1, _, L2, _, by omega, rfl, by simp, rfl, Lib.hid (RI.set hI.out hbm hpl3 HBB.out), Lib.hid (by rw [if_neg (by omega)]; exact HL2.out), Lib.hid hB.out.set⟩
                  · go_wp2_with fail
                    go_roundg (n - (k + 1))
                    case measure => omega
                    case rel => exact ⟨k + 1, _, L2, _, by omega, rfl, by simp, rfl, Lib.hid (RI.set hI.out hbm hpl3 HBB.out), Lib.hid (by rw [if_neg (by omega)]; exact HL2.out), Lib.hid hB.out.set⟩
            · have hke : k = n := by omega
              subst hke
              have hk1 : ¬ (k : Int) < (k : Int) := by omega
              have HLE : Hid (L1 = max L (a + k)) := Lib.hid (by have h1 := hL.out; rwa [if_neg (by omega)] at h1)
              have hTJ : Top L1 (NK N M a k) := by rw [HLE.out]; exact HT0.out.join HTM.out hn0
              have HTJ := Lib.hid hTJ
              clear hTJ
              go_wp2_with fail
              go_roundg (S + 1 - (i + 1))
              case measure => omega
              case rel => exact ⟨i + 1, oa, L1, oc, NK N M a k, by omega, rfl, by simp, rfl, hI, Lib.hid ⟨by rw [HN1.out, NK_all HTM.out.lt], HTJ.out⟩⟩
        · have hie : i = S + 1 := by omega
          have hi1 : ¬ (i : Int) ≤ t.s := by have := HTSS2.out; omega
          have hi1b : ¬ i ≤ S := by omega
          have hNR : N = Rs l s := by
            rw [Rs_eq OK.out s HV.out, hN.out.1, hie]
            unfold allB
            rw [if_neg NF.out, HSS.out]
          have HT0 := Lib.hid hN.out.2
          rw [hNR] at hI HT0
          have hL0 : 0 < L := by
            have h1 := Rs_zero OK.out _ s (Nat.lt_succ_self _) HV.out
            rcases Nat.eq_zero_or_pos L with h2 | h2
            · have h3 := HT0.out.lt
              rw [h2] at h3
              have h4 : Rs l s = 0 := by omega
              rw [h4] at h1
              simp at h1
            · exact h2
          have hL901 : L ≤ 901 := HT0.out.le OK.out HV.out (fun j hj => hj)
          obtain ⟨go, oc', hv, _, _, _, _⟩ := own_form hI.out.ow hL0
          cases hv
          obtain ⟨D2, hown2, hgood2⟩ := hI.out.mt.mem
          obtain ⟨w5, hrun, hown5, hgr5⟩ := World.ownsMap.update hown2 law105 Tryd.underlying107 (by unfold maxLen; omega) HK.out (sread_val go L oc)
          have FIN := Lib.hid (rest_fin OK.out HV.out NF.out hbm HF.out hI.out HT0.out hL0 (by omega) hgood2 (hI.out.mt.noCell 0) hown5 hgr5)
          obtain ⟨d0, d1, d2, d3, d4, d5, d6⟩ := TL.at (Lib.hid (TL.mk hI.out.tb))
          clear hN hNR HT0 hI hown2 hgood2 hown5 hgr5 hie hlt
          go_wp2_with fail
          go_ret
          exact FIN.out
    · rw [hh] at hrun
      obtain ⟨g, n, c, h1, h2, h3⟩ := hgood.els s HV.out NF.out hh (.agg [])
      rw [h1] at hv
      have hv1 := sread_inv hv
      subst hv1
      have H2 := Lib.hid h2
      clear hv hh hown hgood h1 h2 hts
      go_wp2_with fail
      go_ret
      exact ⟨g, n, c, rfl, H2, h3, M1, Lib.hid ((below_row A1.out.bl).but _)⟩

/-- Rest, behind any tail. -/
theorem rest_ref (l : Lw) (ok : l.Ok) (bm : Nat) : ∀ (n : Nat) (s : Sd) (w : World) (F : Nat → Prop), mu l s < n → Vd l s → MT w F bm l → (∀ k, F k → k < w.heap.size) → Calls Tryd.prog 56 #[l.val, tlv l s, .map (some bm)] w (RestPost l s bm F w) := by
  intro n
  induction n with
  | zero => intro s w F h; omega
  | succ n ih => intro s w F h v hm hF; exact rest_step l ok bm s w F v hm hF (Lib.hid (fun s' W G hs v' hm' hG => ih s' W G (by omega) v' hm' hG))

end Go.Proofs.YtmjbidnlknmcgaaDoor
