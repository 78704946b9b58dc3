/- The contract of the law FrameSpares. -/
import Derived.Test.YtmjbidnlknmcgaaDoorDr
import Derived.Test.YtmjbidnlknmcgaaDoorSm
set_option linter.unusedVariables false
set_option linter.unusedSimpArgs false
namespace Go.Proofs.YtmjbidnlknmcgaaDoor
open Go.RowKit

theorem own_mono {w : World} {base b n : Nat} {e : TypeId} {v : Value} {xs : List Value} (h : w.ownsRow base e 1 v n xs) (hb : b ≤ base) : w.ownsRow b e 1 v n xs :=
  ⟨h.1, h.2.imp id fun ⟨g, cap, cur, hv, hg, r⟩ => ⟨g, cap, cur, hv, Nat.le_trans hb hg, r⟩⟩
theorem own_dr {w : World} {base n : Nat} {e : TypeId} {v : Value} {xs : List Value} (h : w.ownsRow base e 1 v n xs) : w.drew.ownsRow base e 1 v n xs := own_below h ⟨rfl, rfl, rfl, Nat.le_refl _, fun _ _ => rfl⟩
theorem own_put {W : World} {base n g : Nat} {e : TypeId} {v : Value} {xs : List Value} (h : W.ownsRow base e 1 v n xs) (hne : v.ownBlock ≠ some g) (a b c d : Value) :
    ((((W.setCell ⟨g, 0, none⟩ a).setCell ⟨g, 1, none⟩ b).setCell ⟨g, 2, none⟩ c).setCell ⟨g, 3, none⟩ d).ownsRow base e 1 v n xs :=
  h.kept (grown_set (grown_set (grown_set (grown_set (World.grownBy.refl W (some g)) 0 a) 1 b) 2 c) 3 d) (.inr hne)

/-- Read of the sheet. -/
theorem sp_read {l : Lw} {F : Nat} {k : Int} (h : SpOK l (spB F l.pn k) F k) (a : Option Addr) (c : Nat) (W : World) (hs : BallsAt W a (spB F l.pn k)) :
    Calls Tryd.prog 23 #[l.val, .slice a (2 * F + 1) c] W fun e w' => ∃ fa fn fc qa qc st, e = .returned (.tuple #[.agg #[.slice fa fn fc, .slice qa F qc, .int .i64 st, .bool true], .int .i64 0]) ∧
      w'.ownsRow W.heap.size 3 1 (.slice qa F qc) F ((rdM l (spB F l.pn k)).map (Value.int .i64)) ∧ Below W.heap.size W w' := by
  have h0 := rd_good l (spB F l.pn k) a c W hs h.e
  have hl : (spB F l.pn k).length = 2 * F + 1 := by simp [spB, spL_len]
  rw [hl] at h0
  refine h0.mono ?_
  rintro e w' ⟨fv, qv, rfl, ⟨base, cv, vs, how, hln, _⟩, ⟨base2, hq, hq2⟩, hb⟩
  have o24 := how.own (24, fv, vs) (by simp [items])
  simp only at o24
  obtain ⟨fa, fc, rfl⟩ := own_len o24
  rw [h.t, h.m] at hq
  obtain ⟨qa, qc, rfl⟩ := own_len hq
  refine ⟨fa, vs.length, fc, qa, qc, (recS l (spB F l.pn k)).s.s, ?_, own_mono hq hq2, hb⟩
  simp [gameV, h.s]

set_option maxRecDepth 100000 in
set_option maxHeartbeats 16000000 in
theorem spares_any (l : Lw) (m : Int) (w : World) (hT : TabOK w) (hm0 : 0 ≤ m) (hm1 : m < 256) :
    Calls Tryd.prog 14 #[l.val, .int .u8 m] w fun e w' => e = .returned (.bool true) ∧ Below w.heap.size w w' := by
  have HT := Lib.hid hT
  have WAK := Lib.hid wakes_any
  have ISL := Lib.hid (isLaw_any l)
  clear hT
  by_cases hok : okB l = true
  · have ok := (okB_iff l).1 hok
    have o1 := ok.f1
    have o2 := ok.f2
    have o3 := ok.p1
    have o4 := ok.p2
    have o5 := ok.t1
    have o6 := ok.t2
    obtain ⟨F, hF⟩ : ∃ F : Nat, l.fr = (F : Int) := ⟨l.fr.toNat, by omega⟩
    obtain ⟨k, hk⟩ : ∃ k, m.tmod l.tp = k := ⟨_, rfl⟩
    have hk0 : 0 ≤ k := by rw [← hk]; exact Int.tmod_nonneg _ hm0
    have hk1 : k < l.tp := by rw [← hk]; exact Int.tmod_lt_of_pos _ (by omega)
    have SO := sp_ok hok hF hk0 hk1
    have LAW := Lib.hid (law_any l)
    have RN := Lib.hid (sp_read SO)
    have SN := Lib.hid SO.n
    rw [hok] at ISL
    clear SO hok ok
    unfold Lw.val at *
    have HF := Lib.hid hF
    clear hF
    have hwm : IntKind.i64.wrap m = m := IntWalk.i64_in _ (by omega)
    have hwk : IntKind.i64.wrap k = k := IntWalk.i64_in _ (by omega)
    have htp : ¬ l.tp = 0 := by omega
    go_enter Tryd.func14, Tryd.ntmps14
    go_wp2_with fail
    have A1 := WL.start w l
    generalize World.alloc w _ = w1 at A1 ⊢
    obtain ⟨k0, k1, k2, k3⟩ := WL.at A1
    go_wp2_with fail
    refine (ISL.out w1).mono ?_
    rintro e w2 ⟨rfl, hb⟩
    have A2 := WL.lo A1 hb
    clear hb A1 k0 k1 k2 k3
    obtain ⟨k0, k1, k2, k3⟩ := WL.at A2
    go_wp2_with fail
    obtain ⟨i3, hi3, hy0, hy1, hy2⟩ := info_parts info3
    have hwp : IntKind.i64.wrap (l.pn - k) = l.pn - k := IntWalk.i64_in _ (by omega)
    have hF1 : 1 ≤ F := by have := HF.out; omega
    have hF10 : F ≤ 10 := by have := HF.out; omega
    clear hwm htp hk hm0 hm1 k0 k1 k2 k3 ISL
    go_loopg [6, 7] F (fun g s6 s7 wx => ∃ (j : Nat), j ≤ F ∧ g = F - j ∧ s7 = .int .i64 (j : Int) ∧ Hid (wx.ownsRow w2.heap.size 3 1 s6 (2 * j) ((spL j l.pn k).map (Value.int .i64))) ∧ Hid (BL w2 wx))
    case atStart => exact ⟨0, by omega, rfl, rfl, Lib.hid (World.ownsRow_nil _ _ _ _), BL.start w2⟩
    case round =>
      obtain ⟨j, hj, rfl, rfl, how, hB⟩ := hrel
      obtain ⟨k0, k1, k2, k3⟩ := BL.law hB A2
      by_cases hlt : j < F
      · obtain ⟨sa, sc, rfl⟩ := own_len how.out
        have hj1 : (j : Int) < l.fr := by rw [HF.out]; omega
        have hj0 : (0 : Int) ≤ (j : Int) := by omega
        go_wp2_with (at_builtin; go_must (refine wpList_append_own_at _ rfl _ _ 24 rfl w2.heap.size 3 i3 (.int .i64 0) 1 8 Tryd.underlying24 hi3 hy0 hy1 hy2 rfl (by decide) _ (2 * j) _ rfl (own_al how.out _) ⟨wr.heap.size, 0, none⟩ 2 2 [.int .i64 k, .int .i64 (l.pn - k)] rfl rfl (World.news_of_block (heap_alloc_new wr _)) (by simp [Value.oneCell']) (by unfold maxLen; omega) (by omega) (BL.al hB _).out.b.size ?_); intro v' w9 hown' hgrow hnil hloc; have ho1 := Lib.hid hown'; have hB9 := BL.grow (BL.al hB _) how.out (Nat.le_refl _) hgrow; clear hown' hgrow hnil hloc)
        go_roundg (F - (j + 1))
        case measure => omega
        case rel =>
          refine ⟨j + 1, by omega, rfl, by simp, Lib.hid ?_, hB9⟩
          rw [spL_succ, List.map_append]
          exact ho1.out
      · have hje : j = F := by omega
        subst hje
        have hj1 : ¬ (j : Int) < l.fr := by rw [HF.out]; omega
        have hd0 := hB.out.b.size
        obtain ⟨gs, cap, hv, hg0, hg1, hg2, hg3⟩ := own_form how.out (by omega)
        cases hv
        have B := hB
        have O := how
        have hys : Hid (spL j l.pn k ++ [k] = spB j l.pn k) := Lib.hid rfl
        generalize rdM l (spB j l.pn k) = M at RN SN
        clear hlt hB how hj
        go_wp2_with fail
        refine (LAW.out wr).mono ?_
        rintro e wA ⟨rfl, hb⟩
        have PA := BL.lo B hb
        have OA := Lib.hid (own_below O.out hb)
        clear hb B O k0 k1 k2 k3
        go_wp2_with (at_builtin; go_must (refine wpList_append_own_at _ rfl _ _ 24 rfl w2.heap.size 3 i3 (.int .i64 0) 1 8 Tryd.underlying24 hi3 hy0 hy1 hy2 rfl (by decide) _ (2 * j) _ rfl (own_al OA.out _) ⟨wA.heap.size, 0, none⟩ 1 1 [.int .i64 k] rfl rfl (World.news_of_block (heap_alloc_new wA _)) (by simp [Value.oneCell']) (by unfold maxLen; omega) (by omega) (BL.al PA _).out.b.size ?_); intro v' wC hown' hgrow hnil hloc; have PC := BL.grow (BL.al PA _) OA.out (Nat.le_refl _) hgrow; have OC := Lib.hid hown'; clear hown' hgrow hnil hloc)
        obtain ⟨va, vc, rfl⟩ := own_len OC.out
        refine (RN.out va vc wC (sn_balls hys.out OC.out).out).mono ?_
        rintro e wD ⟨fa, fn, fc, qa, qc, st, rfl, ho, hb⟩
        obtain ⟨j1, rfl⟩ : ∃ j1, j = j1 + 1 := ⟨j - 1, by omega⟩
        obtain ⟨gq, cq', hv, hq1, hq2, hq3, hq4⟩ := own_form ho (by omega)
        cases hv
        have PD := BL.al (BL.lo PC hb) (.cells #[.slice fa fn fc, .slice (some ⟨gq, 0, none⟩) (j1 + 1) qc, .int .i64 st, .bool true] 43)
        have GD := GK.new wD (.slice fa fn fc) (.slice (some ⟨gq, 0, none⟩) (j1 + 1) qc) st true
        have hix : j1 + 1 - 1 = j1 := by omega
        have cK := Lib.hid (below_cell (below_al wD (.cells #[.slice fa fn fc, .slice (some ⟨gq, 0, none⟩) (j1 + 1) qc, .int .i64 st, .bool true] 43)) (own_cell ho j1 _ (by rw [List.getElem?_map, ← hix, SN.out]; rfl)))
        clear hb ho PA OA PC OC hq1 hq2 hq3 hq4 RN SN LAW hg0 hg1 hg2 hg3 hys hi3 hy0 hy1 hy2 hj1
        have e0 : l.fr = (j1 : Int) + 1 := by rw [HF.out]; simp
        have e1 : IntKind.i64.wrap (j1 : Int) = (j1 : Int) := IntWalk.i64_in _ (by omega)
        have e2 : IntKind.i64.wrap (l.pn + k) = l.pn + k := IntWalk.i64_in _ (by omega)
        have e3 : IntKind.i64.wrap (((j1 : Int) + 1) * (l.pn + k)) = ((j1 : Int) + 1) * (l.pn + k) := IntWalk.i64_in _ (by
          have q1 : ((j1 : Int) + 1) * (l.pn + k) ≤ 10 * (l.pn + k) := Int.mul_le_mul_of_nonneg_right (by omega) (by omega)
          have q2 : 0 ≤ ((j1 : Int) + 1) * (l.pn + k) := Int.mul_nonneg (by omega) (by omega)
          omega)
        have y0 : (0 : Int) ≤ (j1 : Int) := by omega
        have y1 : (j1 : Int) < (j1 : Int) + 1 := by omega
        clear hix hF1 hF10 hwk hwp hd0 HF o1 o2 o3 o4 o5 o6 hk0 hk1
        go_wp2_with fail
        generalize World.alloc wD _ = we at PD GD cK ⊢
        obtain ⟨c0, c1, c2, c3⟩ := GK.at GD
        obtain ⟨k0, k1, k2, k3⟩ := BL.law PD A2
        have cQ := cK.out
        have AE := WL.lo A2 PD.out.b
        have WK : Hid (Calls Tryd.prog 15 #[] we.drew fun e w' => e = .returned (.bool true) ∧ Below w.heap.size w w') := Lib.hid ((WAK.out we.drew (HT.out.below (WL.dr AE).out.bl HT.out.pos)).mono fun e w' h => ⟨h.1, (WL.dr AE).out.bl.trans (h.2.mono (WL.dr AE).out.bl.size)⟩)
        clear GD cK PD AE
        refine wp_region_still_tail 32 (by kernel_rfl) (by kernel_rfl) ?_
        simp only [List.take_succ_cons, List.take_zero, List.drop_succ_cons, List.drop_zero]
        iterate 32 (with_reducible refine wpStill_step (fun K hK => ?_); go_simp; with_reducible refine hK _ ?_; clear hK K)
        with_reducible refine wpStill_nil ?_
        go_wp2_with fail
        refine WK.out.mono ?_
        rintro e wf ⟨rfl, hb⟩
        have BF := Lib.hid hb
        clear hb
        go_wp2_with fail
        go_ret
        exact ⟨rfl, BF.out⟩
  · have hok' : okB l = false := by simpa using hok
    rw [hok'] at ISL
    clear hok hok'
    unfold Lw.val at *
    go_enter Tryd.func14, Tryd.ntmps14
    go_wp2_with fail
    have A1 := WL.start w l
    generalize World.alloc w _ = w1 at A1 ⊢
    obtain ⟨k0, k1, k2, k3⟩ := WL.at A1
    go_wp2_with fail
    refine (ISL.out w1).mono ?_
    rintro e w2 ⟨rfl, hb⟩
    have A2 := WL.lo A1 hb
    clear hb A1 k0 k1 k2 k3
    go_wp2_with fail
    refine (WAK.out _ (HT.out.below A2.out.bl HT.out.pos)).mono ?_
    rintro e w3 ⟨rfl, hb⟩
    have BF := Lib.hid (A2.out.bl.trans (hb.mono A2.out.bl.size))
    clear hb
    go_wp2_with fail
    go_ret
    exact ⟨rfl, BF.out⟩

end Go.Proofs.YtmjbidnlknmcgaaDoor
