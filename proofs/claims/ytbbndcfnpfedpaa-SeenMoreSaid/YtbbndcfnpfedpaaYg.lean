/- The walk of SeenMore. -/
import Derived.Test.YtbbndcfnpfedpaaYe
set_option linter.unusedVariables false
set_option linter.unusedSimpArgs false
namespace Go.Proofs.Ytbbndcfnpfedpaa
open Go.RowKit Go.Shelf Go.Maps

attribute [local go_sem] Oper.semAt_some

set_option maxRecDepth 100000 in
set_option maxHeartbeats 16000000 in
theorem seenMore_any (l : Lan) (u pl : Int) (mo : Wd) (w : World) (hL : WdsAt w l.wa l.ws) (_ : (l.ws.length : Int) ≤ 9223372036854775807) (hnl : l.wa = none → l.ws = [] ∧ l.wc = 0) (h0 : 0 ≤ u) (h1 : u < 256) (hp0 : 0 ≤ pl) (hp1 : pl < 256) :
    Calls Try.prog 11 #[l.val, .int .u8 u, .int .u8 pl, mo.val] w fun e w' => e = .returned (.bool true) ∧ Below w.heap.size w w' := by
  have RD := Lib.hid (fun W (hb : Below w.heap.size w W) => ready_any l W (hL.lo hb))
  have CH := Lib.hid (fun W => chosen_any u W h0 h1)
  have WK := Lib.hid (fun W => wakes_any W)
  have X := Lib.hid ((BX.mk' l w).lo (below_al _ (.cells #[.int .i64 mo.fr, .int .i64 mo.ba, .int .i64 mo.te, .int .i64 mo.le, .int .i64 mo.mo] 81)))
  have M := Lib.hid (Blk.nw1 w (.cells #[.int .i64 l.fs, .slice l.wa l.ws.length l.wc] 24) #[.int .i64 mo.fr, .int .i64 mo.ba, .int .i64 mo.te, .int .i64 mo.le, .int .i64 mo.mo] 81)
  obtain ⟨ts, hts⟩ : ∃ ts, Hid (ts = chosenL u) := ⟨_, Lib.hid rfl⟩
  rw [← hts.out] at CH
  have HTL := Lib.hid (show ts.length ≤ 4 by have := chosenL_len u; rw [hts.out]; omega)
  have HRI := Lib.hid (show riseIn 0 3 ts = true by rw [hts.out]; exact chosenL_rise u)
  unfold RetJ at CH
  by_cases hF : faultW l = 0
  · have hF2 := hF
    have hR : decide (faultW l = 0) = true := by simp [hF]
    rw [hR] at RD
    have hlen := fault_len hF2
    by_cases h29 : l.ws.length ≤ 29
    · have LN := Lib.hid (fun W (hb : Below w.heap.size w W) => lawLane_any l W (hL.lo hb) (by omega))
      have LI := Lib.hid (fun a c W (hX : IntsAt W a ts) (h0 : a = none → ts = [] ∧ c = 0) => lawlist_any ts a c W hX h0 (by have := HTL.out; omega))
      have RG := Lib.hid (fun (a a2 : Option Addr) (c c2 : Nat) W (hW : WdsAt W a l.ws) (hg : ∀ g o, a = some ⟨g, o, none⟩ → g < W.heap.size) (hX : IntsAt W a2 ts) => rangesP_any { l with wa := a, wc := c } ts a2 c2 W hW hX (by show l.ws.length ≤ 1000; omega) (by have := HTL.out; omega) hg)
      unfold RngR at RG
      simp only [(same_rngs l _ _ ts).1, (same_rngs l _ _ ts).2.1, (same_rngs l _ _ ts).2.2] at RG
      have LN2 := Lib.hid (fun (g c : Nat) (ws : List Wd) (hn : ws.length ≤ 1000) W (hW : WdsAt W (some ⟨g, 0, none⟩) ws) => lawLane_any ⟨l.fs, some ⟨g, 0, none⟩, c, ws⟩ W hW hn)
      have RD2 := Lib.hid (fun (g c : Nat) (ws : List Wd) W (hW : WdsAt W (some ⟨g, 0, none⟩) ws) => ready_any ⟨l.fs, some ⟨g, 0, none⟩, c, ws⟩ W hW)
      have EX2 := Lib.hid (fun (ws : List Wd) (hn : ws.length ≤ 1000) (a a2 : Option Addr) (c c2 : Nat) W (hW : WdsAt W a ws) (hg : ∀ g o, a = some ⟨g, o, none⟩ → g < W.heap.size) (hX : IntsAt W a2 ts) => explains_any ⟨l.fs, a, c, ws⟩ ts a2 c2 W hW hX hn (by have := HTL.out; omega) hg)
      unfold NewLan at LN LN2
      have hfs := (fault0 hF2).2.2
      have HFS := Lib.hid (show 1 ≤ l.fs ∧ l.fs ≤ 5 from ⟨hfs.1, hfs.2.1⟩)
      have HE := Lib.hid (show gofE l ts = 0 ∨ gofE l ts = 9 from by
        have hc : chkE l ts = 0 := chkE_ok hF2 HRI.out
        rw [gofE_of hc]; split
        · exact .inl rfl
        · exact .inr rfl)
      have HLN := Lib.hid (fun h => rngsL_len (l := l) (ts := ts) h)
      have NA1 := Lib.hid (fun (g c : Nat) (ws : List Wd) (hn : ws.length ≤ 1000) (a2 : Option Addr) (c2 : Nat) W (hb : Below w.heap.size w W) (hW : WdsAt W (some ⟨g, 0, none⟩) ws) (hX : IntsAt W a2 ts) (hnl2 : a2 = none → ts = [] ∧ c2 = 0) (NH : NarH (withW l ws) l ts) => narrower_any ⟨l.fs, some ⟨g, 0, none⟩, c, ws⟩ l ts a2 c2 W hW (hL.lo hb) hX hnl2 hn (by omega) (by have := HTL.out; omega) (NarH.to NH))
      have NA2 := Lib.hid (fun (g c : Nat) (ws : List Wd) (hn : ws.length ≤ 1000) (a2 : Option Addr) (c2 : Nat) W (hb : Below w.heap.size w W) (hW : WdsAt W (some ⟨g, 0, none⟩) ws) (hX : IntsAt W a2 ts) (hnl2 : a2 = none → ts = [] ∧ c2 = 0) (NH : NarH l (withW l ws) ts) => narrower_any l ⟨l.fs, some ⟨g, 0, none⟩, c, ws⟩ ts a2 c2 W (hL.lo hb) hW hX hnl2 (by omega) hn (by have := HTL.out; omega) (NarH.to NH))
      have MS := Lib.hid (fun (hE : gofE l ts = 0) (k : Nat) (r : Int × Int) (hr : (rngsL l ts)[k]? = some r) (t : Int) (ht : 0 ≤ t ∧ t ≤ 3) => more_same hE h29 hr ht)
      have MN := Lib.hid (fun (hE : gofE l ts = 0) (hF : faultW (withW l (l.ws ++ [mo])) = 0) (hx : explB (withW l (l.ws ++ [mo])) ts = true) => more_nar hE hF hx)
      have HCK := Lib.hid (fun (hF : faultW (withW l (l.ws ++ [mo])) = 0) => chkE_ok hF HRI.out)
      have WS0 := Lib.hid hL
      have WN := Lib.hid hnl
      have WL := Lib.hid (show l.ws.length ≤ 900 by omega)
      have HLW := Lib.hid (show ∀ x : Wd, (l.ws ++ [x]).length ≤ 1000 from fun x => by simp; omega)
      have h29c : decide ((29 : Int) < (l.ws.length : Int)) = false := decide_eq_false (by omega)
      have h29b : ¬ ((29 : Int) < (l.ws.length : Int)) := by omega
      obtain ⟨E, hE⟩ : ∃ E, Hid (E = gofE l ts) := ⟨_, Lib.hid rfl⟩
      rw [← hE.out] at RG HE HLN MS MN
      obtain ⟨R, hRR⟩ : ∃ R, Hid (R = rngsL l ts) := ⟨_, Lib.hid rfl⟩
      rw [← hRR.out] at RG HLN MS
      generalize cntL (gofL l ts) = cn at *
      have HP := Lib.hid (And.intro hp0 hp1)
      have EC := Lib.hid (show IntKind.i64.wrap pl = pl from IntWalk.i64_in _ (by omega))
      obtain ⟨ys, hys⟩ : ∃ ys, Hid (ys = l.ws ++ [mo]) := ⟨_, Lib.hid rfl⟩
      have HYL := Lib.hid (show ys.length ≤ 1000 by rw [hys.out]; exact HLW.out _)
      rw [← hys.out] at MN HCK
      unfold Wd.val
      obtain ⟨mfr, mba, mte, mle, mmo⟩ := mo
      simp only at *
      unfold Lan.val at *
      clear hL h0 h1 hF hF2 hR hfs hnl hlen h29 hp0 hp1
      go_enter Try.func11, Try.ntmps11
      go_wp2_with fail
      generalize (w.alloc _).alloc _ = W0 at X M ⊢
      have k0 := X.out.b.cell 0 (show _ = some (Value.int .i64 l.fs) from rfl)
      have k1 := X.out.b.cell 1 (show _ = some (Value.slice l.wa l.ws.length l.wc) from rfl)
      go_wp2_with fail
      refine (RD.out _ X.out.bl).mono ?_
      rintro e w1 ⟨rfl, hb⟩
      replace X := Lib.hid (X.out.lo hb)
      replace M := Lib.hid (Blk.alt (p := fun _ => False) M.out (Alt.of_below hb (fun k hk e => by omega)) id)
      clear hb k0 k1 RD
      have k0 := X.out.b.cell 0 (show _ = some (Value.int .i64 l.fs) from rfl)
      have k1 := X.out.b.cell 1 (show _ = some (Value.slice l.wa l.ws.length l.wc) from rfl)
      go_wp2_with fail
      refine (CH.out _).mono ?_
      rintro e w2 ⟨a2, c2, rfl, hI, hg, hnl, hb⟩
      replace X := Lib.hid (X.out.lo hb)
      replace M := Lib.hid (Blk.alt (p := fun _ => False) M.out (Alt.of_below hb (fun k hk e => by omega)) id)
      have I2 := Lib.hid hI
      have N2 := Lib.hid hnl
      clear hI hg hnl hb CH k0 k1 h29b h29c
      have k0 := X.out.b.cell 0 (show _ = some (Value.int .i64 l.fs) from rfl)
      have k1 := X.out.b.cell 1 (show _ = some (Value.slice l.wa l.ws.length l.wc) from rfl)
      go_wp2_with fail
      refine (LN.out _ X.out.bl).mono ?_
      rintro e w5 ⟨a3, c3, rfl, hW3, hg3, hb⟩
      replace X := Lib.hid (X.out.lo hb)
      replace M := Lib.hid (Blk.alt (p := fun _ => False) M.out (Alt.of_below hb (fun k hk e => by omega)) id)
      replace I2 := Lib.hid (I2.out.lo hb)
      have W3 := Lib.hid hW3
      have G3 := Lib.hid hg3
      clear hW3 hg3 hb k0 k1
      go_wp2_with fail
      refine (LI.out _ _ _ I2.out N2.out).mono ?_
      rintro e w6 ⟨v4, rfl, ho, hb⟩
      obtain ⟨a4, c4, rfl⟩ := own_len ho
      have I4 := Lib.hid (own_intsAt ho).1
      replace X := Lib.hid (X.out.lo hb)
      replace M := Lib.hid (Blk.alt (p := fun _ => False) M.out (Alt.of_below hb (fun k hk e => by omega)) id)
      replace I2 := Lib.hid (I2.out.lo hb)
      have W4 := Lib.hid (W3.out.lo hb)
      have G4 := Lib.hid (show ∀ g o, a3 = some ⟨g, o, none⟩ → g < w6.heap.size from fun g o e => Nat.lt_of_lt_of_le (G3.out g o e) hb.size)
      clear ho hb W3 G3
      have R4 := Lib.hid (RG.out a3 a4 c3 c4 _ W4.out G4.out I4.out)
      clear W4 G4 I4 RG
      go_wp2_with fail
      refine R4.out.mono ?_
      rintro e w9 ⟨a5, c5, rfl, hP, hB, hb⟩
      replace X := Lib.hid (X.out.lo hb)
      replace M := Lib.hid (Blk.alt (p := fun _ => False) M.out (Alt.of_below hb (fun k hk e => by omega)) id)
      replace I2 := Lib.hid (I2.out.lo hb)
      have P := Lib.hid hP
      clear hP hB hb R4
      have BA := below_al w9 (.cells #[.int .i64 cn.1, .int .i64 cn.2] 41)
      replace X := Lib.hid (X.out.lo BA)
      replace M := Lib.hid (Blk.alt (p := fun _ => False) M.out (Alt.of_below BA (fun k hk e => by omega)) id)
      replace I2 := Lib.hid (I2.out.lo BA)
      replace P := Lib.hid (P.out.lo BA)
      clear BA
      by_cases hE0 : E = 0
      · subst hE0
        have MS2 := Lib.hid (MS.out (by first | rfl | trivial))
        have MN2 := Lib.hid (MN.out (by first | rfl | trivial))
        have HLN2 := Lib.hid (HLN.out (by first | rfl | trivial))
        obtain ⟨N, hN⟩ : ∃ N, Hid (N = R.length) := ⟨_, Lib.hid rfl⟩
        have HN := Lib.hid (show (N : Int) = 2 * l.fs ∧ 2 ≤ N ∧ N ≤ 10 by rw [hN.out]; have := HLN2.out; have := HFS.out; omega)
        have e1 : IntKind.i64.wrap (2 * l.fs) = (N : Int) := by rw [HN.out.1]; exact IntWalk.i64_in _ (by have := HFS.out; omega)
        rw [← hN.out]
        obtain ⟨k0n, hk0n⟩ : ∃ k : Nat, Hid (k = pl.toNat % N) := ⟨_, Lib.hid rfl⟩
        have HK := Lib.hid (show k0n < N by rw [hk0n.out]; exact Nat.mod_lt _ (by have := HN.out; omega))
        have tm : Int.tmod pl (N : Int) = (k0n : Int) := by rw [Int.tmod_eq_emod_of_nonneg HP.out.1, hk0n.out, Int.natCast_emod, show ((pl.toNat : Nat) : Int) = pl by have := HP.out; omega]
        obtain ⟨⟨lo, hi⟩, hr⟩ : ∃ r, R[k0n]? = some r := ⟨R[k0n]'(by have := HK.out; rw [← hN.out]; exact this), List.getElem?_eq_getElem _⟩
        have HR := Lib.hid hr
        obtain ⟨t, ht⟩ : ∃ t, Hid (t = Int.tmod pl 4) := ⟨_, Lib.hid rfl⟩
        have HT := Lib.hid (show 0 ≤ t ∧ t ≤ 3 by rw [ht.out, Int.tmod_eq_emod_of_nonneg HP.out.1]; omega)
        have MS3 := Lib.hid (MS2.out k0n (lo, hi) hr t HT.out)
        have hz : ((N : Int) == 0) = false := by have := HN.out; simp; omega
        have hz2 : ¬ (N : Int) = 0 := by have := HN.out; omega
        have hnn : ((N : Int) != (N : Int)) = false := by simp
        have ec := EC.out
        clear hr MS MN MS2 HLN HE
        have k0 := X.out.b.cell 0 (show _ = some (Value.int .i64 l.fs) from rfl)
        go_wp2_with fail
        clear k0 e1 tm hz hz2 hnn
        generalize World.alloc w9 _ = wr at X M I2 P ⊢
        obtain ⟨g5, o5, rfl, p1, p2⟩ := P.out k0n (lo, hi) HR.out
        simp only at p1 p2 MS3
        have hk1 : (0 : Int) ≤ (k0n : Int) := by omega
        have hk2 : (k0n : Int) < (N : Int) := by have := HK.out; omega
        have t4 : Int.tmod pl 4 = t := by rw [ht.out]
        obtain ⟨fr, hfr⟩ : ∃ fr, Hid (fr = ((k0n / 2 : Nat) : Int)) := ⟨_, Lib.hid rfl⟩
        obtain ⟨ba, hba⟩ : ∃ ba, Hid (ba = ((k0n % 2 : Nat) : Int)) := ⟨_, Lib.hid rfl⟩
        rw [← hfr.out, ← hba.out] at MS3
        have tq : Int.tdiv (k0n : Int) 2 = fr := by rw [hfr.out, Int.tdiv_eq_ediv_of_nonneg (by omega)]; simp
        have tw : IntKind.i64.wrap fr = fr := by rw [hfr.out]; exact IntWalk.i64_in _ (by have := HK.out; have := HN.out; omega)
        have tr : Int.tmod (k0n : Int) 2 = ba := by rw [hba.out, Int.tmod_eq_emod_of_nonneg (by omega)]; simp
        have k0 := X.out.b.cell 0 (show _ = some (Value.int .i64 l.fs) from rfl)
        have k1 := X.out.b.cell 1 (show _ = some (Value.slice l.wa l.ws.length l.wc) from rfl)
        have SK := Lib.hid (show ∀ Wx, Below wr.heap.size wr Wx → (Wx.cell? ⟨w.heap.size, 0, none⟩ = some (.int .i64 l.fs) ∧ Wx.cell? ⟨w.heap.size, 1, none⟩ = some (.slice l.wa l.ws.length l.wc) ∧ Wx.cell? ⟨g5, o5 + k0n * 2, none⟩ = some (.int .i64 lo) ∧ Wx.cell? ⟨g5, o5 + k0n * 2 + 1, none⟩ = some (.int .i64 hi)) from fun Wx hb => ⟨cell_lo hb k0, cell_lo hb k1, cell_lo hb p1, cell_lo hb p2⟩)
        have WS := Lib.hid (WS0.out.lo X.out.bl)
        go_wp2_with fail
        go_cut [14] from 133 (fun s14 wx => ∃ b15 g15 c15 : Nat, s14 = .pointer (some ⟨b15, 0, none⟩) ∧ Hid (NB l.fs (l.ws ++ [⟨fr, ba, t, lo, hi⟩]) (l.ws.length + 1) b15 g15 c15 wr wx))
        case first =>
          (go_region_held3 (fun Wx => Wx.cell? ⟨w.heap.size, 0, none⟩ = some (.int .i64 l.fs) ∧ Wx.cell? ⟨w.heap.size, 1, none⟩ = some (.slice l.wa l.ws.length l.wc) ∧ Wx.cell? ⟨g5, o5 + k0n * 2, none⟩ = some (.int .i64 lo) ∧ Wx.cell? ⟨g5, o5 + k0n * 2 + 1, none⟩ = some (.int .i64 hi))
              (first | (with_reducible exact SK.out _ NX.out.bl) | (refine SK.out _ ?_; (repeat (first | (with_reducible exact hD.bl) | (with_reducible exact hC.bl) | (with_reducible exact Below.refl _ _) | (with_reducible refine Below.drew ?_) | (with_reducible refine below_al2 ?_ _)))))
              (first | ((refine armCopy (wr := wr) WS.out WN.out WL.out rfl rfl rfl rfl ?_ ?_ ?_ ?_); ((repeat (first | (with_reducible exact Blk.new _ _ _) | (with_reducible exact Blk.nw1 _ _ _ _) | (with_reducible exact Blk.nw2 _ _ _ _ _) | (with_reducible exact Blk.nw2' _ _ _ _ _) | (with_reducible refine Blk.al ?_ _) | (with_reducible refine Blk.dr ?_) | (refine hvK hC.keep ?_ ?_; (first | (focus (simp; done)) | omega | (have hz := hC.bl.size; (try simp at hz ⊢); omega)))))); ((repeat (first | (with_reducible exact hD.bl) | (with_reducible exact hC.bl) | (with_reducible exact Below.refl _ _) | (with_reducible refine Below.drew ?_) | (with_reducible refine below_al2 ?_ _)))); (first | exact Nat.le_refl _ | (focus (simp; done)) | omega); (intro v1 w1 hC)) | ((first | refine armOne (wr := wr) (y0 := fr) (y1 := ba) (y2 := t) (y3 := lo) (y4 := hi) hC.ow WL.out hC.sz rfl rfl rfl rfl ?_ ?_ ?_ ?_ | refine armOne (wr := wr) (y0 := fr) (y1 := ba) (y2 := t) (y3 := lo) (y4 := hi) (hC.ow.alloc _) WL.out (sz_al hC.sz _) rfl rfl rfl rfl ?_ ?_ ?_ ?_ | refine armOne (wr := wr) (y0 := fr) (y1 := ba) (y2 := t) (y3 := lo) (y4 := hi) ((hC.ow.alloc _).alloc _) WL.out (sz_al (sz_al hC.sz _) _) rfl rfl rfl rfl ?_ ?_ ?_ ?_); ((repeat (first | (with_reducible exact Blk.new _ _ _) | (with_reducible exact Blk.nw1 _ _ _ _) | (with_reducible exact Blk.nw2 _ _ _ _ _) | (with_reducible exact Blk.nw2' _ _ _ _ _) | (with_reducible refine Blk.al ?_ _) | (with_reducible refine Blk.dr ?_) | (refine hvK hC.keep ?_ ?_; (first | (focus (simp; done)) | omega | (have hz := hC.bl.size; (try simp at hz ⊢); omega)))))); ((repeat (first | (with_reducible exact hD.bl) | (with_reducible exact hC.bl) | (with_reducible exact Below.refl _ _) | (with_reducible refine Below.drew ?_) | (with_reducible refine below_al2 ?_ _)))); (first | exact Nat.le_refl _ | (focus (simp; done)) | omega); (intro gD cD w2 hD); (try (first | (refine hvE (hD.far wr.heap.size) (cs := #[.int .i64 0, .slice none 0 0]) (t := 24) ?_ ?_ ?_ ?_; (focus ((repeat (first | (with_reducible exact Blk.new _ _ _) | (with_reducible exact Blk.nw1 _ _ _ _) | (with_reducible exact Blk.nw2 _ _ _ _ _) | (with_reducible exact Blk.nw2' _ _ _ _ _) | (with_reducible refine Blk.al ?_ _) | (with_reducible refine Blk.dr ?_) | (refine hvK hC.keep ?_ ?_; (first | (focus (simp; done)) | omega | (have hz := hC.bl.size; (try simp at hz ⊢); omega))))); done)); (first | (focus (simp; done)) | (have hz := hC.bl.size; (try simp at hz ⊢); omega) | (have hz := hC.sz; (try simp at hz ⊢); omega) | (have hz := hC.up; (try simp at hz ⊢); omega)); (first | (intro kk hk e; have h := hC.own kk hk; simp only [World.size_alloc, World.size_drew] at h; omega) | (intro kk hk e; have h := hC.ow.lt kk hk; omega)); intro BE0 NE0; refine hv (T := wr.heap.size ≤ wr.heap.size) ?_ ?_; (first | (focus (simp; done)) | (have hz := hC.bl.size; (try simp at hz ⊢); omega) | (have hz := hC.sz; (try simp at hz ⊢); omega) | (have hz := hC.up; (try simp at hz ⊢); omega)); intro ZE0; have NX := Lib.hid (NB.mk1 (fs := l.fs) (wr := wr) (n := l.ws.length + 1) hD (by simp) BE0 NE0 ZE0); have t0 := BE0.cell 0 (show _ = some (Value.int .i64 0) from rfl); have t1 := BE0.cell 1 (show _ = some (Value.slice none 0 0) from rfl); have f0 := BE0.fr 0; have f1 := BE0.fr 1; clear BE0 ZE0 NE0) | (refine hvE (hD.far (wr.heap.size + 1)) (cs := #[.int .i64 0, .slice none 0 0]) (t := 24) ?_ ?_ ?_ ?_; (focus ((repeat (first | (with_reducible exact Blk.new _ _ _) | (with_reducible exact Blk.nw1 _ _ _ _) | (with_reducible exact Blk.nw2 _ _ _ _ _) | (with_reducible exact Blk.nw2' _ _ _ _ _) | (with_reducible refine Blk.al ?_ _) | (with_reducible refine Blk.dr ?_) | (refine hvK hC.keep ?_ ?_; (first | (focus (simp; done)) | omega | (have hz := hC.bl.size; (try simp at hz ⊢); omega))))); done)); (first | (focus (simp; done)) | (have hz := hC.bl.size; (try simp at hz ⊢); omega) | (have hz := hC.sz; (try simp at hz ⊢); omega) | (have hz := hC.up; (try simp at hz ⊢); omega)); (first | (intro kk hk e; have h := hC.own kk hk; simp only [World.size_alloc, World.size_drew] at h; omega) | (intro kk hk e; have h := hC.ow.lt kk hk; omega)); intro BE0 NE0; refine hv (T := wr.heap.size ≤ (wr.heap.size + 1)) ?_ ?_; (first | (focus (simp; done)) | (have hz := hC.bl.size; (try simp at hz ⊢); omega) | (have hz := hC.sz; (try simp at hz ⊢); omega) | (have hz := hC.up; (try simp at hz ⊢); omega)); intro ZE0; have NX := Lib.hid (NB.mk1 (fs := l.fs) (wr := wr) (n := l.ws.length + 1) hD (by simp) BE0 NE0 ZE0); have t0 := BE0.cell 0 (show _ = some (Value.int .i64 0) from rfl); have t1 := BE0.cell 1 (show _ = some (Value.slice none 0 0) from rfl); have f0 := BE0.fr 0; have f1 := BE0.fr 1; clear BE0 ZE0 NE0) | (refine hvE (hD.far (wr.heap.size + 2)) (cs := #[.int .i64 0, .slice none 0 0]) (t := 24) ?_ ?_ ?_ ?_; (focus ((repeat (first | (with_reducible exact Blk.new _ _ _) | (with_reducible exact Blk.nw1 _ _ _ _) | (with_reducible exact Blk.nw2 _ _ _ _ _) | (with_reducible exact Blk.nw2' _ _ _ _ _) | (with_reducible refine Blk.al ?_ _) | (with_reducible refine Blk.dr ?_) | (refine hvK hC.keep ?_ ?_; (first | (focus (simp; done)) | omega | (have hz := hC.bl.size; (try simp at hz ⊢); omega))))); done)); (first | (focus (simp; done)) | (have hz := hC.bl.size; (try simp at hz ⊢); omega) | (have hz := hC.sz; (try simp at hz ⊢); omega) | (have hz := hC.up; (try simp at hz ⊢); omega)); (first | (intro kk hk e; have h := hC.own kk hk; simp only [World.size_alloc, World.size_drew] at h; omega) | (intro kk hk e; have h := hC.ow.lt kk hk; omega)); intro BE0 NE0; refine hv (T := wr.heap.size ≤ (wr.heap.size + 2)) ?_ ?_; (first | (focus (simp; done)) | (have hz := hC.bl.size; (try simp at hz ⊢); omega) | (have hz := hC.sz; (try simp at hz ⊢); omega) | (have hz := hC.up; (try simp at hz ⊢); omega)); intro ZE0; have NX := Lib.hid (NB.mk1 (fs := l.fs) (wr := wr) (n := l.ws.length + 1) hD (by simp) BE0 NE0 ZE0); have t0 := BE0.cell 0 (show _ = some (Value.int .i64 0) from rfl); have t1 := BE0.cell 1 (show _ = some (Value.slice none 0 0) from rfl); have f0 := BE0.fr 0; have f1 := BE0.fr 1; clear BE0 ZE0 NE0) | (refine hvE (hD.far (wr.heap.size + 1 + 1)) (cs := #[.int .i64 0, .slice none 0 0]) (t := 24) ?_ ?_ ?_ ?_; (focus ((repeat (first | (with_reducible exact Blk.new _ _ _) | (with_reducible exact Blk.nw1 _ _ _ _) | (with_reducible exact Blk.nw2 _ _ _ _ _) | (with_reducible exact Blk.nw2' _ _ _ _ _) | (with_reducible refine Blk.al ?_ _) | (with_reducible refine Blk.dr ?_) | (refine hvK hC.keep ?_ ?_; (first | (focus (simp; done)) | omega | (have hz := hC.bl.size; (try simp at hz ⊢); omega))))); done)); (first | (focus (simp; done)) | (have hz := hC.bl.size; (try simp at hz ⊢); omega) | (have hz := hC.sz; (try simp at hz ⊢); omega) | (have hz := hC.up; (try simp at hz ⊢); omega)); (first | (intro kk hk e; have h := hC.own kk hk; simp only [World.size_alloc, World.size_drew] at h; omega) | (intro kk hk e; have h := hC.ow.lt kk hk; omega)); intro BE0 NE0; refine hv (T := wr.heap.size ≤ (wr.heap.size + 1 + 1)) ?_ ?_; (first | (focus (simp; done)) | (have hz := hC.bl.size; (try simp at hz ⊢); omega) | (have hz := hC.sz; (try simp at hz ⊢); omega) | (have hz := hC.up; (try simp at hz ⊢); omega)); intro ZE0; have NX := Lib.hid (NB.mk1 (fs := l.fs) (wr := wr) (n := l.ws.length + 1) hD (by simp) BE0 NE0 ZE0); have t0 := BE0.cell 0 (show _ = some (Value.int .i64 0) from rfl); have t1 := BE0.cell 1 (show _ = some (Value.slice none 0 0) from rfl); have f0 := BE0.fr 0; have f1 := BE0.fr 1; clear BE0 ZE0 NE0) | (refine hvE (hD.far w1.heap.size) (cs := #[.int .i64 0, .slice none 0 0]) (t := 24) ?_ ?_ ?_ ?_; (focus ((repeat (first | (with_reducible exact Blk.new _ _ _) | (with_reducible exact Blk.nw1 _ _ _ _) | (with_reducible exact Blk.nw2 _ _ _ _ _) | (with_reducible exact Blk.nw2' _ _ _ _ _) | (with_reducible refine Blk.al ?_ _) | (with_reducible refine Blk.dr ?_) | (refine hvK hC.keep ?_ ?_; (first | (focus (simp; done)) | omega | (have hz := hC.bl.size; (try simp at hz ⊢); omega))))); done)); (first | (focus (simp; done)) | (have hz := hC.bl.size; (try simp at hz ⊢); omega) | (have hz := hC.sz; (try simp at hz ⊢); omega) | (have hz := hC.up; (try simp at hz ⊢); omega)); (first | (intro kk hk e; have h := hC.own kk hk; simp only [World.size_alloc, World.size_drew] at h; omega) | (intro kk hk e; have h := hC.ow.lt kk hk; omega)); intro BE0 NE0; refine hv (T := wr.heap.size ≤ w1.heap.size) ?_ ?_; (first | (focus (simp; done)) | (have hz := hC.bl.size; (try simp at hz ⊢); omega) | (have hz := hC.sz; (try simp at hz ⊢); omega) | (have hz := hC.up; (try simp at hz ⊢); omega)); intro ZE0; have NX := Lib.hid (NB.mk1 (fs := l.fs) (wr := wr) (n := l.ws.length + 1) hD (by simp) BE0 NE0 ZE0); have t0 := BE0.cell 0 (show _ = some (Value.int .i64 0) from rfl); have t1 := BE0.cell 1 (show _ = some (Value.slice none 0 0) from rfl); have f0 := BE0.fr 0; have f1 := BE0.fr 1; clear BE0 ZE0 NE0) | (refine hvE (hD.far (w1.heap.size + 1)) (cs := #[.int .i64 0, .slice none 0 0]) (t := 24) ?_ ?_ ?_ ?_; (focus ((repeat (first | (with_reducible exact Blk.new _ _ _) | (with_reducible exact Blk.nw1 _ _ _ _) | (with_reducible exact Blk.nw2 _ _ _ _ _) | (with_reducible exact Blk.nw2' _ _ _ _ _) | (with_reducible refine Blk.al ?_ _) | (with_reducible refine Blk.dr ?_) | (refine hvK hC.keep ?_ ?_; (first | (focus (simp; done)) | omega | (have hz := hC.bl.size; (try simp at hz ⊢); omega))))); done)); (first | (focus (simp; done)) | (have hz := hC.bl.size; (try simp at hz ⊢); omega) | (have hz := hC.sz; (try simp at hz ⊢); omega) | (have hz := hC.up; (try simp at hz ⊢); omega)); (first | (intro kk hk e; have h := hC.own kk hk; simp only [World.size_alloc, World.size_drew] at h; omega) | (intro kk hk e; have h := hC.ow.lt kk hk; omega)); intro BE0 NE0; refine hv (T := wr.heap.size ≤ (w1.heap.size + 1)) ?_ ?_; (first | (focus (simp; done)) | (have hz := hC.bl.size; (try simp at hz ⊢); omega) | (have hz := hC.sz; (try simp at hz ⊢); omega) | (have hz := hC.up; (try simp at hz ⊢); omega)); intro ZE0; have NX := Lib.hid (NB.mk1 (fs := l.fs) (wr := wr) (n := l.ws.length + 1) hD (by simp) BE0 NE0 ZE0); have t0 := BE0.cell 0 (show _ = some (Value.int .i64 0) from rfl); have t1 := BE0.cell 1 (show _ = some (Value.slice none 0 0) from rfl); have f0 := BE0.fr 0; have f1 := BE0.fr 1; clear BE0 ZE0 NE0))))))
          all_goals
            go_wp2_with fail
            go_meet
            first
            | exact ⟨_, _, _, rfl, NX⟩
            | exact ⟨_, _, _, rfl, Lib.hid (NB.mk2 (n := l.ws.length + 1) hD (by simp))⟩
        case rest =>
          obtain ⟨b14, g14, c14, rfl, hNB⟩ := hcut
          replace X := Lib.hid (X.out.lo hNB.out.bl)
          replace M := Lib.hid (Blk.alt (p := fun _ => False) M.out (Alt.of_below hNB.out.bl (fun k hk e => by omega)) id)
          replace I2 := Lib.hid (I2.out.lo hNB.out.bl)
          replace P := Lib.hid (P.out.lo hNB.out.bl)
          obtain ⟨xs, hxs⟩ : ∃ xs, Hid (xs = l.ws ++ [(⟨fr, ba, t, lo, hi⟩ : Wd)]) := ⟨_, Lib.hid rfl⟩
          have HXL := Lib.hid (show xs.length ≤ 1000 by rw [hxs.out]; exact HLW.out _)
          rw [← hxs.out] at hNB MS3
          have XK := Lib.hid hNB.out.k
          have XW := Lib.hid hNB.out.wd
          have C1 := Lib.hid (NA1.out g14 c14 xs HXL.out a2 c2 wc X.out.bl hNB.out.wd I2.out N2.out MS3.out.1)
          clear hNB SK WS p1 p2 tq tw tr t4 ec k0 k1 P
          have k0 := X.out.b.cell 0 (show _ = some (Value.int .i64 l.fs) from rfl)
          have k1 := X.out.b.cell 1 (show _ = some (Value.slice l.wa l.ws.length l.wc) from rfl)
          have q0 := XK.out.cell 0 (show _ = some (Value.int .i64 l.fs) from rfl)
          have q1 := XK.out.cell 1 (show _ = some (Value.slice (some ⟨g14, 0, none⟩) xs.length c14) from rfl)
          unfold Lan.val at C1
          go_wp2_with fail
          refine C1.out.mono ?_
          rintro e w20 ⟨rfl, hb⟩
          replace X := Lib.hid (X.out.lo hb)
          replace M := Lib.hid (Blk.alt (p := fun _ => False) M.out (Alt.of_below hb (fun k hk e => by omega)) id)
          replace I2 := Lib.hid (I2.out.lo hb)
          replace XK := Lib.hid (Blk.alt (p := fun _ => False) XK.out (Alt.of_below hb (fun k hk e => by omega)) id)
          replace XW := Lib.hid (XW.out.lo hb)
          clear hb C1 k0 k1 q0 q1
          have C2 := Lib.hid (NA2.out g14 c14 xs HXL.out a2 c2 w20 X.out.bl XW.out I2.out N2.out MS3.out.2)
          have k0 := X.out.b.cell 0 (show _ = some (Value.int .i64 l.fs) from rfl)
          have k1 := X.out.b.cell 1 (show _ = some (Value.slice l.wa l.ws.length l.wc) from rfl)
          have q0 := XK.out.cell 0 (show _ = some (Value.int .i64 l.fs) from rfl)
          have q1 := XK.out.cell 1 (show _ = some (Value.slice (some ⟨g14, 0, none⟩) xs.length c14) from rfl)
          unfold Lan.val at C2
          go_wp2_with fail
          refine C2.out.mono ?_
          rintro e wr ⟨rfl, hb⟩
          replace X := Lib.hid (X.out.lo hb)
          replace M := Lib.hid (Blk.alt (p := fun _ => False) M.out (Alt.of_below hb (fun k hk e => by omega)) id)
          replace I2 := Lib.hid (I2.out.lo hb)
          replace XK := Lib.hid (Blk.alt (p := fun _ => False) XK.out (Alt.of_below hb (fun k hk e => by omega)) id)
          replace XW := Lib.hid (XW.out.lo hb)
          clear hb C2 k0 k1 q0 q1 XK XW MS3 NA2
          have m0 := M.out.cell 0 (show _ = some (Value.int .i64 mfr) from rfl)
          have m1 := M.out.cell 1 (show _ = some (Value.int .i64 mba) from rfl)
          have m2 := M.out.cell 2 (show _ = some (Value.int .i64 mte) from rfl)
          have m3 := M.out.cell 3 (show _ = some (Value.int .i64 mle) from rfl)
          have m4 := M.out.cell 4 (show _ = some (Value.int .i64 mmo) from rfl)
          have k0 := X.out.b.cell 0 (show _ = some (Value.int .i64 l.fs) from rfl)
          have k1 := X.out.b.cell 1 (show _ = some (Value.slice l.wa l.ws.length l.wc) from rfl)
          have SK := Lib.hid (show ∀ Wx, Below wr.heap.size wr Wx → (Wx.cell? ⟨w.heap.size, 0, none⟩ = some (.int .i64 l.fs) ∧ Wx.cell? ⟨w.heap.size, 1, none⟩ = some (.slice l.wa l.ws.length l.wc) ∧ Wx.cell? ⟨w.heap.size + 1, 0, none⟩ = some (.int .i64 mfr) ∧ Wx.cell? ⟨w.heap.size + 1, 1, none⟩ = some (.int .i64 mba) ∧ Wx.cell? ⟨w.heap.size + 1, 2, none⟩ = some (.int .i64 mte) ∧ Wx.cell? ⟨w.heap.size + 1, 3, none⟩ = some (.int .i64 mle) ∧ Wx.cell? ⟨w.heap.size + 1, 4, none⟩ = some (.int .i64 mmo)) from fun Wx hb => ⟨cell_lo hb k0, cell_lo hb k1, cell_lo hb m0, cell_lo hb m1, cell_lo hb m2, cell_lo hb m3, cell_lo hb m4⟩)
          have WS := Lib.hid (WS0.out.lo X.out.bl)
          go_wp2_with fail
          go_cut [15] from 133 (fun s15 wx => ∃ b15 g15 c15 : Nat, s15 = .pointer (some ⟨b15, 0, none⟩) ∧ Hid (NB l.fs (l.ws ++ [⟨mfr, mba, mte, mle, mmo⟩]) (l.ws.length + 1) b15 g15 c15 wr wx))
          case first =>
            (go_region_held3 (fun Wx => Wx.cell? ⟨w.heap.size, 0, none⟩ = some (.int .i64 l.fs) ∧ Wx.cell? ⟨w.heap.size, 1, none⟩ = some (.slice l.wa l.ws.length l.wc) ∧ Wx.cell? ⟨w.heap.size + 1, 0, none⟩ = some (.int .i64 mfr) ∧ Wx.cell? ⟨w.heap.size + 1, 1, none⟩ = some (.int .i64 mba) ∧ Wx.cell? ⟨w.heap.size + 1, 2, none⟩ = some (.int .i64 mte) ∧ Wx.cell? ⟨w.heap.size + 1, 3, none⟩ = some (.int .i64 mle) ∧ Wx.cell? ⟨w.heap.size + 1, 4, none⟩ = some (.int .i64 mmo))
                (first | (with_reducible exact SK.out _ NX.out.bl) | (refine SK.out _ ?_; (repeat (first | (with_reducible exact hD.bl) | (with_reducible exact hC.bl) | (with_reducible exact Below.refl _ _) | (with_reducible refine Below.drew ?_) | (with_reducible refine below_al2 ?_ _)))))
                (first | ((refine armCopy (wr := wr) WS.out WN.out WL.out rfl rfl rfl rfl ?_ ?_ ?_ ?_); ((repeat (first | (with_reducible exact Blk.new _ _ _) | (with_reducible exact Blk.nw1 _ _ _ _) | (with_reducible exact Blk.nw2 _ _ _ _ _) | (with_reducible exact Blk.nw2' _ _ _ _ _) | (with_reducible refine Blk.al ?_ _) | (with_reducible refine Blk.dr ?_) | (refine hvK hC.keep ?_ ?_; (first | (focus (simp; done)) | omega | (have hz := hC.bl.size; (try simp at hz ⊢); omega)))))); ((repeat (first | (with_reducible exact hD.bl) | (with_reducible exact hC.bl) | (with_reducible exact Below.refl _ _) | (with_reducible refine Below.drew ?_) | (with_reducible refine below_al2 ?_ _)))); (first | exact Nat.le_refl _ | (focus (simp; done)) | omega); (intro v1 w1 hC)) | ((first | refine armOne (wr := wr) (y0 := mfr) (y1 := mba) (y2 := mte) (y3 := mle) (y4 := mmo) hC.ow WL.out hC.sz rfl rfl rfl rfl ?_ ?_ ?_ ?_ | refine armOne (wr := wr) (y0 := mfr) (y1 := mba) (y2 := mte) (y3 := mle) (y4 := mmo) (hC.ow.alloc _) WL.out (sz_al hC.sz _) rfl rfl rfl rfl ?_ ?_ ?_ ?_ | refine armOne (wr := wr) (y0 := mfr) (y1 := mba) (y2 := mte) (y3 := mle) (y4 := mmo) ((hC.ow.alloc _).alloc _) WL.out (sz_al (sz_al hC.sz _) _) rfl rfl rfl rfl ?_ ?_ ?_ ?_); ((repeat (first | (with_reducible exact Blk.new _ _ _) | (with_reducible exact Blk.nw1 _ _ _ _) | (with_reducible exact Blk.nw2 _ _ _ _ _) | (with_reducible exact Blk.nw2' _ _ _ _ _) | (with_reducible refine Blk.al ?_ _) | (with_reducible refine Blk.dr ?_) | (refine hvK hC.keep ?_ ?_; (first | (focus (simp; done)) | omega | (have hz := hC.bl.size; (try simp at hz ⊢); omega)))))); ((repeat (first | (with_reducible exact hD.bl) | (with_reducible exact hC.bl) | (with_reducible exact Below.refl _ _) | (with_reducible refine Below.drew ?_) | (with_reducible refine below_al2 ?_ _)))); (first | exact Nat.le_refl _ | (focus (simp; done)) | omega); (intro gD cD w2 hD); (try (first | (refine hvE (hD.far wr.heap.size) (cs := #[.int .i64 0, .slice none 0 0]) (t := 24) ?_ ?_ ?_ ?_; (focus ((repeat (first | (with_reducible exact Blk.new _ _ _) | (with_reducible exact Blk.nw1 _ _ _ _) | (with_reducible exact Blk.nw2 _ _ _ _ _) | (with_reducible exact Blk.nw2' _ _ _ _ _) | (with_reducible refine Blk.al ?_ _) | (with_reducible refine Blk.dr ?_) | (refine hvK hC.keep ?_ ?_; (first | (focus (simp; done)) | omega | (have hz := hC.bl.size; (try simp at hz ⊢); omega))))); done)); (first | (focus (simp; done)) | (have hz := hC.bl.size; (try simp at hz ⊢); omega) | (have hz := hC.sz; (try simp at hz ⊢); omega) | (have hz := hC.up; (try simp at hz ⊢); omega)); (first | (intro kk hk e; have h := hC.own kk hk; simp only [World.size_alloc, World.size_drew] at h; omega) | (intro kk hk e; have h := hC.ow.lt kk hk; omega)); intro BE0 NE0; refine hv (T := wr.heap.size ≤ wr.heap.size) ?_ ?_; (first | (focus (simp; done)) | (have hz := hC.bl.size; (try simp at hz ⊢); omega) | (have hz := hC.sz; (try simp at hz ⊢); omega) | (have hz := hC.up; (try simp at hz ⊢); omega)); intro ZE0; have NX := Lib.hid (NB.mk1 (fs := l.fs) (wr := wr) (n := l.ws.length + 1) hD (by simp) BE0 NE0 ZE0); have t0 := BE0.cell 0 (show _ = some (Value.int .i64 0) from rfl); have t1 := BE0.cell 1 (show _ = some (Value.slice none 0 0) from rfl); have f0 := BE0.fr 0; have f1 := BE0.fr 1; clear BE0 ZE0 NE0) | (refine hvE (hD.far (wr.heap.size + 1)) (cs := #[.int .i64 0, .slice none 0 0]) (t := 24) ?_ ?_ ?_ ?_; (focus ((repeat (first | (with_reducible exact Blk.new _ _ _) | (with_reducible exact Blk.nw1 _ _ _ _) | (with_reducible exact Blk.nw2 _ _ _ _ _) | (with_reducible exact Blk.nw2' _ _ _ _ _) | (with_reducible refine Blk.al ?_ _) | (with_reducible refine Blk.dr ?_) | (refine hvK hC.keep ?_ ?_; (first | (focus (simp; done)) | omega | (have hz := hC.bl.size; (try simp at hz ⊢); omega))))); done)); (first | (focus (simp; done)) | (have hz := hC.bl.size; (try simp at hz ⊢); omega) | (have hz := hC.sz; (try simp at hz ⊢); omega) | (have hz := hC.up; (try simp at hz ⊢); omega)); (first | (intro kk hk e; have h := hC.own kk hk; simp only [World.size_alloc, World.size_drew] at h; omega) | (intro kk hk e; have h := hC.ow.lt kk hk; omega)); intro BE0 NE0; refine hv (T := wr.heap.size ≤ (wr.heap.size + 1)) ?_ ?_; (first | (focus (simp; done)) | (have hz := hC.bl.size; (try simp at hz ⊢); omega) | (have hz := hC.sz; (try simp at hz ⊢); omega) | (have hz := hC.up; (try simp at hz ⊢); omega)); intro ZE0; have NX := Lib.hid (NB.mk1 (fs := l.fs) (wr := wr) (n := l.ws.length + 1) hD (by simp) BE0 NE0 ZE0); have t0 := BE0.cell 0 (show _ = some (Value.int .i64 0) from rfl); have t1 := BE0.cell 1 (show _ = some (Value.slice none 0 0) from rfl); have f0 := BE0.fr 0; have f1 := BE0.fr 1; clear BE0 ZE0 NE0) | (refine hvE (hD.far (wr.heap.size + 2)) (cs := #[.int .i64 0, .slice none 0 0]) (t := 24) ?_ ?_ ?_ ?_; (focus ((repeat (first | (with_reducible exact Blk.new _ _ _) | (with_reducible exact Blk.nw1 _ _ _ _) | (with_reducible exact Blk.nw2 _ _ _ _ _) | (with_reducible exact Blk.nw2' _ _ _ _ _) | (with_reducible refine Blk.al ?_ _) | (with_reducible refine Blk.dr ?_) | (refine hvK hC.keep ?_ ?_; (first | (focus (simp; done)) | omega | (have hz := hC.bl.size; (try simp at hz ⊢); omega))))); done)); (first | (focus (simp; done)) | (have hz := hC.bl.size; (try simp at hz ⊢); omega) | (have hz := hC.sz; (try simp at hz ⊢); omega) | (have hz := hC.up; (try simp at hz ⊢); omega)); (first | (intro kk hk e; have h := hC.own kk hk; simp only [World.size_alloc, World.size_drew] at h; omega) | (intro kk hk e; have h := hC.ow.lt kk hk; omega)); intro BE0 NE0; refine hv (T := wr.heap.size ≤ (wr.heap.size + 2)) ?_ ?_; (first | (focus (simp; done)) | (have hz := hC.bl.size; (try simp at hz ⊢); omega) | (have hz := hC.sz; (try simp at hz ⊢); omega) | (have hz := hC.up; (try simp at hz ⊢); omega)); intro ZE0; have NX := Lib.hid (NB.mk1 (fs := l.fs) (wr := wr) (n := l.ws.length + 1) hD (by simp) BE0 NE0 ZE0); have t0 := BE0.cell 0 (show _ = some (Value.int .i64 0) from rfl); have t1 := BE0.cell 1 (show _ = some (Value.slice none 0 0) from rfl); have f0 := BE0.fr 0; have f1 := BE0.fr 1; clear BE0 ZE0 NE0) | (refine hvE (hD.far (wr.heap.size + 1 + 1)) (cs := #[.int .i64 0, .slice none 0 0]) (t := 24) ?_ ?_ ?_ ?_; (focus ((repeat (first | (with_reducible exact Blk.new _ _ _) | (with_reducible exact Blk.nw1 _ _ _ _) | (with_reducible exact Blk.nw2 _ _ _ _ _) | (with_reducible exact Blk.nw2' _ _ _ _ _) | (with_reducible refine Blk.al ?_ _) | (with_reducible refine Blk.dr ?_) | (refine hvK hC.keep ?_ ?_; (first | (focus (simp; done)) | omega | (have hz := hC.bl.size; (try simp at hz ⊢); omega))))); done)); (first | (focus (simp; done)) | (have hz := hC.bl.size; (try simp at hz ⊢); omega) | (have hz := hC.sz; (try simp at hz ⊢); omega) | (have hz := hC.up; (try simp at hz ⊢); omega)); (first | (intro kk hk e; have h := hC.own kk hk; simp only [World.size_alloc, World.size_drew] at h; omega) | (intro kk hk e; have h := hC.ow.lt kk hk; omega)); intro BE0 NE0; refine hv (T := wr.heap.size ≤ (wr.heap.size + 1 + 1)) ?_ ?_; (first | (focus (simp; done)) | (have hz := hC.bl.size; (try simp at hz ⊢); omega) | (have hz := hC.sz; (try simp at hz ⊢); omega) | (have hz := hC.up; (try simp at hz ⊢); omega)); intro ZE0; have NX := Lib.hid (NB.mk1 (fs := l.fs) (wr := wr) (n := l.ws.length + 1) hD (by simp) BE0 NE0 ZE0); have t0 := BE0.cell 0 (show _ = some (Value.int .i64 0) from rfl); have t1 := BE0.cell 1 (show _ = some (Value.slice none 0 0) from rfl); have f0 := BE0.fr 0; have f1 := BE0.fr 1; clear BE0 ZE0 NE0) | (refine hvE (hD.far w1.heap.size) (cs := #[.int .i64 0, .slice none 0 0]) (t := 24) ?_ ?_ ?_ ?_; (focus ((repeat (first | (with_reducible exact Blk.new _ _ _) | (with_reducible exact Blk.nw1 _ _ _ _) | (with_reducible exact Blk.nw2 _ _ _ _ _) | (with_reducible exact Blk.nw2' _ _ _ _ _) | (with_reducible refine Blk.al ?_ _) | (with_reducible refine Blk.dr ?_) | (refine hvK hC.keep ?_ ?_; (first | (focus (simp; done)) | omega | (have hz := hC.bl.size; (try simp at hz ⊢); omega))))); done)); (first | (focus (simp; done)) | (have hz := hC.bl.size; (try simp at hz ⊢); omega) | (have hz := hC.sz; (try simp at hz ⊢); omega) | (have hz := hC.up; (try simp at hz ⊢); omega)); (first | (intro kk hk e; have h := hC.own kk hk; simp only [World.size_alloc, World.size_drew] at h; omega) | (intro kk hk e; have h := hC.ow.lt kk hk; omega)); intro BE0 NE0; refine hv (T := wr.heap.size ≤ w1.heap.size) ?_ ?_; (first | (focus (simp; done)) | (have hz := hC.bl.size; (try simp at hz ⊢); omega) | (have hz := hC.sz; (try simp at hz ⊢); omega) | (have hz := hC.up; (try simp at hz ⊢); omega)); intro ZE0; have NX := Lib.hid (NB.mk1 (fs := l.fs) (wr := wr) (n := l.ws.length + 1) hD (by simp) BE0 NE0 ZE0); have t0 := BE0.cell 0 (show _ = some (Value.int .i64 0) from rfl); have t1 := BE0.cell 1 (show _ = some (Value.slice none 0 0) from rfl); have f0 := BE0.fr 0; have f1 := BE0.fr 1; clear BE0 ZE0 NE0) | (refine hvE (hD.far (w1.heap.size + 1)) (cs := #[.int .i64 0, .slice none 0 0]) (t := 24) ?_ ?_ ?_ ?_; (focus ((repeat (first | (with_reducible exact Blk.new _ _ _) | (with_reducible exact Blk.nw1 _ _ _ _) | (with_reducible exact Blk.nw2 _ _ _ _ _) | (with_reducible exact Blk.nw2' _ _ _ _ _) | (with_reducible refine Blk.al ?_ _) | (with_reducible refine Blk.dr ?_) | (refine hvK hC.keep ?_ ?_; (first | (focus (simp; done)) | omega | (have hz := hC.bl.size; (try simp at hz ⊢); omega))))); done)); (first | (focus (simp; done)) | (have hz := hC.bl.size; (try simp at hz ⊢); omega) | (have hz := hC.sz; (try simp at hz ⊢); omega) | (have hz := hC.up; (try simp at hz ⊢); omega)); (first | (intro kk hk e; have h := hC.own kk hk; simp only [World.size_alloc, World.size_drew] at h; omega) | (intro kk hk e; have h := hC.ow.lt kk hk; omega)); intro BE0 NE0; refine hv (T := wr.heap.size ≤ (w1.heap.size + 1)) ?_ ?_; (first | (focus (simp; done)) | (have hz := hC.bl.size; (try simp at hz ⊢); omega) | (have hz := hC.sz; (try simp at hz ⊢); omega) | (have hz := hC.up; (try simp at hz ⊢); omega)); intro ZE0; have NX := Lib.hid (NB.mk1 (fs := l.fs) (wr := wr) (n := l.ws.length + 1) hD (by simp) BE0 NE0 ZE0); have t0 := BE0.cell 0 (show _ = some (Value.int .i64 0) from rfl); have t1 := BE0.cell 1 (show _ = some (Value.slice none 0 0) from rfl); have f0 := BE0.fr 0; have f1 := BE0.fr 1; clear BE0 ZE0 NE0))))))
            all_goals
              go_wp2_with fail
              go_meet
              first
              | exact ⟨_, _, _, rfl, NX⟩
              | exact ⟨_, _, _, rfl, Lib.hid (NB.mk2 (n := l.ws.length + 1) hD (by simp))⟩
          case rest =>
            obtain ⟨b15, g15, c15, rfl, hNB⟩ := hcut
            replace X := Lib.hid (X.out.lo hNB.out.bl)
            replace M := Lib.hid (Blk.alt (p := fun _ => False) M.out (Alt.of_below hNB.out.bl (fun k hk e => by omega)) id)
            replace I2 := Lib.hid (I2.out.lo hNB.out.bl)
            rw [← hys.out] at hNB
            have XK := Lib.hid hNB.out.k
            have XW := Lib.hid hNB.out.wd
            clear hNB SK WS k0 k1 m0 m1 m2 m3 m4 M
            have q0 := XK.out.cell 0 (show _ = some (Value.int .i64 l.fs) from rfl)
            have q1 := XK.out.cell 1 (show _ = some (Value.slice (some ⟨g15, 0, none⟩) ys.length c15) from rfl)
            have C3 := Lib.hid (RD2.out g15 c15 ys wc XW.out)
            unfold Lan.val at C3
            go_wp2_with fail
            refine C3.out.mono ?_
            rintro e w30 ⟨rfl, hb⟩
            replace X := Lib.hid (X.out.lo hb)
            replace I2 := Lib.hid (I2.out.lo hb)
            replace XK := Lib.hid (Blk.alt (p := fun _ => False) XK.out (Alt.of_below hb (fun k hk e => by omega)) id)
            replace XW := Lib.hid (XW.out.lo hb)
            clear hb C3 q0 q1
            by_cases hFY : faultW (withW l ys) = 0
            · have hd : decide (faultW ⟨l.fs, some ⟨g15, 0, none⟩, c15, ys⟩ = 0) = true := decide_eq_true hFY
              have HFY := Lib.hid hFY
              rw [hd]
              clear hFY hd
              have L3 := Lib.hid (LN2.out g15 c15 ys HYL.out w30 XW.out)
              unfold Lan.val at L3
              have q0 := XK.out.cell 0 (show _ = some (Value.int .i64 l.fs) from rfl)
              have q1 := XK.out.cell 1 (show _ = some (Value.slice (some ⟨g15, 0, none⟩) ys.length c15) from rfl)
              go_wp2_with fail
              refine L3.out.mono ?_
              rintro e w31 ⟨a3, c3, rfl, hW3, hg3, hb⟩
              replace X := Lib.hid (X.out.lo hb)
              replace I2 := Lib.hid (I2.out.lo hb)
              replace XK := Lib.hid (Blk.alt (p := fun _ => False) XK.out (Alt.of_below hb (fun k hk e => by omega)) id)
              replace XW := Lib.hid (XW.out.lo hb)
              have W3 := Lib.hid hW3
              have G3 := Lib.hid hg3
              clear hW3 hg3 hb q0 q1 L3
              go_wp2_with fail
              refine (LI.out _ _ _ I2.out N2.out).mono ?_
              rintro e w32 ⟨v4, rfl, ho, hb⟩
              obtain ⟨a4, c4, rfl⟩ := own_len ho
              have I4 := Lib.hid (own_intsAt ho).1
              replace X := Lib.hid (X.out.lo hb)
              replace I2 := Lib.hid (I2.out.lo hb)
              replace XK := Lib.hid (Blk.alt (p := fun _ => False) XK.out (Alt.of_below hb (fun k hk e => by omega)) id)
              replace XW := Lib.hid (XW.out.lo hb)
              have W4 := Lib.hid (W3.out.lo hb)
              have G4 := Lib.hid (show ∀ g o, a3 = some ⟨g, o, none⟩ → g < w32.heap.size from fun g o e => Nat.lt_of_lt_of_le (G3.out g o e) hb.size)
              clear ho hb W3 G3
              have E4 := Lib.hid (EX2.out ys HYL.out a3 a4 c3 c4 _ W4.out G4.out I4.out)
              unfold Lan.val at E4
              rw [show chkE ⟨l.fs, a3, c3, ys⟩ ts = 0 from HCK.out HFY.out, show explB ⟨l.fs, a3, c3, ys⟩ ts = explB (withW l ys) ts from rfl] at E4
              clear W4 G4 I4
              go_wp2_with fail
              refine E4.out.mono ?_
              rintro e w40 ⟨rfl, hb⟩
              replace X := Lib.hid (X.out.lo hb)
              replace I2 := Lib.hid (I2.out.lo hb)
              replace XK := Lib.hid (Blk.alt (p := fun _ => False) XK.out (Alt.of_below hb (fun k hk e => by omega)) id)
              replace XW := Lib.hid (XW.out.lo hb)
              clear hb E4
              cases hex : explB (withW l ys) ts
              · clear hex
                go_wp2_with fail
                refine (WK.out _).mono ?_
                rintro e w98 ⟨rfl, hb⟩
                have X9 := Lib.hid (X.out.lo hb)
                clear hb
                go_wp2_with fail
                go_returns
                exact ⟨rfl, X9.out.bl⟩
              · have C5 := Lib.hid (NA1.out g15 c15 ys HYL.out a2 c2 w40 X.out.bl XW.out I2.out N2.out (MN2.out HFY.out hex))
                clear hex
                have k0 := X.out.b.cell 0 (show _ = some (Value.int .i64 l.fs) from rfl)
                have k1 := X.out.b.cell 1 (show _ = some (Value.slice l.wa l.ws.length l.wc) from rfl)
                have q0 := XK.out.cell 0 (show _ = some (Value.int .i64 l.fs) from rfl)
                have q1 := XK.out.cell 1 (show _ = some (Value.slice (some ⟨g15, 0, none⟩) ys.length c15) from rfl)
                unfold Lan.val at C5
                go_wp2_with fail
                refine C5.out.mono ?_
                rintro e w41 ⟨rfl, hb⟩
                replace X := Lib.hid (X.out.lo hb)
                clear hb C5 k0 k1 q0 q1
                go_wp2_with fail
                refine (WK.out _).mono ?_
                rintro e w98 ⟨rfl, hb⟩
                have X9 := Lib.hid (X.out.lo hb)
                clear hb
                go_wp2_with fail
                go_returns
                exact ⟨rfl, X9.out.bl⟩
            · have hd : decide (faultW ⟨l.fs, some ⟨g15, 0, none⟩, c15, ys⟩ = 0) = false := decide_eq_false hFY
              rw [hd]
              clear hFY hd
              go_wp2_with fail
              refine (WK.out _).mono ?_
              rintro e w98 ⟨rfl, hb⟩
              have X9 := Lib.hid (X.out.lo hb)
              clear hb
              go_wp2_with fail
              go_returns
              exact ⟨rfl, X9.out.bl⟩
      · have hE9 : E = 9 := by have := HE.out; omega
        subst hE9
        go_wp2_with fail
        refine (WK.out _).mono ?_
        rintro e w98 ⟨rfl, hb⟩
        have X9 := Lib.hid (X.out.lo hb)
        clear hb
        go_wp2_with fail
        go_returns
        exact ⟨rfl, X9.out.bl⟩
    · have h29c : decide ((29 : Int) < (l.ws.length : Int)) = true := decide_eq_true (by omega)
      have h29b : (29 : Int) < (l.ws.length : Int) := by omega
      unfold Wd.val
      unfold Lan.val at *
      clear hL h0 h1 hF hF2 hR hlen h29
      go_enter Try.func11, Try.ntmps11
      go_wp2_with fail
      generalize (w.alloc _).alloc _ = W0 at X ⊢
      have k0 := X.out.b.cell 0 (show _ = some (Value.int .i64 l.fs) from rfl)
      have k1 := X.out.b.cell 1 (show _ = some (Value.slice l.wa l.ws.length l.wc) from rfl)
      go_wp2_with fail
      refine (RD.out _ X.out.bl).mono ?_
      rintro e w1 ⟨rfl, hb⟩
      replace X := Lib.hid (X.out.lo hb)
      clear hb k0 k1 RD
      have k0 := X.out.b.cell 0 (show _ = some (Value.int .i64 l.fs) from rfl)
      have k1 := X.out.b.cell 1 (show _ = some (Value.slice l.wa l.ws.length l.wc) from rfl)
      go_wp2_with fail
      refine (WK.out _).mono ?_
      rintro e w2 ⟨rfl, hb⟩
      replace X := Lib.hid (X.out.lo hb)
      clear hb k0 k1
      go_wp2_with fail
      go_returns
      exact ⟨rfl, X.out.bl⟩
  · have hR : decide (faultW l = 0) = false := by simp [hF]
    rw [hR] at RD
    unfold Wd.val
    unfold Lan.val at *
    clear hL h0 h1 hF hR
    go_enter Try.func11, Try.ntmps11
    go_wp2_with fail
    generalize (w.alloc _).alloc _ = W0 at X ⊢
    have k0 := X.out.b.cell 0 (show _ = some (Value.int .i64 l.fs) from rfl)
    have k1 := X.out.b.cell 1 (show _ = some (Value.slice l.wa l.ws.length l.wc) from rfl)
    go_wp2_with fail
    refine (RD.out _ X.out.bl).mono ?_
    rintro e w1 ⟨rfl, hb⟩
    replace X := Lib.hid (X.out.lo hb)
    clear hb k0 k1 RD
    go_wp2_with fail
    refine (WK.out _).mono ?_
    rintro e w2 ⟨rfl, hb⟩
    replace X := Lib.hid (X.out.lo hb)
    clear hb
    go_wp2_with fail
    go_returns
    exact ⟨rfl, X.out.bl⟩

end Go.Proofs.Ytbbndcfnpfedpaa
