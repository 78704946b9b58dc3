/- The walk of SeenOrder. -/
import Derived.Test.YtbbndcfnpfedpaaYh
set_option linter.unusedVariables false
set_option linter.unusedSimpArgs false
namespace Go.Proofs.Ytbbndcfnpfedpaa
open Go.RowKit Go.Shelf Go.Maps

attribute [local go_sem] Oper.semAt_some

theorem leastL_len (l : Lan) : (leastL l).length ≤ 4 := by
  by_cases h : faultW l = 0
  · rw [leastL_find h]
    unfold leastN
    cases hf : setsL.find? fun ts => explB l ts with
    | none => simp
    | some ts =>
      have : ∀ ts ∈ setsL, ts.length ≤ 4 := by decide
      exact this ts (List.mem_of_find?_eq_some hf)
  · unfold leastL; rw [if_neg h]; simp

set_option maxRecDepth 100000 in
set_option maxHeartbeats 16000000 in
theorem seenOrder_any (l : Lan) (u pl : Int) (w : World) (hL : WdsAt w l.wa l.ws) (_ : (l.ws.length : Int) ≤ 9223372036854775807) (hnl : l.wa = none → l.ws = [] ∧ l.wc = 0) (hcap : l.ws.length ≤ l.wc) (h0 : 0 ≤ u) (h1 : u < 256) (hp0 : 0 ≤ pl) (hp1 : pl < 256) :
    Calls Try.prog 13 #[l.val, .int .u8 u, .int .u8 pl] w fun e w' => e = .returned (.bool true) ∧ Below w.heap.size w w' := by
  have RD := Lib.hid (fun W (hb : Below w.heap.size w W) => ready_any l W (hL.lo hb))
  have CH := Lib.hid (fun W => chosen_any u W h0 h1)
  have WK := Lib.hid (fun W => wakes_any W)
  have X := Lib.hid (BX.mk' l w)
  obtain ⟨ts, hts⟩ : ∃ ts, Hid (ts = chosenL u) := ⟨_, Lib.hid rfl⟩
  rw [← hts.out] at CH
  have HTL := Lib.hid (show ts.length ≤ 4 by have := chosenL_len u; rw [hts.out]; omega)
  have HRI := Lib.hid (show riseIn 0 3 ts = true by rw [hts.out]; exact chosenL_rise u)
  unfold RetJ at CH
  by_cases hF : faultW l = 0
  · have hF2 := hF
    have hR : decide (faultW l = 0) = true := by simp [hF]
    rw [hR] at RD
    have hlen := fault_len hF2
    by_cases hz : l.ws.length = 0
    · have hzb : (((l.ws.length : Nat) : Int) == 0) = true := by rw [hz]; rfl
      unfold Lan.val at *
      clear hL h0 h1 hF hF2 hR hlen hz
      go_enter Try.func13, Try.ntmps13
      go_wp2_with fail
      generalize w.alloc _ = W0 at X ⊢
      have k0 := X.out.b.cell 0 (show _ = some (Value.int .i64 l.fs) from rfl)
      have k1 := X.out.b.cell 1 (show _ = some (Value.slice l.wa l.ws.length l.wc) from rfl)
      go_wp2_with fail
      refine (RD.out _ X.out.bl).mono ?_
      rintro e w1 ⟨rfl, hb⟩
      replace X := Lib.hid (X.out.lo hb)
      clear hb k0 k1 RD
      have k0 := X.out.b.cell 0 (show _ = some (Value.int .i64 l.fs) from rfl)
      have k1 := X.out.b.cell 1 (show _ = some (Value.slice l.wa l.ws.length l.wc) from rfl)
      go_wp2_with fail
      refine (WK.out _).mono ?_
      rintro e w2 ⟨rfl, hb⟩
      replace X := Lib.hid (X.out.lo hb)
      clear hb k0 k1
      go_wp2_with fail
      go_returns
      exact ⟨rfl, X.out.bl⟩
    · by_cases h29 : l.ws.length ≤ 29
      · obtain ⟨x0, hx0⟩ : ∃ x, l.ws[0]? = some x := ⟨l.ws[0]'(by omega), List.getElem?_eq_getElem _⟩
        obtain ⟨gl, ol, hla, _⟩ := hL 0 x0 hx0
        obtain ⟨lfs, lwa, lwc, lws⟩ := l
        simp only at hla
        subst hla
        have LN := Lib.hid (fun W (hb : Below w.heap.size w W) => lawLane_any ⟨lfs, some ⟨gl, ol, none⟩, lwc, lws⟩ W (hL.lo hb) (by show lws.length ≤ 1000; simp only at h29; omega))
        have LI := Lib.hid (fun a c W (hX : IntsAt W a ts) (h0 : a = none → ts = [] ∧ c = 0) => lawlist_any ts a c W hX h0 (by have := HTL.out; omega))
        have LN2 := Lib.hid (fun (g c : Nat) (ws : List Wd) (hn : ws.length ≤ 1000) W (hW : WdsAt W (some ⟨g, 0, none⟩) ws) => lawLane_any ⟨lfs, some ⟨g, 0, none⟩, c, ws⟩ W hW hn)
        have EX2 := Lib.hid (fun (ws : List Wd) (hn : ws.length ≤ 1000) (a a2 : Option Addr) (c c2 : Nat) W (hW : WdsAt W a ws) (hg : ∀ g o, a = some ⟨g, o, none⟩ → g < W.heap.size) (hX : IntsAt W a2 ts) => explains_any ⟨lfs, a, c, ws⟩ ts a2 c2 W hW hX hn (by have := HTL.out; omega) hg)
        have LP2 := Lib.hid (fun (ws : List Wd) (hn : ws.length ≤ 1000) (a : Option Addr) (c : Nat) W (hW : WdsAt W a ws) (hg : ∀ g o, a = some ⟨g, o, none⟩ → g < W.heap.size) => leastP_any ⟨lfs, a, c, ws⟩ W hW hn hg)
        unfold LeastR at LP2
        have BP2 := Lib.hid (fun (ws : List Wd) (hn : ws.length ≤ 1000) (a : Option Addr) (c : Nat) W (hW : WdsAt W a ws) (hg : ∀ g o, a = some ⟨g, o, none⟩ → g < W.heap.size) => blameP_any ⟨lfs, a, c, ws⟩ W hW hn hg)
        unfold NewLan at LN LN2
        have OS := Lib.hid (fun (ws : List Wd) (hn : ws.length ≤ 30) (h : ∀ x, x ∈ ws ↔ x ∈ lws) => order_same (l := ⟨lfs, some ⟨gl, ol, none⟩, lwc, lws⟩) hF2 hn h)
        have NA1 := Lib.hid (fun (g c : Nat) (ws : List Wd) (hn : ws.length ≤ 1000) (a2 : Option Addr) (c2 : Nat) W (hb : Below w.heap.size w W) (hW : WdsAt W (some ⟨g, 0, none⟩) ws) (hX : IntsAt W a2 ts) (hnl2 : a2 = none → ts = [] ∧ c2 = 0) (NH : NarH (withW ⟨lfs, some ⟨gl, ol, none⟩, lwc, lws⟩ ws) ⟨lfs, some ⟨gl, ol, none⟩, lwc, lws⟩ ts) => narrower_any ⟨lfs, some ⟨g, 0, none⟩, c, ws⟩ ⟨lfs, some ⟨gl, ol, none⟩, lwc, lws⟩ ts a2 c2 W hW (hL.lo hb) hX hnl2 hn (by show lws.length ≤ 1000; simp only at h29; omega) (by have := HTL.out; omega) (NarH.to NH))
        have NA2 := Lib.hid (fun (g c : Nat) (ws : List Wd) (hn : ws.length ≤ 1000) (a2 : Option Addr) (c2 : Nat) W (hb : Below w.heap.size w W) (hW : WdsAt W (some ⟨g, 0, none⟩) ws) (hX : IntsAt W a2 ts) (hnl2 : a2 = none → ts = [] ∧ c2 = 0) (NH : NarH ⟨lfs, some ⟨gl, ol, none⟩, lwc, lws⟩ (withW ⟨lfs, some ⟨gl, ol, none⟩, lwc, lws⟩ ws) ts) => narrower_any ⟨lfs, some ⟨gl, ol, none⟩, lwc, lws⟩ ⟨lfs, some ⟨g, 0, none⟩, c, ws⟩ ts a2 c2 W (hL.lo hb) hW hX hnl2 (by show lws.length ≤ 1000; simp only at h29; omega) hn (by have := HTL.out; omega) (NarH.to NH))
        have HCK := Lib.hid (chkE_ok hF2 HRI.out)
        have HFF := Lib.hid hF2
        have WS0 := Lib.hid hL
        simp only at hz h29 hcap WS0 hlen
        obtain ⟨N, hN⟩ : ∃ N, Hid (N = lws.length) := ⟨_, Lib.hid rfl⟩
        have HN := Lib.hid (show 1 ≤ N ∧ N ≤ 29 ∧ N ≤ lwc by rw [hN.out]; omega)
        have h29c : decide ((29 : Int) < (N : Int)) = false := decide_eq_false (by rw [hN.out]; omega)
        have h29b : ¬ ((29 : Int) < (N : Int)) := by rw [hN.out]; omega
        have hzb : ((N : Int) == 0) = false := by have := HN.out; simp; omega
        have hz2 : ¬ (N : Int) = 0 := by have := HN.out; omega
        obtain ⟨tn, htn⟩ : ∃ k : Nat, Hid (k = pl.toNat % N) := ⟨_, Lib.hid rfl⟩
        have HK := Lib.hid (show tn < N by rw [htn.out]; exact Nat.mod_lt _ (by have := HN.out; omega))
        have tm : Int.tmod pl (N : Int) = (tn : Int) := by rw [Int.tmod_eq_emod_of_nonneg hp0, htn.out, Int.natCast_emod, show ((pl.toNat : Nat) : Int) = pl by omega]
        have ec : IntKind.i64.wrap pl = pl := IntWalk.i64_in _ (by omega)
        have e1 : IntKind.i64.wrap ((tn : Int) + 1) = (tn : Int) + 1 := IntWalk.i64_in _ (by have := HK.out; have := HN.out; omega)
        have E1 := Lib.hid e1
        unfold Lan.val at *
        simp only at X RD LN LN2 EX2 LP2 BP2 NA1 NA2 ⊢
        rw [← hN.out] at X RD LN NA1 NA2 ⊢
        clear hL h0 h1 hF hF2 hR hnl hlen h29 hp0 hp1 hx0 hz hcap e1
        go_enter Try.func13, Try.ntmps13
        go_wp2_with fail
        generalize w.alloc _ = wr at X ⊢
        have k0 := X.out.b.cell 0 (show _ = some (Value.int .i64 lfs) from rfl)
        have k1 := X.out.b.cell 1 rfl
        simp only [← hN.out] at k1
        go_wp2_with fail
        refine (RD.out _ X.out.bl).mono ?_
        rintro e wr ⟨rfl, hb⟩
        replace X := Lib.hid (X.out.lo hb)
        clear hb k0 k1 RD
        have k0 := X.out.b.cell 0 (show _ = some (Value.int .i64 lfs) from rfl)
        have k1 := X.out.b.cell 1 rfl
        simp only [← hN.out] at k1
        go_wp2_with fail
        clear h29b h29c hzb hz2 tm ec
        have hk1 : (0 : Int) ≤ (tn : Int) := by omega
        have hk2 : tn ≤ N := by have := HK.out; omega
        have hk3 : N ≤ lwc := by have := HN.out; omega
        have hk4 : tn + 1 ≤ lwc := by have := HK.out; have := HN.out; omega
        have hk5 : tn ≤ lwc := by omega
        have hk6 : (tn : Int) ≤ (N : Int) := by omega
        have hk7 : (N : Int) ≤ (lwc : Int) := by omega
        have hk8 : (tn : Int) + 1 ≤ (lwc : Int) := by omega
        have hk9 : (0 : Int) ≤ (tn : Int) + 1 := by omega
        have e1 := E1.out
        have hcc : ¬ lwc = tn := by have := HK.out; omega
        have SK := Lib.hid (show ∀ Wx, Below wr.heap.size wr Wx → (Wx.cell? ⟨w.heap.size, 0, none⟩ = some (.int .i64 lfs) ∧ Wx.cell? ⟨w.heap.size, 1, none⟩ = some (.slice (some ⟨gl, ol, none⟩) N lwc)) from fun Wx hb => ⟨cell_lo hb k0, cell_lo hb k1⟩)
        have WSD := Lib.hid (wds_drop (WS0.out.lo X.out.bl) tn)
        have WST := Lib.hid (wds_take (WS0.out.lo X.out.bl) (tn + 1))
        have HDL := Lib.hid (show (lws.drop tn).length = N - tn by rw [List.length_drop, hN.out])
        have HTK := Lib.hid (show (lws.take (tn + 1)).length = tn + 1 by rw [List.length_take, ← hN.out]; have := HK.out; omega)
        obtain ⟨D, hD0⟩ : ∃ D, Hid (D = lws.drop tn) := ⟨_, Lib.hid rfl⟩
        obtain ⟨T, hT0⟩ : ∃ T, Hid (T = lws.take (tn + 1)) := ⟨_, Lib.hid rfl⟩
        rw [← hD0.out] at WSD HDL
        rw [← hT0.out] at WST HTK
        have HL1 := Lib.hid (show D.length ≤ 900 by rw [HDL.out]; have := HN.out; omega)
        have HL2 := Lib.hid (show D.length + T.length ≤ 900 by rw [HDL.out, HTK.out]; have := HN.out; have := HK.out; omega)
        have HL3 := Lib.hid (show 0 < T.length by rw [HTK.out]; omega)
        have HL4 := Lib.hid (show N + 1 = (D ++ T).length by rw [List.length_append, HDL.out, HTK.out]; have := HK.out; omega)
        go_wp2_with fail
        go_cut [8] from 153 (fun s8 wx => ∃ b15 g15 c15 : Nat, s8 = .pointer (some ⟨b15, 0, none⟩) ∧ Hid (NB lfs (D ++ T) (N + 1) b15 g15 c15 wr wx))
        case first =>
          (go_region_held3 (fun Wx => Wx.cell? ⟨w.heap.size, 0, none⟩ = some (.int .i64 lfs) ∧ Wx.cell? ⟨w.heap.size, 1, none⟩ = some (.slice (some ⟨gl, ol, none⟩) N lwc))
              (first | (with_reducible exact SK.out _ NX.out.bl) | (refine SK.out _ ?_; (repeat (first | (with_reducible exact hD.bl) | (with_reducible exact hC.bl) | (with_reducible exact Below.refl _ _) | (with_reducible refine Below.drew ?_) | (with_reducible refine below_al2 ?_ _)))))
              (first | ((refine armCopyN (wr := wr) WSD.out (fun e => by cases e) HL1.out (n := N - tn) (by rw [HDL.out]) rfl rfl rfl rfl ?_ ?_ ?_ ?_); ((repeat (first | (with_reducible exact Blk.new _ _ _) | (with_reducible exact Blk.nw1 _ _ _ _) | (with_reducible exact Blk.nw2 _ _ _ _ _) | (with_reducible exact Blk.nw2' _ _ _ _ _) | (with_reducible refine Blk.al ?_ _) | (with_reducible refine Blk.dr ?_) | (refine hvK hC.keep ?_ ?_; (first | (focus (simp; done)) | omega | (have hz := hC.bl.size; (try simp at hz ⊢); omega)))))); ((repeat (first | (with_reducible exact hD.bl) | (with_reducible exact hC.bl) | (with_reducible exact Below.refl _ _) | (with_reducible refine Below.drew ?_) | (with_reducible refine below_al2 ?_ _)))); (first | exact Nat.le_refl _ | (focus (simp; done)) | omega); (intro v1 w1 hC)) | ((first | refine armApp (wr := wr) hC.ow WST.out (fun e => by cases e) HL2.out HL3.out (n := tn + 1) HTK.out.symm HL4.out hC.sz rfl rfl rfl rfl ?_ ?_ ?_ | refine armApp (wr := wr) (hC.ow.alloc _) WST.out (fun e => by cases e) HL2.out HL3.out (n := tn + 1) HTK.out.symm HL4.out (sz_al hC.sz _) rfl rfl rfl rfl ?_ ?_ ?_ | refine armApp (wr := wr) ((hC.ow.alloc _).alloc _) WST.out (fun e => by cases e) HL2.out HL3.out (n := tn + 1) HTK.out.symm HL4.out (sz_al (sz_al hC.sz _) _) rfl rfl rfl rfl ?_ ?_ ?_); ((repeat (first | (with_reducible exact hD.bl) | (with_reducible exact hC.bl) | (with_reducible exact Below.refl _ _) | (with_reducible refine Below.drew ?_) | (with_reducible refine below_al2 ?_ _)))); (first | exact Nat.le_refl _ | (focus (simp; done)) | omega); (intro gD cD w2 hD); (try (first | (refine hvE (hD.far wr.heap.size) (cs := #[.int .i64 0, .slice none 0 0]) (t := 24) ?_ ?_ ?_ ?_; (focus ((repeat (first | (with_reducible exact Blk.new _ _ _) | (with_reducible exact Blk.nw1 _ _ _ _) | (with_reducible exact Blk.nw2 _ _ _ _ _) | (with_reducible exact Blk.nw2' _ _ _ _ _) | (with_reducible refine Blk.al ?_ _) | (with_reducible refine Blk.dr ?_) | (refine hvK hC.keep ?_ ?_; (first | (focus (simp; done)) | omega | (have hz := hC.bl.size; (try simp at hz ⊢); omega))))); done)); (first | (focus (simp; done)) | (have hz := hC.bl.size; (try simp at hz ⊢); omega) | (have hz := hC.sz; (try simp at hz ⊢); omega) | (have hz := hC.up; (try simp at hz ⊢); omega)); (first | (intro kk hk e; have h := hC.own kk hk; simp only [World.size_alloc, World.size_drew] at h; omega) | (intro kk hk e; have h := hC.ow.lt kk hk; omega)); intro BE0 NE0; refine hv (T := wr.heap.size ≤ wr.heap.size) ?_ ?_; (first | (focus (simp; done)) | (have hz := hC.bl.size; (try simp at hz ⊢); omega) | (have hz := hC.sz; (try simp at hz ⊢); omega) | (have hz := hC.up; (try simp at hz ⊢); omega)); intro ZE0; have NX := Lib.hid (NB.mk1 (fs := lfs) (wr := wr) (n := N + 1) hD HL4.out BE0 NE0 ZE0); have t0 := BE0.cell 0 (show _ = some (Value.int .i64 0) from rfl); have t1 := BE0.cell 1 (show _ = some (Value.slice none 0 0) from rfl); have f0 := BE0.fr 0; have f1 := BE0.fr 1; clear BE0 ZE0 NE0) | (refine hvE (hD.far (wr.heap.size + 1)) (cs := #[.int .i64 0, .slice none 0 0]) (t := 24) ?_ ?_ ?_ ?_; (focus ((repeat (first | (with_reducible exact Blk.new _ _ _) | (with_reducible exact Blk.nw1 _ _ _ _) | (with_reducible exact Blk.nw2 _ _ _ _ _) | (with_reducible exact Blk.nw2' _ _ _ _ _) | (with_reducible refine Blk.al ?_ _) | (with_reducible refine Blk.dr ?_) | (refine hvK hC.keep ?_ ?_; (first | (focus (simp; done)) | omega | (have hz := hC.bl.size; (try simp at hz ⊢); omega))))); done)); (first | (focus (simp; done)) | (have hz := hC.bl.size; (try simp at hz ⊢); omega) | (have hz := hC.sz; (try simp at hz ⊢); omega) | (have hz := hC.up; (try simp at hz ⊢); omega)); (first | (intro kk hk e; have h := hC.own kk hk; simp only [World.size_alloc, World.size_drew] at h; omega) | (intro kk hk e; have h := hC.ow.lt kk hk; omega)); intro BE0 NE0; refine hv (T := wr.heap.size ≤ (wr.heap.size + 1)) ?_ ?_; (first | (focus (simp; done)) | (have hz := hC.bl.size; (try simp at hz ⊢); omega) | (have hz := hC.sz; (try simp at hz ⊢); omega) | (have hz := hC.up; (try simp at hz ⊢); omega)); intro ZE0; have NX := Lib.hid (NB.mk1 (fs := lfs) (wr := wr) (n := N + 1) hD HL4.out BE0 NE0 ZE0); have t0 := BE0.cell 0 (show _ = some (Value.int .i64 0) from rfl); have t1 := BE0.cell 1 (show _ = some (Value.slice none 0 0) from rfl); have f0 := BE0.fr 0; have f1 := BE0.fr 1; clear BE0 ZE0 NE0) | (refine hvE (hD.far (wr.heap.size + 2)) (cs := #[.int .i64 0, .slice none 0 0]) (t := 24) ?_ ?_ ?_ ?_; (focus ((repeat (first | (with_reducible exact Blk.new _ _ _) | (with_reducible exact Blk.nw1 _ _ _ _) | (with_reducible exact Blk.nw2 _ _ _ _ _) | (with_reducible exact Blk.nw2' _ _ _ _ _) | (with_reducible refine Blk.al ?_ _) | (with_reducible refine Blk.dr ?_) | (refine hvK hC.keep ?_ ?_; (first | (focus (simp; done)) | omega | (have hz := hC.bl.size; (try simp at hz ⊢); omega))))); done)); (first | (focus (simp; done)) | (have hz := hC.bl.size; (try simp at hz ⊢); omega) | (have hz := hC.sz; (try simp at hz ⊢); omega) | (have hz := hC.up; (try simp at hz ⊢); omega)); (first | (intro kk hk e; have h := hC.own kk hk; simp only [World.size_alloc, World.size_drew] at h; omega) | (intro kk hk e; have h := hC.ow.lt kk hk; omega)); intro BE0 NE0; refine hv (T := wr.heap.size ≤ (wr.heap.size + 2)) ?_ ?_; (first | (focus (simp; done)) | (have hz := hC.bl.size; (try simp at hz ⊢); omega) | (have hz := hC.sz; (try simp at hz ⊢); omega) | (have hz := hC.up; (try simp at hz ⊢); omega)); intro ZE0; have NX := Lib.hid (NB.mk1 (fs := lfs) (wr := wr) (n := N + 1) hD HL4.out BE0 NE0 ZE0); have t0 := BE0.cell 0 (show _ = some (Value.int .i64 0) from rfl); have t1 := BE0.cell 1 (show _ = some (Value.slice none 0 0) from rfl); have f0 := BE0.fr 0; have f1 := BE0.fr 1; clear BE0 ZE0 NE0) | (refine hvE (hD.far (wr.heap.size + 1 + 1)) (cs := #[.int .i64 0, .slice none 0 0]) (t := 24) ?_ ?_ ?_ ?_; (focus ((repeat (first | (with_reducible exact Blk.new _ _ _) | (with_reducible exact Blk.nw1 _ _ _ _) | (with_reducible exact Blk.nw2 _ _ _ _ _) | (with_reducible exact Blk.nw2' _ _ _ _ _) | (with_reducible refine Blk.al ?_ _) | (with_reducible refine Blk.dr ?_) | (refine hvK hC.keep ?_ ?_; (first | (focus (simp; done)) | omega | (have hz := hC.bl.size; (try simp at hz ⊢); omega))))); done)); (first | (focus (simp; done)) | (have hz := hC.bl.size; (try simp at hz ⊢); omega) | (have hz := hC.sz; (try simp at hz ⊢); omega) | (have hz := hC.up; (try simp at hz ⊢); omega)); (first | (intro kk hk e; have h := hC.own kk hk; simp only [World.size_alloc, World.size_drew] at h; omega) | (intro kk hk e; have h := hC.ow.lt kk hk; omega)); intro BE0 NE0; refine hv (T := wr.heap.size ≤ (wr.heap.size + 1 + 1)) ?_ ?_; (first | (focus (simp; done)) | (have hz := hC.bl.size; (try simp at hz ⊢); omega) | (have hz := hC.sz; (try simp at hz ⊢); omega) | (have hz := hC.up; (try simp at hz ⊢); omega)); intro ZE0; have NX := Lib.hid (NB.mk1 (fs := lfs) (wr := wr) (n := N + 1) hD HL4.out BE0 NE0 ZE0); have t0 := BE0.cell 0 (show _ = some (Value.int .i64 0) from rfl); have t1 := BE0.cell 1 (show _ = some (Value.slice none 0 0) from rfl); have f0 := BE0.fr 0; have f1 := BE0.fr 1; clear BE0 ZE0 NE0) | (refine hvE (hD.far w1.heap.size) (cs := #[.int .i64 0, .slice none 0 0]) (t := 24) ?_ ?_ ?_ ?_; (focus ((repeat (first | (with_reducible exact Blk.new _ _ _) | (with_reducible exact Blk.nw1 _ _ _ _) | (with_reducible exact Blk.nw2 _ _ _ _ _) | (with_reducible exact Blk.nw2' _ _ _ _ _) | (with_reducible refine Blk.al ?_ _) | (with_reducible refine Blk.dr ?_) | (refine hvK hC.keep ?_ ?_; (first | (focus (simp; done)) | omega | (have hz := hC.bl.size; (try simp at hz ⊢); omega))))); done)); (first | (focus (simp; done)) | (have hz := hC.bl.size; (try simp at hz ⊢); omega) | (have hz := hC.sz; (try simp at hz ⊢); omega) | (have hz := hC.up; (try simp at hz ⊢); omega)); (first | (intro kk hk e; have h := hC.own kk hk; simp only [World.size_alloc, World.size_drew] at h; omega) | (intro kk hk e; have h := hC.ow.lt kk hk; omega)); intro BE0 NE0; refine hv (T := wr.heap.size ≤ w1.heap.size) ?_ ?_; (first | (focus (simp; done)) | (have hz := hC.bl.size; (try simp at hz ⊢); omega) | (have hz := hC.sz; (try simp at hz ⊢); omega) | (have hz := hC.up; (try simp at hz ⊢); omega)); intro ZE0; have NX := Lib.hid (NB.mk1 (fs := lfs) (wr := wr) (n := N + 1) hD HL4.out BE0 NE0 ZE0); have t0 := BE0.cell 0 (show _ = some (Value.int .i64 0) from rfl); have t1 := BE0.cell 1 (show _ = some (Value.slice none 0 0) from rfl); have f0 := BE0.fr 0; have f1 := BE0.fr 1; clear BE0 ZE0 NE0) | (refine hvE (hD.far (w1.heap.size + 1)) (cs := #[.int .i64 0, .slice none 0 0]) (t := 24) ?_ ?_ ?_ ?_; (focus ((repeat (first | (with_reducible exact Blk.new _ _ _) | (with_reducible exact Blk.nw1 _ _ _ _) | (with_reducible exact Blk.nw2 _ _ _ _ _) | (with_reducible exact Blk.nw2' _ _ _ _ _) | (with_reducible refine Blk.al ?_ _) | (with_reducible refine Blk.dr ?_) | (refine hvK hC.keep ?_ ?_; (first | (focus (simp; done)) | omega | (have hz := hC.bl.size; (try simp at hz ⊢); omega))))); done)); (first | (focus (simp; done)) | (have hz := hC.bl.size; (try simp at hz ⊢); omega) | (have hz := hC.sz; (try simp at hz ⊢); omega) | (have hz := hC.up; (try simp at hz ⊢); omega)); (first | (intro kk hk e; have h := hC.own kk hk; simp only [World.size_alloc, World.size_drew] at h; omega) | (intro kk hk e; have h := hC.ow.lt kk hk; omega)); intro BE0 NE0; refine hv (T := wr.heap.size ≤ (w1.heap.size + 1)) ?_ ?_; (first | (focus (simp; done)) | (have hz := hC.bl.size; (try simp at hz ⊢); omega) | (have hz := hC.sz; (try simp at hz ⊢); omega) | (have hz := hC.up; (try simp at hz ⊢); omega)); intro ZE0; have NX := Lib.hid (NB.mk1 (fs := lfs) (wr := wr) (n := N + 1) hD HL4.out BE0 NE0 ZE0); have t0 := BE0.cell 0 (show _ = some (Value.int .i64 0) from rfl); have t1 := BE0.cell 1 (show _ = some (Value.slice none 0 0) from rfl); have f0 := BE0.fr 0; have f1 := BE0.fr 1; clear BE0 ZE0 NE0))))))
          all_goals
            go_wp2_with fail
            go_meet
            first
            | exact ⟨_, _, _, rfl, NX⟩
            | exact ⟨_, _, _, rfl, Lib.hid (NB.mk2 (n := N + 1) hD HL4.out)⟩
        case rest =>
          obtain ⟨b8, g8, c8, rfl, hNB⟩ := hcut
          replace X := Lib.hid (X.out.lo hNB.out.bl)
          obtain ⟨xs, hxs⟩ : ∃ xs, Hid (xs = D ++ T) := ⟨_, Lib.hid rfl⟩
          rw [← hxs.out] at hNB
          have HXL := Lib.hid (show xs.length ≤ 30 by rw [hxs.out, ← HL4.out]; have := HN.out; omega)
          have HXK := Lib.hid (show xs.length ≤ 1000 by have := HXL.out; omega)
          have OS2 := Lib.hid (OS.out xs HXL.out fun x => by rw [hxs.out, hD0.out, hT0.out]; exact mem_turn (by rw [← hN.out]; exact HK.out) x)
          have XK := Lib.hid hNB.out.k
          have XW := Lib.hid hNB.out.wd
          clear hNB SK WSD WST k0 k1 hk1 hk2 hk3 hk4 hk5 hk6 hk7 hk8 hk9 e1 hcc OS
          go_wp2_with fail
          refine (CH.out _).mono ?_
          rintro e w2 ⟨a2, c2, rfl, hI, hg, hnl, hb⟩
          replace X := Lib.hid (X.out.lo hb)
          replace XK := Lib.hid (Blk.alt (p := fun _ => False) XK.out (Alt.of_below hb (fun k hk e => by omega)) id)
          replace XW := Lib.hid (XW.out.lo hb)
          have I2 := Lib.hid hI
          have N2 := Lib.hid hnl
          clear hI hg hnl hb CH
          have k0 := X.out.b.cell 0 (show _ = some (Value.int .i64 lfs) from rfl)
          have k1 := X.out.b.cell 1 rfl
          simp only [← hN.out] at k1
          go_wp2_with fail
          refine (LN.out _ X.out.bl).mono ?_
          rintro e w11 ⟨a3, c3, rfl, hW3, hg3, hb⟩
          replace X := Lib.hid (X.out.lo hb)
          replace XK := Lib.hid (Blk.alt (p := fun _ => False) XK.out (Alt.of_below hb (fun k hk e => by omega)) id)
          replace XW := Lib.hid (XW.out.lo hb)
          replace I2 := Lib.hid (I2.out.lo hb)
          have W3 := Lib.hid hW3
          have G3 := Lib.hid hg3
          clear hW3 hg3 hb k0 k1
          go_wp2_with fail
          refine (LI.out _ _ _ I2.out N2.out).mono ?_
          rintro e w12 ⟨v4, rfl, ho, hb⟩
          obtain ⟨a4, c4, rfl⟩ := own_len ho
          have I4 := Lib.hid (own_intsAt ho).1
          replace X := Lib.hid (X.out.lo hb)
          replace XK := Lib.hid (Blk.alt (p := fun _ => False) XK.out (Alt.of_below hb (fun k hk e => by omega)) id)
          replace XW := Lib.hid (XW.out.lo hb)
          replace I2 := Lib.hid (I2.out.lo hb)
          have W4 := Lib.hid (W3.out.lo hb)
          have G4 := Lib.hid (show ∀ g o, a3 = some ⟨g, o, none⟩ → g < w12.heap.size from fun g o e => Nat.lt_of_lt_of_le (G3.out g o e) hb.size)
          clear ho hb W3 G3
          have E4 := Lib.hid (EX2.out lws (show lws.length ≤ 1000 by rw [← hN.out]; have := HN.out; omega) a3 a4 c3 c4 _ W4.out G4.out I4.out)
          rw [show chkE ⟨lfs, a3, c3, lws⟩ ts = 0 from HCK.out, show explB ⟨lfs, a3, c3, lws⟩ ts = explB ⟨lfs, some ⟨gl, ol, none⟩, lwc, lws⟩ ts from rfl, ← hN.out] at E4
          clear W4 G4 I4
          go_wp2_with fail
          refine E4.out.mono ?_
          rintro e w13 ⟨rfl, hb⟩
          replace X := Lib.hid (X.out.lo hb)
          replace XK := Lib.hid (Blk.alt (p := fun _ => False) XK.out (Alt.of_below hb (fun k hk e => by omega)) id)
          replace XW := Lib.hid (XW.out.lo hb)
          replace I2 := Lib.hid (I2.out.lo hb)
          clear hb E4
          have q0 := XK.out.cell 0 (show _ = some (Value.int .i64 lfs) from rfl)
          have q1 := XK.out.cell 1 (show _ = some (Value.slice (some ⟨g8, 0, none⟩) xs.length c8) from rfl)
          go_wp2_with fail
          refine (LN2.out g8 c8 xs HXK.out _ XW.out).mono ?_
          rintro e w14 ⟨a3, c3, rfl, hW3, hg3, hb⟩
          replace X := Lib.hid (X.out.lo hb)
          replace XK := Lib.hid (Blk.alt (p := fun _ => False) XK.out (Alt.of_below hb (fun k hk e => by omega)) id)
          replace XW := Lib.hid (XW.out.lo hb)
          replace I2 := Lib.hid (I2.out.lo hb)
          have W3 := Lib.hid hW3
          have G3 := Lib.hid hg3
          clear hW3 hg3 hb q0 q1
          go_wp2_with fail
          refine (LI.out _ _ _ I2.out N2.out).mono ?_
          rintro e w15 ⟨v4, rfl, ho, hb⟩
          obtain ⟨a4, c4, rfl⟩ := own_len ho
          have I4 := Lib.hid (own_intsAt ho).1
          replace X := Lib.hid (X.out.lo hb)
          replace XK := Lib.hid (Blk.alt (p := fun _ => False) XK.out (Alt.of_below hb (fun k hk e => by omega)) id)
          replace XW := Lib.hid (XW.out.lo hb)
          replace I2 := Lib.hid (I2.out.lo hb)
          have W4 := Lib.hid (W3.out.lo hb)
          have G4 := Lib.hid (show ∀ g o, a3 = some ⟨g, o, none⟩ → g < w15.heap.size from fun g o e => Nat.lt_of_lt_of_le (G3.out g o e) hb.size)
          clear ho hb W3 G3
          have E4 := Lib.hid (EX2.out xs HXK.out a3 a4 c3 c4 _ W4.out G4.out I4.out)
          rw [show chkE ⟨lfs, a3, c3, xs⟩ ts = 0 from (OS2.out.2.2.2.2.2 ts).1.trans HCK.out, show explB ⟨lfs, a3, c3, xs⟩ ts = explB ⟨lfs, some ⟨gl, ol, none⟩, lwc, lws⟩ ts from (OS2.out.2.2.2.2.2 ts).2.1] at E4
          clear W4 G4 I4
          go_wp2_with fail
          refine E4.out.mono ?_
          rintro e w16 ⟨rfl, hb⟩
          replace X := Lib.hid (X.out.lo hb)
          replace XK := Lib.hid (Blk.alt (p := fun _ => False) XK.out (Alt.of_below hb (fun k hk e => by omega)) id)
          replace XW := Lib.hid (XW.out.lo hb)
          replace I2 := Lib.hid (I2.out.lo hb)
          clear hb E4
          have k0 := X.out.b.cell 0 (show _ = some (Value.int .i64 lfs) from rfl)
          have k1 := X.out.b.cell 1 rfl
          simp only [← hN.out] at k1
          go_wp2_with fail
          refine (LN.out _ X.out.bl).mono ?_
          rintro e w17 ⟨a3, c3, rfl, hW3, hg3, hb⟩
          replace X := Lib.hid (X.out.lo hb)
          replace XK := Lib.hid (Blk.alt (p := fun _ => False) XK.out (Alt.of_below hb (fun k hk e => by omega)) id)
          replace XW := Lib.hid (XW.out.lo hb)
          replace I2 := Lib.hid (I2.out.lo hb)
          have W3 := Lib.hid hW3
          have G3 := Lib.hid hg3
          clear hW3 hg3 hb k0 k1
          have E4 := Lib.hid (LP2.out lws (show lws.length ≤ 1000 by rw [← hN.out]; have := HN.out; omega) a3 c3 _ W3.out G3.out)
          rw [show leastL ⟨lfs, a3, c3, lws⟩ = leastL ⟨lfs, some ⟨gl, ol, none⟩, lwc, lws⟩ from rfl, show faultW ⟨lfs, a3, c3, lws⟩ = 0 from HFF.out, ← hN.out] at E4
          clear W3 G3
          go_wp2_with fail
          refine E4.out.mono ?_
          rintro e w18 ⟨ap1, cp1, rfl, hI, hg, hb⟩
          replace X := Lib.hid (X.out.lo hb)
          replace XK := Lib.hid (Blk.alt (p := fun _ => False) XK.out (Alt.of_below hb (fun k hk e => by omega)) id)
          replace XW := Lib.hid (XW.out.lo hb)
          replace I2 := Lib.hid (I2.out.lo hb)
          have Q1 := Lib.hid hI
          clear hI hg hb E4
          have q0 := XK.out.cell 0 (show _ = some (Value.int .i64 lfs) from rfl)
          have q1 := XK.out.cell 1 (show _ = some (Value.slice (some ⟨g8, 0, none⟩) xs.length c8) from rfl)
          go_wp2_with fail
          refine (LN2.out g8 c8 xs HXK.out _ XW.out).mono ?_
          rintro e w19 ⟨a3, c3, rfl, hW3, hg3, hb⟩
          replace X := Lib.hid (X.out.lo hb)
          replace XK := Lib.hid (Blk.alt (p := fun _ => False) XK.out (Alt.of_below hb (fun k hk e => by omega)) id)
          replace XW := Lib.hid (XW.out.lo hb)
          replace I2 := Lib.hid (I2.out.lo hb)
          replace Q1 := Lib.hid (Q1.out.lo hb)
          have W3 := Lib.hid hW3
          have G3 := Lib.hid hg3
          clear hW3 hg3 hb q0 q1
          have E4 := Lib.hid (LP2.out xs HXK.out a3 c3 _ W3.out G3.out)
          rw [show leastL ⟨lfs, a3, c3, xs⟩ = leastL ⟨lfs, some ⟨gl, ol, none⟩, lwc, lws⟩ from OS2.out.2.2.1, show faultW ⟨lfs, a3, c3, xs⟩ = 0 from OS2.out.1] at E4
          clear W3 G3
          go_wp2_with fail
          refine E4.out.mono ?_
          rintro e w20 ⟨ap2, cp2, rfl, hI, hg, hb⟩
          replace X := Lib.hid (X.out.lo hb)
          replace XK := Lib.hid (Blk.alt (p := fun _ => False) XK.out (Alt.of_below hb (fun k hk e => by omega)) id)
          replace XW := Lib.hid (XW.out.lo hb)
          replace I2 := Lib.hid (I2.out.lo hb)
          replace Q1 := Lib.hid (Q1.out.lo hb)
          have Q2 := Lib.hid hI
          clear hI hg hb E4
          have k0 := X.out.b.cell 0 (show _ = some (Value.int .i64 lfs) from rfl)
          have k1 := X.out.b.cell 1 rfl
          simp only [← hN.out] at k1
          go_wp2_with fail
          refine (LN.out _ X.out.bl).mono ?_
          rintro e w21 ⟨a3, c3, rfl, hW3, hg3, hb⟩
          replace X := Lib.hid (X.out.lo hb)
          replace XK := Lib.hid (Blk.alt (p := fun _ => False) XK.out (Alt.of_below hb (fun k hk e => by omega)) id)
          replace XW := Lib.hid (XW.out.lo hb)
          replace I2 := Lib.hid (I2.out.lo hb)
          replace Q1 := Lib.hid (Q1.out.lo hb)
          replace Q2 := Lib.hid (Q2.out.lo hb)
          have W3 := Lib.hid hW3
          have G3 := Lib.hid hg3
          clear hW3 hg3 hb k0 k1
          have E4 := Lib.hid (BP2.out lws (show lws.length ≤ 1000 by rw [← hN.out]; have := HN.out; omega) a3 c3 _ W3.out G3.out)
          rw [show blmN ⟨lfs, a3, c3, lws⟩ = blmN ⟨lfs, some ⟨gl, ol, none⟩, lwc, lws⟩ from rfl, show blmE ⟨lfs, a3, c3, lws⟩ = blmE ⟨lfs, some ⟨gl, ol, none⟩, lwc, lws⟩ from rfl, ← hN.out] at E4
          clear W3 G3
          go_wp2_with fail
          refine E4.out.mono ?_
          rintro e w22 ⟨rfl, hb⟩
          replace X := Lib.hid (X.out.lo hb)
          replace XK := Lib.hid (Blk.alt (p := fun _ => False) XK.out (Alt.of_below hb (fun k hk e => by omega)) id)
          replace XW := Lib.hid (XW.out.lo hb)
          replace I2 := Lib.hid (I2.out.lo hb)
          replace Q1 := Lib.hid (Q1.out.lo hb)
          replace Q2 := Lib.hid (Q2.out.lo hb)
          clear hb E4
          have q0 := XK.out.cell 0 (show _ = some (Value.int .i64 lfs) from rfl)
          have q1 := XK.out.cell 1 (show _ = some (Value.slice (some ⟨g8, 0, none⟩) xs.length c8) from rfl)
          go_wp2_with fail
          refine (LN2.out g8 c8 xs HXK.out _ XW.out).mono ?_
          rintro e w23 ⟨a3, c3, rfl, hW3, hg3, hb⟩
          replace X := Lib.hid (X.out.lo hb)
          replace XK := Lib.hid (Blk.alt (p := fun _ => False) XK.out (Alt.of_below hb (fun k hk e => by omega)) id)
          replace XW := Lib.hid (XW.out.lo hb)
          replace I2 := Lib.hid (I2.out.lo hb)
          replace Q1 := Lib.hid (Q1.out.lo hb)
          replace Q2 := Lib.hid (Q2.out.lo hb)
          have W3 := Lib.hid hW3
          have G3 := Lib.hid hg3
          clear hW3 hg3 hb q0 q1
          have E4 := Lib.hid (BP2.out xs HXK.out a3 c3 _ W3.out G3.out)
          rw [show blmN ⟨lfs, a3, c3, xs⟩ = blmN ⟨lfs, some ⟨gl, ol, none⟩, lwc, lws⟩ from OS2.out.2.2.2.1, show blmE ⟨lfs, a3, c3, xs⟩ = blmE ⟨lfs, some ⟨gl, ol, none⟩, lwc, lws⟩ from OS2.out.2.2.2.2.1] at E4
          clear W3 G3
          go_wp2_with fail
          refine E4.out.mono ?_
          rintro e w24 ⟨rfl, hb⟩
          replace X := Lib.hid (X.out.lo hb)
          replace XK := Lib.hid (Blk.alt (p := fun _ => False) XK.out (Alt.of_below hb (fun k hk e => by omega)) id)
          replace XW := Lib.hid (XW.out.lo hb)
          replace I2 := Lib.hid (I2.out.lo hb)
          replace Q1 := Lib.hid (Q1.out.lo hb)
          replace Q2 := Lib.hid (Q2.out.lo hb)
          clear hb E4
          have GE := Lib.hid (show explB ⟨lfs, some ⟨gl, ol, none⟩, lwc, lws⟩ ts = true → gofE ⟨lfs, some ⟨gl, ol, none⟩, lwc, lws⟩ ts = 0 from fun h => by rw [gofE_of HCK.out, if_pos h])
          have HLL := Lib.hid (leastL_len ⟨lfs, some ⟨gl, ol, none⟩, lwc, lws⟩)
          obtain ⟨LL, hLL⟩ : ∃ LL, Hid (LL = leastL ⟨lfs, some ⟨gl, ol, none⟩, lwc, lws⟩) := ⟨_, Lib.hid rfl⟩
          rw [← hLL.out] at HLL Q1 Q2
          rw [← hLL.out]
          obtain ⟨BN, hBN⟩ : ∃ BN, Hid (BN = blmN ⟨lfs, some ⟨gl, ol, none⟩, lwc, lws⟩) := ⟨_, Lib.hid rfl⟩
          rw [← hBN.out]
          obtain ⟨BE, hBE⟩ : ∃ BE, Hid (BE = blmE ⟨lfs, some ⟨gl, ol, none⟩, lwc, lws⟩) := ⟨_, Lib.hid rfl⟩
          rw [← hBE.out]
          have hb1 : (BN != BN) = false := by simp
          have hb2 : (BE != BE) = false := by simp
          have C5 := Lib.hid (show Calls Try.prog 34 #[.slice ap1 LL.length cp1, .slice ap2 LL.length cp2] _ (fun e w' => e = .returned (.bool true) ∧ Hid (World.grownBy _ w' none)) from by have := ints_any LL LL ap1 ap2 cp1 cp2 _ Q1.out Q2.out (by have := HLL.out; omega) (by have := HLL.out; omega); simpa using this)
          cases hEB : explB ⟨lfs, some ⟨gl, ol, none⟩, lwc, lws⟩ ts
          · clear hEB
            go_wp2_with fail
            refine C5.out.mono ?_
            rintro e w60 ⟨rfl, hgr⟩
            replace X := Lib.hid (X.out.lo (ints_lo hgr.out))
            replace XK := Lib.hid (Blk.alt (p := fun _ => False) XK.out (Alt.of_below (ints_lo hgr.out) (fun k hk e => by omega)) id)
            replace XW := Lib.hid (XW.out.lo (ints_lo hgr.out))
            replace I2 := Lib.hid (I2.out.lo (ints_lo hgr.out))
            replace Q1 := Lib.hid (Q1.out.lo (ints_lo hgr.out))
            replace Q2 := Lib.hid (Q2.out.lo (ints_lo hgr.out))
            clear hgr C5
            go_wp2_with fail
            refine (WK.out _).mono ?_
            rintro e w98 ⟨rfl, hb⟩
            have X9 := Lib.hid (X.out.lo hb)
            clear hb
            go_wp2_with fail
            go_returns
            exact ⟨rfl, X9.out.bl⟩
          · have HG := Lib.hid (GE.out hEB)
            clear hEB
            have OS3 := Lib.hid ((OS2.out.2.2.2.2.2 ts).2.2 HG.out)
            have k0 := X.out.b.cell 0 (show _ = some (Value.int .i64 lfs) from rfl)
            have k1 := X.out.b.cell 1 rfl
            simp only [← hN.out] at k1
            have q0 := XK.out.cell 0 (show _ = some (Value.int .i64 lfs) from rfl)
            have q1 := XK.out.cell 1 (show _ = some (Value.slice (some ⟨g8, 0, none⟩) xs.length c8) from rfl)
            clear k0 k1 q0 q1
            go_wp2_with fail
            refine C5.out.mono ?_
            rintro e w60 ⟨rfl, hgr⟩
            replace X := Lib.hid (X.out.lo (ints_lo hgr.out))
            replace XK := Lib.hid (Blk.alt (p := fun _ => False) XK.out (Alt.of_below (ints_lo hgr.out) (fun k hk e => by omega)) id)
            replace XW := Lib.hid (XW.out.lo (ints_lo hgr.out))
            replace I2 := Lib.hid (I2.out.lo (ints_lo hgr.out))
            replace Q1 := Lib.hid (Q1.out.lo (ints_lo hgr.out))
            replace Q2 := Lib.hid (Q2.out.lo (ints_lo hgr.out))
            clear hgr C5
            have k0 := X.out.b.cell 0 (show _ = some (Value.int .i64 lfs) from rfl)
            have k1 := X.out.b.cell 1 rfl
            simp only [← hN.out] at k1
            have q0 := XK.out.cell 0 (show _ = some (Value.int .i64 lfs) from rfl)
            have q1 := XK.out.cell 1 (show _ = some (Value.slice (some ⟨g8, 0, none⟩) xs.length c8) from rfl)
            go_wp2_with fail
            refine (NA2.out g8 c8 xs HXK.out a2 c2 w60 X.out.bl XW.out I2.out N2.out OS3.out.1).mono ?_
            rintro e w61 ⟨rfl, hb⟩
            replace X := Lib.hid (X.out.lo hb)
            replace XK := Lib.hid (Blk.alt (p := fun _ => False) XK.out (Alt.of_below hb (fun k hk e => by omega)) id)
            replace XW := Lib.hid (XW.out.lo hb)
            replace I2 := Lib.hid (I2.out.lo hb)
            replace Q1 := Lib.hid (Q1.out.lo hb)
            replace Q2 := Lib.hid (Q2.out.lo hb)
            clear hb k0 k1 q0 q1
            have k0 := X.out.b.cell 0 (show _ = some (Value.int .i64 lfs) from rfl)
            have k1 := X.out.b.cell 1 rfl
            simp only [← hN.out] at k1
            have q0 := XK.out.cell 0 (show _ = some (Value.int .i64 lfs) from rfl)
            have q1 := XK.out.cell 1 (show _ = some (Value.slice (some ⟨g8, 0, none⟩) xs.length c8) from rfl)
            go_wp2_with fail
            refine (NA1.out g8 c8 xs HXK.out a2 c2 w61 X.out.bl XW.out I2.out N2.out OS3.out.2).mono ?_
            rintro e w62 ⟨rfl, hb⟩
            replace X := Lib.hid (X.out.lo hb)
            replace XK := Lib.hid (Blk.alt (p := fun _ => False) XK.out (Alt.of_below hb (fun k hk e => by omega)) id)
            replace XW := Lib.hid (XW.out.lo hb)
            replace I2 := Lib.hid (I2.out.lo hb)
            replace Q1 := Lib.hid (Q1.out.lo hb)
            replace Q2 := Lib.hid (Q2.out.lo hb)
            clear hb k0 k1 q0 q1
            go_wp2_with fail
            refine (WK.out _).mono ?_
            rintro e w98 ⟨rfl, hb⟩
            have X9 := Lib.hid (X.out.lo hb)
            clear hb
            go_wp2_with fail
            go_returns
            exact ⟨rfl, X9.out.bl⟩
      · have h29c : decide ((29 : Int) < (l.ws.length : Int)) = true := decide_eq_true (by omega)
        have h29b : (29 : Int) < (l.ws.length : Int) := by omega
        have hzb : (((l.ws.length : Nat) : Int) == 0) = false := beq_eq_false_iff_ne.2 (by omega)
        unfold Lan.val at *
        clear hL h0 h1 hF hF2 hR hlen h29 hz
        go_enter Try.func13, Try.ntmps13
        go_wp2_with fail
        generalize w.alloc _ = W0 at X ⊢
        have k0 := X.out.b.cell 0 (show _ = some (Value.int .i64 l.fs) from rfl)
        have k1 := X.out.b.cell 1 (show _ = some (Value.slice l.wa l.ws.length l.wc) from rfl)
        go_wp2_with fail
        refine (RD.out _ X.out.bl).mono ?_
        rintro e w1 ⟨rfl, hb⟩
        replace X := Lib.hid (X.out.lo hb)
        clear hb k0 k1 RD
        have k0 := X.out.b.cell 0 (show _ = some (Value.int .i64 l.fs) from rfl)
        have k1 := X.out.b.cell 1 (show _ = some (Value.slice l.wa l.ws.length l.wc) from rfl)
        go_wp2_with fail
        refine (WK.out _).mono ?_
        rintro e w2 ⟨rfl, hb⟩
        replace X := Lib.hid (X.out.lo hb)
        clear hb k0 k1
        go_wp2_with fail
        go_returns
        exact ⟨rfl, X.out.bl⟩
  · have hR : decide (faultW l = 0) = false := by simp [hF]
    rw [hR] at RD
    unfold Lan.val at *
    clear hL h0 h1 hF hR
    go_enter Try.func13, Try.ntmps13
    go_wp2_with fail
    generalize w.alloc _ = W0 at X ⊢
    have k0 := X.out.b.cell 0 (show _ = some (Value.int .i64 l.fs) from rfl)
    have k1 := X.out.b.cell 1 (show _ = some (Value.slice l.wa l.ws.length l.wc) from rfl)
    go_wp2_with fail
    refine (RD.out _ X.out.bl).mono ?_
    rintro e w1 ⟨rfl, hb⟩
    replace X := Lib.hid (X.out.lo hb)
    clear hb k0 k1 RD
    have k0 := X.out.b.cell 0 (show _ = some (Value.int .i64 l.fs) from rfl)
    have k1 := X.out.b.cell 1 (show _ = some (Value.slice l.wa l.ws.length l.wc) from rfl)
    go_wp2_with fail
    refine (WK.out _).mono ?_
    rintro e w2 ⟨rfl, hb⟩
    replace X := Lib.hid (X.out.lo hb)
    clear hb k0 k1
    go_wp2_with fail
    go_returns
    exact ⟨rfl, X.out.bl⟩

end Go.Proofs.Ytbbndcfnpfedpaa
