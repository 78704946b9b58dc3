/- The walk of SeenEach. -/
import Derived.Test.YtbbndcfnpfedpaaYb
set_option linter.unusedVariables false
set_option linter.unusedSimpArgs false
namespace Go.Proofs.Ytbbndcfnpfedpaa
open Go.RowKit Go.Shelf Go.Maps

attribute [local go_sem] Oper.semAt_some

theorem chosen_four {u : Int} (h : ∀ j : Nat, j < 4 → hasI (chosenL u) (j : Int) = true) : (chosenL u).length = 4 := by
  unfold chosenL chosenTo at *
  have e : (List.range 4).filter (bitB u) = List.range 4 := by
    refine List.filter_eq_self.2 fun k hk => ?_
    obtain ⟨k', h1, h2⟩ := List.mem_map.1 (hasI_iff.1 (h k (List.mem_range.1 hk)))
    have : k' = k := by omega
    subst this
    exact (List.mem_filter.1 h1).2
  rw [e]; rfl
/-- A teller that is looked for from the end. -/
def TL (ts : List Int) (k t : Int) : Prop := (0 ≤ t ∧ t ≤ 3) ∧ (hasI ts t = false ∨ ∀ j : Nat, k < (j : Int) → j < 4 → hasI ts (j : Int) = true)
theorem TL.no {ts : List Int} {k t : Int} (h : TL ts k t) (hk : 0 ≤ k ∧ k ≤ 3) (hh : hasI ts k = false) : TL ts (k - 1) k := ⟨hk, .inl hh⟩
theorem TL.yes {ts : List Int} {k t : Int} (h : TL ts k t) (hh : hasI ts k = true) : TL ts (k - 1) t := by
  refine ⟨h.1, ?_⟩
  rcases h.2 with h2 | h2
  · exact .inl h2
  · right
    intro j hj hj4
    by_cases e : (j : Int) = k
    · rw [e]; exact hh
    · exact h2 j (by omega) hj4
theorem offS_no {ts : List Int} {t : Int} (h : hasI ts t = false) : offS ts t = false := by
  unfold offS withS
  rw [h]; rfl

set_option maxRecDepth 100000 in
set_option maxHeartbeats 16000000 in
theorem seenEach_any (l : Lan) (u pl : Int) (w : World) (hL : WdsAt w l.wa l.ws) (_ : (l.ws.length : Int) ≤ 9223372036854775807) (hnl : l.wa = none → l.ws = [] ∧ l.wc = 0) (h0 : 0 ≤ u) (h1 : u < 256) (hp0 : 0 ≤ pl) (hp1 : pl < 256) :
    Calls Try.prog 16 #[l.val, .int .u8 u, .int .u8 pl] w fun e w' => e = .returned (.bool true) ∧ Below w.heap.size w w' := by
  have RD := Lib.hid (fun W (hb : Below w.heap.size w W) => ready_any l W (hL.lo hb))
  have CH := Lib.hid (fun W => chosen_any u W h0 h1)
  have WK := Lib.hid (fun W => wakes_any W)
  have X := Lib.hid (BX.mk' l w)
  obtain ⟨ts, hts⟩ : ∃ ts, Hid (ts = chosenL u) := ⟨_, Lib.hid rfl⟩
  rw [← hts.out] at CH
  have HTL := Lib.hid (show ts.length ≤ 4 by have := chosenL_len u; rw [hts.out]; omega)
  have HRI := Lib.hid (show riseIn 0 3 ts = true by rw [hts.out]; exact chosenL_rise u)
  have H4 := Lib.hid (show (∀ j : Nat, j < 4 → hasI ts (j : Int) = true) → ts.length = 4 from fun h => by rw [hts.out] at h ⊢; exact chosen_four h)
  unfold RetJ at CH
  by_cases hF : faultW l = 0
  · have hF2 := hF
    have hR : decide (faultW l = 0) = true := by simp [hF]
    rw [hR] at RD
    have hlen := fault_len hF2
    by_cases h29 : l.ws.length ≤ 29
    · have LN := Lib.hid (fun W (hb : Below w.heap.size w W) => lawLane_any l W (hL.lo hb) (by omega))
      have LI := Lib.hid (fun a c W (hX : IntsAt W a ts) (h0 : a = none → ts = [] ∧ c = 0) => lawlist_any ts a c W hX h0 (by have := HTL.out; omega))
      have RG := Lib.hid (fun (a a2 : Option Addr) (c c2 : Nat) W (hW : WdsAt W a l.ws) (hg : ∀ g o, a = some ⟨g, o, none⟩ → g < W.heap.size) (hX : IntsAt W a2 ts) => rangesP_any { l with wa := a, wc := c } ts a2 c2 W hW hX (by show l.ws.length ≤ 1000; omega) (by have := HTL.out; omega) hg)
      unfold RngR at RG
      simp only [(same_rngs l _ _ ts).1, (same_rngs l _ _ ts).2.1, (same_rngs l _ _ ts).2.2] at RG
      have HAS := Lib.hid (fun (k : Int) a c W (hX : IntsAt W a ts) => refHas_any ts k a c W hX (by have := HTL.out; omega))
      have LN2 := Lib.hid (fun (g c : Nat) (ws : List Wd) (hn : ws.length ≤ 1000) W (hW : WdsAt W (some ⟨g, 0, none⟩) ws) => lawLane_any ⟨l.fs, some ⟨g, 0, none⟩, c, ws⟩ W hW hn)
      have EX2 := Lib.hid (fun (ws : List Wd) (hn : ws.length ≤ 1000) (a a2 : Option Addr) (c c2 : Nat) W (hW : WdsAt W a ws) (hg : ∀ g o, a = some ⟨g, o, none⟩ → g < W.heap.size) (hX : IntsAt W a2 ts) => explains_any ⟨l.fs, a, c, ws⟩ ts a2 c2 W hW hX hn (by have := HTL.out; omega) hg)
      unfold NewLan at LN LN2
      have hfs := (fault0 hF2).2.2
      have HFS := Lib.hid (show 1 ≤ l.fs ∧ l.fs ≤ 5 from ⟨hfs.1, hfs.2.1⟩)
      have HE := Lib.hid (show gofE l ts = 0 ∨ gofE l ts = 9 from by
        have hc : chkE l ts = 0 := chkE_ok hF2 HRI.out
        rw [gofE_of hc]; split
        · exact .inl rfl
        · exact .inr rfl)
      have HLN := Lib.hid (fun h => rngsL_len (l := l) (ts := ts) h)
      have EM := Lib.hid (fun (hE : gofE l ts = 0) (k : Nat) (r : Int × Int) (hr : (rngsL l ts)[k]? = some r) (t n : Int) (ht : 0 ≤ t ∧ t ≤ 3) (hto : hasI ts t = false) (hn : 0 ≤ n ∧ n ≤ 10) => each_math hE h29 hr ht (offS_no hto) hn)
      have WS0 := Lib.hid hL
      have WN := Lib.hid hnl
      have WL := Lib.hid (show l.ws.length ≤ 900 by omega)
      have HLW := Lib.hid (show ∀ x : Wd, (l.ws ++ [x]).length ≤ 1000 from fun x => by simp; omega)
      have h29c : decide ((29 : Int) < (l.ws.length : Int)) = false := decide_eq_false (by omega)
      have h29b : ¬ ((29 : Int) < (l.ws.length : Int)) := by omega
      obtain ⟨E, hE⟩ : ∃ E, Hid (E = gofE l ts) := ⟨_, Lib.hid rfl⟩
      rw [← hE.out] at RG HE HLN EM
      obtain ⟨R, hRR⟩ : ∃ R, Hid (R = rngsL l ts) := ⟨_, Lib.hid rfl⟩
      rw [← hRR.out] at RG HLN EM
      generalize cntL (gofL l ts) = cn at *
      have HP := Lib.hid (And.intro hp0 hp1)
      have ec : IntKind.i64.wrap pl = pl := IntWalk.i64_in _ (by omega)
      have EC := Lib.hid ec
      unfold Lan.val at *
      clear hL h0 h1 hF hF2 hR hfs hnl hlen h29 hp0 hp1 ec
      go_enter Try.func16, Try.ntmps16
      go_wp2_with fail
      generalize w.alloc _ = W0 at X ⊢
      have k0 := X.out.b.cell 0 (show _ = some (Value.int .i64 l.fs) from rfl)
      have k1 := X.out.b.cell 1 (show _ = some (Value.slice l.wa l.ws.length l.wc) from rfl)
      go_wp2_with fail
      refine (RD.out _ X.out.bl).mono ?_
      rintro e w1 ⟨rfl, hb⟩
      replace X := Lib.hid (X.out.lo hb)
      clear hb k0 k1 RD
      have k0 := X.out.b.cell 0 (show _ = some (Value.int .i64 l.fs) from rfl)
      have k1 := X.out.b.cell 1 (show _ = some (Value.slice l.wa l.ws.length l.wc) from rfl)
      go_wp2_with fail
      refine (CH.out _).mono ?_
      rintro e w2 ⟨a2, c2, rfl, hI, hg, hnl, hb⟩
      replace X := Lib.hid (X.out.lo hb)
      have I2 := Lib.hid hI
      have N2 := Lib.hid hnl
      clear hI hg hnl hb CH k0 k1 h29b h29c
      by_cases h4 : ts.length = 4
      · have h4b : (((ts.length : Nat) : Int) == 4) = true := by rw [h4]; rfl
        clear h4
        go_wp2_with fail
        refine (WK.out _).mono ?_
        rintro e w98 ⟨rfl, hb⟩
        have X9 := Lib.hid (X.out.lo hb)
        clear hb
        go_wp2_with fail
        go_returns
        exact ⟨rfl, X9.out.bl⟩
      · have h4b : (((ts.length : Nat) : Int) == 4) = false := by simp; omega
        have H4N := Lib.hid (show ¬ ∀ j : Nat, j < 4 → hasI ts (j : Int) = true from fun h => h4 (H4.out h))
        clear h4
        go_wp2_with fail
        clear h4b
        go_loopg [8, 9] 4 (fun g s8 s9 wx => ∃ k t : Int, -1 ≤ k ∧ k ≤ 3 ∧ g = (k + 1).toNat ∧ s9 = .int .i64 k ∧ s8 = .int .i64 t ∧ Hid (TL ts k t) ∧ Hid (BX l w wx) ∧ Hid (IntsAt wx a2 ts))
        case atStart => exact ⟨3, 0, by omega, by omega, rfl, rfl, rfl, Lib.hid ⟨by omega, .inr fun j h1 h2 => by omega⟩, X, I2⟩
        case round =>
          obtain ⟨k, t, hk0, hk3, rfl, rfl, rfl, hT, hX, hI⟩ := hrel
          clear X I2
          by_cases hk : 0 ≤ k
          · have ek : IntKind.i64.wrap (k - 1) = k - 1 := IntWalk.i64_in _ (by omega)
            have HK := Lib.hid (And.intro hk hk3)
            have EK := Lib.hid ek
            clear hk0 hk3 ek
            go_wp2_with fail
            refine (HAS.out k a2 c2 _ hI.out).mono ?_
            rintro e w4 ⟨rfl, hb⟩
            have X4 := Lib.hid (hX.out.lo hb)
            have I4 := Lib.hid (hI.out.lo hb)
            have ek := EK.out
            clear hb hX hI hk
            cases hh : hasI ts k
            · have TN := Lib.hid (hT.out.no HK.out hh)
              clear hh hT
              go_wp2_with fail
              go_roundg (k - 1 + 1).toNat
              case measure => have := HK.out; omega
              case rel => exact ⟨k - 1, k, by have := HK.out; omega, by have := HK.out; omega, rfl, rfl, rfl, TN, X4, I4⟩
            · have TN := Lib.hid (hT.out.yes hh)
              clear hh hT
              go_wp2_with fail
              go_roundg (k - 1 + 1).toNat
              case measure => have := HK.out; omega
              case rel => exact ⟨k - 1, t, by have := HK.out; omega, by have := HK.out; omega, rfl, rfl, rfl, TN, X4, I4⟩
          · have hkn : ¬ (0 : Int) ≤ k := hk
            have HT2 := Lib.hid (show (0 ≤ t ∧ t ≤ 3) ∧ hasI ts t = false from ⟨hT.out.1, by
              rcases hT.out.2 with h | h
              · exact h
              · exact absurd (fun j hj => h j (by omega) hj) H4N.out⟩)
            have X := hX
            have I2 := hI
            clear hT hX hI hk hk0 hk3 H4N H4 HAS
            have k0 := X.out.b.cell 0 (show _ = some (Value.int .i64 l.fs) from rfl)
            have k1 := X.out.b.cell 1 (show _ = some (Value.slice l.wa l.ws.length l.wc) from rfl)
            go_wp2_with fail
            refine (LN.out _ X.out.bl).mono ?_
            rintro e w11 ⟨a3, c3, rfl, hW3, hg3, hb⟩
            replace X := Lib.hid (X.out.lo hb)
            replace I2 := Lib.hid (I2.out.lo hb)
            have W3 := Lib.hid hW3
            have G3 := Lib.hid hg3
            clear hW3 hg3 hb k0 k1
            go_wp2_with fail
            refine (LI.out _ _ _ I2.out N2.out).mono ?_
            rintro e w12 ⟨v4, rfl, ho, hb⟩
            obtain ⟨a4, c4, rfl⟩ := own_len ho
            have I4 := Lib.hid (own_intsAt ho).1
            replace X := Lib.hid (X.out.lo hb)
            replace I2 := Lib.hid (I2.out.lo hb)
            have W4 := Lib.hid (W3.out.lo hb)
            have G4 := Lib.hid (show ∀ g o, a3 = some ⟨g, o, none⟩ → g < w12.heap.size from fun g o e => Nat.lt_of_lt_of_le (G3.out g o e) hb.size)
            clear ho hb W3 G3
            have R4 := Lib.hid (RG.out a3 a4 c3 c4 _ W4.out G4.out I4.out)
            clear W4 G4 I4 RG
            go_wp2_with fail
            refine R4.out.mono ?_
            rintro e w5 ⟨a5, c5, rfl, hP, hB, hb⟩
            replace X := Lib.hid (X.out.lo hb)
            replace I2 := Lib.hid (I2.out.lo hb)
            have P := Lib.hid hP
            clear hP hB hb R4
            have BA := below_al w5 (.cells #[.int .i64 cn.1, .int .i64 cn.2] 41)
            replace X := Lib.hid (X.out.lo BA)
            replace I2 := Lib.hid (I2.out.lo BA)
            replace P := Lib.hid (P.out.lo BA)
            clear BA
            by_cases hE0 : E = 0
            · subst hE0
              have EM2 := Lib.hid (EM.out (by first | rfl | trivial))
              have HLN2 := Lib.hid (HLN.out (by first | rfl | trivial))
              obtain ⟨N, hN⟩ : ∃ N, Hid (N = R.length) := ⟨_, Lib.hid rfl⟩
              have HN := Lib.hid (show (N : Int) = 2 * l.fs ∧ 2 ≤ N ∧ N ≤ 10 by rw [hN.out]; have := HLN2.out; have := HFS.out; omega)
              have e1 : IntKind.i64.wrap (2 * l.fs) = (N : Int) := by rw [HN.out.1]; exact IntWalk.i64_in _ (by have := HFS.out; omega)
              rw [← hN.out]
              obtain ⟨k0n, hk0n⟩ : ∃ k : Nat, Hid (k = pl.toNat % N) := ⟨_, Lib.hid rfl⟩
              have HK := Lib.hid (show k0n < N by rw [hk0n.out]; exact Nat.mod_lt _ (by have := HN.out; omega))
              have tm : Int.tmod pl (N : Int) = (k0n : Int) := by rw [Int.tmod_eq_emod_of_nonneg HP.out.1, hk0n.out, Int.natCast_emod, show ((pl.toNat : Nat) : Int) = pl by have := HP.out; omega]
              obtain ⟨⟨lo, hi⟩, hr⟩ : ∃ r, R[k0n]? = some r := ⟨R[k0n]'(by have := HK.out; rw [← hN.out]; exact this), List.getElem?_eq_getElem _⟩
              have EM3 := Lib.hid (fun n hn => EM2.out k0n (lo, hi) hr t n HT2.out.1 HT2.out.2 hn)
              have HR := Lib.hid hr
              have hz : ((N : Int) == 0) = false := by have := HN.out; simp; omega
              have hz2 : ¬ (N : Int) = 0 := by have := HN.out; omega
              have hnn : ((N : Int) != (N : Int)) = false := by simp
              have ec := EC.out
              clear hr EM EM2 HLN HE
              have k0 := X.out.b.cell 0 (show _ = some (Value.int .i64 l.fs) from rfl)
              go_wp2_with fail
              clear k0 e1 tm hz hz2 hnn ec
              generalize World.alloc w5 _ = w6 at X I2 P ⊢
              go_loopg [14] 11 (fun g s14 wx => ∃ n : Nat, n ≤ 11 ∧ g = 11 - n ∧ s14 = .int .i64 (n : Int) ∧ Hid (BX l w wx) ∧ Hid (IntsAt wx a2 ts) ∧ Hid (P2At wx a5 R))
              case atStart => exact ⟨0, by omega, by omega, rfl, X, I2, P⟩
              case round =>
                obtain ⟨n, hn, rfl, rfl, hX, hI, hP⟩ := hrel
                clear X I2 P
                by_cases hlt : n < 11
                · have hz1 : (n : Int) ≤ 10 := by omega
                  have HI := Lib.hid hlt
                  have E2 := Lib.hid (show IntKind.i64.wrap ((n : Int) + 1) = (n : Int) + 1 from IntWalk.i64_in _ (by omega))
                  have EM4 := Lib.hid (EM3.out (n : Int) ⟨by omega, by omega⟩)
                  obtain ⟨fr, hfr⟩ : ∃ fr, Hid (fr = ((k0n / 2 : Nat) : Int)) := ⟨_, Lib.hid rfl⟩
                  obtain ⟨ba, hba⟩ : ∃ ba, Hid (ba = ((k0n % 2 : Nat) : Int)) := ⟨_, Lib.hid rfl⟩
                  rw [← hfr.out, ← hba.out] at EM4
                  have tq : Int.tdiv (k0n : Int) 2 = fr := by rw [hfr.out, Int.tdiv_eq_ediv_of_nonneg (by omega)]; simp
                  have tw : IntKind.i64.wrap fr = fr := by rw [hfr.out]; exact IntWalk.i64_in _ (by have := HK.out; have := HN.out; omega)
                  have tr : Int.tmod (k0n : Int) 2 = ba := by rw [hba.out, Int.tmod_eq_emod_of_nonneg (by omega)]; simp
                  have k0 := hX.out.b.cell 0 (show _ = some (Value.int .i64 l.fs) from rfl)
                  have k1 := hX.out.b.cell 1 (show _ = some (Value.slice l.wa l.ws.length l.wc) from rfl)
                  have SK := Lib.hid (show ∀ Wx, Below wr.heap.size wr Wx → (Wx.cell? ⟨w.heap.size, 0, none⟩ = some (.int .i64 l.fs) ∧ Wx.cell? ⟨w.heap.size, 1, none⟩ = some (.slice l.wa l.ws.length l.wc)) from fun Wx hb => ⟨cell_lo hb k0, cell_lo hb k1⟩)
                  have WS := Lib.hid (WS0.out.lo hX.out.bl)
                  clear hlt hn
                  go_wp2_with fail
                  go_cut [15] from 122 (fun s15 wx => ∃ b15 g15 c15 : Nat, s15 = .pointer (some ⟨b15, 0, none⟩) ∧ Hid (NB l.fs (l.ws ++ [⟨fr, ba, t, (n : Int), (n : Int)⟩]) (l.ws.length + 1) b15 g15 c15 wr wx))
                  case first =>
                    (go_region_held3 (fun Wx => Wx.cell? ⟨w.heap.size, 0, none⟩ = some (.int .i64 l.fs) ∧ Wx.cell? ⟨w.heap.size, 1, none⟩ = some (.slice l.wa l.ws.length l.wc))
                        (first | (with_reducible exact SK.out _ NX.out.bl) | (refine SK.out _ ?_; (repeat (first | (with_reducible exact hD.bl) | (with_reducible exact hC.bl) | (with_reducible exact Below.refl _ _) | (with_reducible refine Below.drew ?_) | (with_reducible refine below_al2 ?_ _)))))
                        (first | ((refine armCopy (wr := wr) WS.out WN.out WL.out rfl rfl rfl rfl ?_ ?_ ?_ ?_); ((repeat (first | (with_reducible exact Blk.new _ _ _) | (with_reducible exact Blk.nw1 _ _ _ _) | (with_reducible exact Blk.nw2 _ _ _ _ _) | (with_reducible exact Blk.nw2' _ _ _ _ _) | (with_reducible refine Blk.al ?_ _) | (with_reducible refine Blk.dr ?_) | (refine hvK hC.keep ?_ ?_; (first | (focus (simp; done)) | omega | (have hz := hC.bl.size; (try simp at hz ⊢); omega)))))); ((repeat (first | (with_reducible exact hD.bl) | (with_reducible exact hC.bl) | (with_reducible exact Below.refl _ _) | (with_reducible refine Below.drew ?_) | (with_reducible refine below_al2 ?_ _)))); (first | exact Nat.le_refl _ | (focus (simp; done)) | omega); (intro v1 w1 hC)) | ((first | refine armOne (wr := wr) (y0 := fr) (y1 := ba) (y2 := t) (y3 := (n : Int)) (y4 := (n : Int)) hC.ow WL.out hC.sz rfl rfl rfl rfl ?_ ?_ ?_ ?_ | refine armOne (wr := wr) (y0 := fr) (y1 := ba) (y2 := t) (y3 := (n : Int)) (y4 := (n : Int)) (hC.ow.alloc _) WL.out (sz_al hC.sz _) rfl rfl rfl rfl ?_ ?_ ?_ ?_ | refine armOne (wr := wr) (y0 := fr) (y1 := ba) (y2 := t) (y3 := (n : Int)) (y4 := (n : Int)) ((hC.ow.alloc _).alloc _) WL.out (sz_al (sz_al hC.sz _) _) rfl rfl rfl rfl ?_ ?_ ?_ ?_); ((repeat (first | (with_reducible exact Blk.new _ _ _) | (with_reducible exact Blk.nw1 _ _ _ _) | (with_reducible exact Blk.nw2 _ _ _ _ _) | (with_reducible exact Blk.nw2' _ _ _ _ _) | (with_reducible refine Blk.al ?_ _) | (with_reducible refine Blk.dr ?_) | (refine hvK hC.keep ?_ ?_; (first | (focus (simp; done)) | omega | (have hz := hC.bl.size; (try simp at hz ⊢); omega)))))); ((repeat (first | (with_reducible exact hD.bl) | (with_reducible exact hC.bl) | (with_reducible exact Below.refl _ _) | (with_reducible refine Below.drew ?_) | (with_reducible refine below_al2 ?_ _)))); (first | exact Nat.le_refl _ | (focus (simp; done)) | omega); (intro gD cD w2 hD); (try (first | (refine hvE (hD.far wr.heap.size) (cs := #[.int .i64 0, .slice none 0 0]) (t := 24) ?_ ?_ ?_ ?_; (focus ((repeat (first | (with_reducible exact Blk.new _ _ _) | (with_reducible exact Blk.nw1 _ _ _ _) | (with_reducible exact Blk.nw2 _ _ _ _ _) | (with_reducible exact Blk.nw2' _ _ _ _ _) | (with_reducible refine Blk.al ?_ _) | (with_reducible refine Blk.dr ?_) | (refine hvK hC.keep ?_ ?_; (first | (focus (simp; done)) | omega | (have hz := hC.bl.size; (try simp at hz ⊢); omega))))); done)); (first | (focus (simp; done)) | (have hz := hC.bl.size; (try simp at hz ⊢); omega) | (have hz := hC.sz; (try simp at hz ⊢); omega) | (have hz := hC.up; (try simp at hz ⊢); omega)); (first | (intro kk hk e; have h := hC.own kk hk; simp only [World.size_alloc, World.size_drew] at h; omega) | (intro kk hk e; have h := hC.ow.lt kk hk; omega)); intro BE0 NE0; refine hv (T := wr.heap.size ≤ wr.heap.size) ?_ ?_; (first | (focus (simp; done)) | (have hz := hC.bl.size; (try simp at hz ⊢); omega) | (have hz := hC.sz; (try simp at hz ⊢); omega) | (have hz := hC.up; (try simp at hz ⊢); omega)); intro ZE0; have NX := Lib.hid (NB.mk1 (fs := l.fs) (wr := wr) (n := l.ws.length + 1) hD (by simp) BE0 NE0 ZE0); have t0 := BE0.cell 0 (show _ = some (Value.int .i64 0) from rfl); have t1 := BE0.cell 1 (show _ = some (Value.slice none 0 0) from rfl); have f0 := BE0.fr 0; have f1 := BE0.fr 1; clear BE0 ZE0 NE0) | (refine hvE (hD.far (wr.heap.size + 1)) (cs := #[.int .i64 0, .slice none 0 0]) (t := 24) ?_ ?_ ?_ ?_; (focus ((repeat (first | (with_reducible exact Blk.new _ _ _) | (with_reducible exact Blk.nw1 _ _ _ _) | (with_reducible exact Blk.nw2 _ _ _ _ _) | (with_reducible exact Blk.nw2' _ _ _ _ _) | (with_reducible refine Blk.al ?_ _) | (with_reducible refine Blk.dr ?_) | (refine hvK hC.keep ?_ ?_; (first | (focus (simp; done)) | omega | (have hz := hC.bl.size; (try simp at hz ⊢); omega))))); done)); (first | (focus (simp; done)) | (have hz := hC.bl.size; (try simp at hz ⊢); omega) | (have hz := hC.sz; (try simp at hz ⊢); omega) | (have hz := hC.up; (try simp at hz ⊢); omega)); (first | (intro kk hk e; have h := hC.own kk hk; simp only [World.size_alloc, World.size_drew] at h; omega) | (intro kk hk e; have h := hC.ow.lt kk hk; omega)); intro BE0 NE0; refine hv (T := wr.heap.size ≤ (wr.heap.size + 1)) ?_ ?_; (first | (focus (simp; done)) | (have hz := hC.bl.size; (try simp at hz ⊢); omega) | (have hz := hC.sz; (try simp at hz ⊢); omega) | (have hz := hC.up; (try simp at hz ⊢); omega)); intro ZE0; have NX := Lib.hid (NB.mk1 (fs := l.fs) (wr := wr) (n := l.ws.length + 1) hD (by simp) BE0 NE0 ZE0); have t0 := BE0.cell 0 (show _ = some (Value.int .i64 0) from rfl); have t1 := BE0.cell 1 (show _ = some (Value.slice none 0 0) from rfl); have f0 := BE0.fr 0; have f1 := BE0.fr 1; clear BE0 ZE0 NE0) | (refine hvE (hD.far (wr.heap.size + 2)) (cs := #[.int .i64 0, .slice none 0 0]) (t := 24) ?_ ?_ ?_ ?_; (focus ((repeat (first | (with_reducible exact Blk.new _ _ _) | (with_reducible exact Blk.nw1 _ _ _ _) | (with_reducible exact Blk.nw2 _ _ _ _ _) | (with_reducible exact Blk.nw2' _ _ _ _ _) | (with_reducible refine Blk.al ?_ _) | (with_reducible refine Blk.dr ?_) | (refine hvK hC.keep ?_ ?_; (first | (focus (simp; done)) | omega | (have hz := hC.bl.size; (try simp at hz ⊢); omega))))); done)); (first | (focus (simp; done)) | (have hz := hC.bl.size; (try simp at hz ⊢); omega) | (have hz := hC.sz; (try simp at hz ⊢); omega) | (have hz := hC.up; (try simp at hz ⊢); omega)); (first | (intro kk hk e; have h := hC.own kk hk; simp only [World.size_alloc, World.size_drew] at h; omega) | (intro kk hk e; have h := hC.ow.lt kk hk; omega)); intro BE0 NE0; refine hv (T := wr.heap.size ≤ (wr.heap.size + 2)) ?_ ?_; (first | (focus (simp; done)) | (have hz := hC.bl.size; (try simp at hz ⊢); omega) | (have hz := hC.sz; (try simp at hz ⊢); omega) | (have hz := hC.up; (try simp at hz ⊢); omega)); intro ZE0; have NX := Lib.hid (NB.mk1 (fs := l.fs) (wr := wr) (n := l.ws.length + 1) hD (by simp) BE0 NE0 ZE0); have t0 := BE0.cell 0 (show _ = some (Value.int .i64 0) from rfl); have t1 := BE0.cell 1 (show _ = some (Value.slice none 0 0) from rfl); have f0 := BE0.fr 0; have f1 := BE0.fr 1; clear BE0 ZE0 NE0) | (refine hvE (hD.far (wr.heap.size + 1 + 1)) (cs := #[.int .i64 0, .slice none 0 0]) (t := 24) ?_ ?_ ?_ ?_; (focus ((repeat (first | (with_reducible exact Blk.new _ _ _) | (with_reducible exact Blk.nw1 _ _ _ _) | (with_reducible exact Blk.nw2 _ _ _ _ _) | (with_reducible exact Blk.nw2' _ _ _ _ _) | (with_reducible refine Blk.al ?_ _) | (with_reducible refine Blk.dr ?_) | (refine hvK hC.keep ?_ ?_; (first | (focus (simp; done)) | omega | (have hz := hC.bl.size; (try simp at hz ⊢); omega))))); done)); (first | (focus (simp; done)) | (have hz := hC.bl.size; (try simp at hz ⊢); omega) | (have hz := hC.sz; (try simp at hz ⊢); omega) | (have hz := hC.up; (try simp at hz ⊢); omega)); (first | (intro kk hk e; have h := hC.own kk hk; simp only [World.size_alloc, World.size_drew] at h; omega) | (intro kk hk e; have h := hC.ow.lt kk hk; omega)); intro BE0 NE0; refine hv (T := wr.heap.size ≤ (wr.heap.size + 1 + 1)) ?_ ?_; (first | (focus (simp; done)) | (have hz := hC.bl.size; (try simp at hz ⊢); omega) | (have hz := hC.sz; (try simp at hz ⊢); omega) | (have hz := hC.up; (try simp at hz ⊢); omega)); intro ZE0; have NX := Lib.hid (NB.mk1 (fs := l.fs) (wr := wr) (n := l.ws.length + 1) hD (by simp) BE0 NE0 ZE0); have t0 := BE0.cell 0 (show _ = some (Value.int .i64 0) from rfl); have t1 := BE0.cell 1 (show _ = some (Value.slice none 0 0) from rfl); have f0 := BE0.fr 0; have f1 := BE0.fr 1; clear BE0 ZE0 NE0) | (refine hvE (hD.far w1.heap.size) (cs := #[.int .i64 0, .slice none 0 0]) (t := 24) ?_ ?_ ?_ ?_; (focus ((repeat (first | (with_reducible exact Blk.new _ _ _) | (with_reducible exact Blk.nw1 _ _ _ _) | (with_reducible exact Blk.nw2 _ _ _ _ _) | (with_reducible exact Blk.nw2' _ _ _ _ _) | (with_reducible refine Blk.al ?_ _) | (with_reducible refine Blk.dr ?_) | (refine hvK hC.keep ?_ ?_; (first | (focus (simp; done)) | omega | (have hz := hC.bl.size; (try simp at hz ⊢); omega))))); done)); (first | (focus (simp; done)) | (have hz := hC.bl.size; (try simp at hz ⊢); omega) | (have hz := hC.sz; (try simp at hz ⊢); omega) | (have hz := hC.up; (try simp at hz ⊢); omega)); (first | (intro kk hk e; have h := hC.own kk hk; simp only [World.size_alloc, World.size_drew] at h; omega) | (intro kk hk e; have h := hC.ow.lt kk hk; omega)); intro BE0 NE0; refine hv (T := wr.heap.size ≤ w1.heap.size) ?_ ?_; (first | (focus (simp; done)) | (have hz := hC.bl.size; (try simp at hz ⊢); omega) | (have hz := hC.sz; (try simp at hz ⊢); omega) | (have hz := hC.up; (try simp at hz ⊢); omega)); intro ZE0; have NX := Lib.hid (NB.mk1 (fs := l.fs) (wr := wr) (n := l.ws.length + 1) hD (by simp) BE0 NE0 ZE0); have t0 := BE0.cell 0 (show _ = some (Value.int .i64 0) from rfl); have t1 := BE0.cell 1 (show _ = some (Value.slice none 0 0) from rfl); have f0 := BE0.fr 0; have f1 := BE0.fr 1; clear BE0 ZE0 NE0) | (refine hvE (hD.far (w1.heap.size + 1)) (cs := #[.int .i64 0, .slice none 0 0]) (t := 24) ?_ ?_ ?_ ?_; (focus ((repeat (first | (with_reducible exact Blk.new _ _ _) | (with_reducible exact Blk.nw1 _ _ _ _) | (with_reducible exact Blk.nw2 _ _ _ _ _) | (with_reducible exact Blk.nw2' _ _ _ _ _) | (with_reducible refine Blk.al ?_ _) | (with_reducible refine Blk.dr ?_) | (refine hvK hC.keep ?_ ?_; (first | (focus (simp; done)) | omega | (have hz := hC.bl.size; (try simp at hz ⊢); omega))))); done)); (first | (focus (simp; done)) | (have hz := hC.bl.size; (try simp at hz ⊢); omega) | (have hz := hC.sz; (try simp at hz ⊢); omega) | (have hz := hC.up; (try simp at hz ⊢); omega)); (first | (intro kk hk e; have h := hC.own kk hk; simp only [World.size_alloc, World.size_drew] at h; omega) | (intro kk hk e; have h := hC.ow.lt kk hk; omega)); intro BE0 NE0; refine hv (T := wr.heap.size ≤ (w1.heap.size + 1)) ?_ ?_; (first | (focus (simp; done)) | (have hz := hC.bl.size; (try simp at hz ⊢); omega) | (have hz := hC.sz; (try simp at hz ⊢); omega) | (have hz := hC.up; (try simp at hz ⊢); omega)); intro ZE0; have NX := Lib.hid (NB.mk1 (fs := l.fs) (wr := wr) (n := l.ws.length + 1) hD (by simp) BE0 NE0 ZE0); have t0 := BE0.cell 0 (show _ = some (Value.int .i64 0) from rfl); have t1 := BE0.cell 1 (show _ = some (Value.slice none 0 0) from rfl); have f0 := BE0.fr 0; have f1 := BE0.fr 1; clear BE0 ZE0 NE0))))))
                    all_goals
                      go_wp2_with fail
                      go_meet
                      first
                      | exact ⟨_, _, _, rfl, NX⟩
                      | exact ⟨_, _, _, rfl, Lib.hid (NB.mk2 (n := l.ws.length + 1) hD (by simp))⟩
                  case rest =>
                    obtain ⟨b15, g15, c15, rfl, hNB⟩ := hcut
                    have X := Lib.hid (hX.out.lo hNB.out.bl)
                    have I2 := Lib.hid (hI.out.lo hNB.out.bl)
                    have P := Lib.hid (hP.out.lo hNB.out.bl)
                    obtain ⟨xs, hxs⟩ : ∃ xs, Hid (xs = l.ws ++ [(⟨fr, ba, t, (n : Int), (n : Int)⟩ : Wd)]) := ⟨_, Lib.hid rfl⟩
                    have HXL := Lib.hid (show xs.length ≤ 1000 by rw [hxs.out]; exact HLW.out _)
                    rw [← hxs.out] at hNB EM4
                    unfold withW at EM4
                    have q0 := hNB.out.k.cell 0 (show _ = some (Value.int .i64 l.fs) from rfl)
                    have q1 := hNB.out.k.cell 1 (show _ = some (Value.slice (some ⟨g15, 0, none⟩) xs.length c15) from rfl)
                    have L3 := Lib.hid (LN2.out g15 c15 xs HXL.out wc hNB.out.wd)
                    unfold Lan.val at L3
                    clear hX hI hP k0 k1 SK WS tq tw tr hNB
                    go_wp2_with fail
                    refine L3.out.mono ?_
                    rintro e w21 ⟨a3, c3, rfl, hW3, hg3, hb⟩
                    replace X := Lib.hid (X.out.lo hb)
                    replace I2 := Lib.hid (I2.out.lo hb)
                    replace P := Lib.hid (P.out.lo hb)
                    have W3 := Lib.hid hW3
                    have G3 := Lib.hid hg3
                    clear hW3 hg3 hb q0 q1 L3
                    go_wp2_with fail
                    refine (LI.out _ _ _ I2.out N2.out).mono ?_
                    rintro e w31 ⟨v4, rfl, ho, hb⟩
                    obtain ⟨a4, c4, rfl⟩ := own_len ho
                    have I4 := Lib.hid (own_intsAt ho).1
                    replace X := Lib.hid (X.out.lo hb)
                    replace I2 := Lib.hid (I2.out.lo hb)
                    replace P := Lib.hid (P.out.lo hb)
                    have W4 := Lib.hid (W3.out.lo hb)
                    have G4 := Lib.hid (show ∀ g o, a3 = some ⟨g, o, none⟩ → g < w31.heap.size from fun g o e => Nat.lt_of_lt_of_le (G3.out g o e) hb.size)
                    clear ho hb W3 G3
                    have E4 := Lib.hid (EX2.out xs HXL.out a3 a4 c3 c4 _ W4.out G4.out I4.out)
                    unfold Lan.val at E4
                    rw [show explB ⟨l.fs, a3, c3, xs⟩ ts = inB (n : Int) lo hi from EM4.out.1, show chkE ⟨l.fs, a3, c3, xs⟩ ts = 0 from EM4.out.2] at E4
                    clear W4 G4 I4 EM4
                    go_wp2_with fail
                    refine E4.out.mono ?_
                    rintro e w40 ⟨rfl, hb⟩
                    replace X := Lib.hid (X.out.lo hb)
                    replace I2 := Lib.hid (I2.out.lo hb)
                    replace P := Lib.hid (P.out.lo hb)
                    clear hb E4
                    obtain ⟨g5, o5, rfl, p1, p2⟩ := P.out k0n (lo, hi) HR.out
                    simp only at p1 p2
                    have hk1 : (0 : Int) ≤ (k0n : Int) := by omega
                    have hk2 : (k0n : Int) < (N : Int) := by have := HK.out; omega
                    have e2 := E2.out
                    by_cases c1 : lo ≤ (n : Int)
                    · by_cases c2 : (n : Int) ≤ hi
                      · have hv : inB (n : Int) lo hi = true := inB_iff.2 ⟨c1, c2⟩
                        rw [hv]
                        clear hv
                        have d1 : decide (lo ≤ (n : Int)) = true := decide_eq_true c1
                        have d2 : decide ((n : Int) ≤ hi) = true := decide_eq_true c2
                        go_wp2_with fail
                        go_roundg (11 - (n + 1))
                        case measure => have := HI.out; omega
                        case rel => exact ⟨n + 1, by have := HI.out; omega, rfl, by simp, X, I2, P⟩
                      · have hv : inB (n : Int) lo hi = false := by unfold inB; rw [decide_eq_false c2]; simp
                        rw [hv]
                        clear hv
                        have d1 : decide (lo ≤ (n : Int)) = true := decide_eq_true c1
                        have d2 : decide ((n : Int) ≤ hi) = false := decide_eq_false c2
                        go_wp2_with fail
                        go_roundg (11 - (n + 1))
                        case measure => have := HI.out; omega
                        case rel => exact ⟨n + 1, by have := HI.out; omega, rfl, by simp, X, I2, P⟩
                    · have hv : inB (n : Int) lo hi = false := by unfold inB; rw [decide_eq_false c1]; rfl
                      rw [hv]
                      clear hv
                      have d1 : decide (lo ≤ (n : Int)) = false := decide_eq_false c1
                      go_wp2_with fail
                      go_roundg (11 - (n + 1))
                      case measure => have := HI.out; omega
                      case rel => exact ⟨n + 1, by have := HI.out; omega, rfl, by simp, X, I2, P⟩
                · have hz1 : ¬ (n : Int) ≤ 10 := by omega
                  clear hlt hn
                  go_wp2_with fail
                  refine (WK.out _).mono ?_
                  rintro e w99 ⟨rfl, hb⟩
                  have X9 := Lib.hid (hX.out.lo hb)
                  clear hb
                  go_wp2_with fail
                  go_returns
                  exact ⟨rfl, X9.out.bl⟩
            · have hE9 : E = 9 := by have := HE.out; omega
              subst hE9
              go_wp2_with fail
              refine (WK.out _).mono ?_
              rintro e w98 ⟨rfl, hb⟩
              have X9 := Lib.hid (X.out.lo hb)
              clear hb
              go_wp2_with fail
              go_returns
              exact ⟨rfl, X9.out.bl⟩
    · have h29c : decide ((29 : Int) < (l.ws.length : Int)) = true := decide_eq_true (by omega)
      have h29b : (29 : Int) < (l.ws.length : Int) := by omega
      unfold Lan.val at *
      clear hL h0 h1 hF hF2 hR hlen h29
      go_enter Try.func16, Try.ntmps16
      go_wp2_with fail
      generalize w.alloc _ = W0 at X ⊢
      have k0 := X.out.b.cell 0 (show _ = some (Value.int .i64 l.fs) from rfl)
      have k1 := X.out.b.cell 1 (show _ = some (Value.slice l.wa l.ws.length l.wc) from rfl)
      go_wp2_with fail
      refine (RD.out _ X.out.bl).mono ?_
      rintro e w1 ⟨rfl, hb⟩
      replace X := Lib.hid (X.out.lo hb)
      clear hb k0 k1 RD
      have k0 := X.out.b.cell 0 (show _ = some (Value.int .i64 l.fs) from rfl)
      have k1 := X.out.b.cell 1 (show _ = some (Value.slice l.wa l.ws.length l.wc) from rfl)
      go_wp2_with fail
      refine (WK.out _).mono ?_
      rintro e w2 ⟨rfl, hb⟩
      replace X := Lib.hid (X.out.lo hb)
      clear hb k0 k1
      go_wp2_with fail
      go_returns
      exact ⟨rfl, X.out.bl⟩
  · have hR : decide (faultW l = 0) = false := by simp [hF]
    rw [hR] at RD
    unfold Lan.val at *
    clear hL h0 h1 hF hR
    go_enter Try.func16, Try.ntmps16
    go_wp2_with fail
    generalize w.alloc _ = W0 at X ⊢
    have k0 := X.out.b.cell 0 (show _ = some (Value.int .i64 l.fs) from rfl)
    have k1 := X.out.b.cell 1 (show _ = some (Value.slice l.wa l.ws.length l.wc) from rfl)
    go_wp2_with fail
    refine (RD.out _ X.out.bl).mono ?_
    rintro e w1 ⟨rfl, hb⟩
    replace X := Lib.hid (X.out.lo hb)
    clear hb k0 k1 RD
    go_wp2_with fail
    refine (WK.out _).mono ?_
    rintro e w2 ⟨rfl, hb⟩
    replace X := Lib.hid (X.out.lo hb)
    clear hb
    go_wp2_with fail
    go_returns
    exact ⟨rfl, X.out.bl⟩

end Go.Proofs.Ytbbndcfnpfedpaa
