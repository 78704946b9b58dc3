/- The walk of SeenTruth. -/
import Derived.Test.YtbbndcfnpfedpaaZd
set_option linter.unusedVariables false
set_option linter.unusedSimpArgs false
namespace Go.Proofs.Ytbbndcfnpfedpaa
open Go.RowKit Go.Shelf Go.Maps

attribute [local go_sem] Oper.semAt_some

/-- How many fell, of the first i places. -/
def cntI (ns : List Int) (i : Nat) : Int := cntT ns (i / 2)
theorem cntI_even {ns : List Int} {i : Nat} (h : i % 2 = 0) : cntI ns (i + 1) = cntI ns i := by unfold cntI; congr 1; omega
theorem cntI_odd {ns : List Int} {i : Nat} (h : i % 2 = 1) : cntI ns (i + 1) = cntI ns i + (10 - stoodT ns (i / 2) 1) := by
  unfold cntI
  rw [show (i + 1) / 2 = i / 2 + 1 by omega]; rfl
theorem stood_in (ns : List Int) (f b : Nat) (hb : b ≤ 1) : 0 ≤ stoodT ns f b ∧ stoodT ns f b ≤ 10 := by
  obtain ⟨p, q, _, h0, h1, hq, hqp, hp⟩ := rowT_vals ns f
  unfold stoodT
  obtain rfl | rfl : b = 0 ∨ b = 1 := by omega
  · rw [h0]; omega
  · rw [h1]; omega
theorem sure_in {l : Lan} {ts : List Int} {j : Nat} {p : Int × Int} (h : (sureL l ts)[j]? = some p) (hE : gofE l ts = 0) : (0 ≤ p.1 ∧ p.1 ≤ 5) ∧ 0 ≤ p.2 ∧ p.2 ≤ 1 := by
  unfold sureL sureP at h
  obtain ⟨x, hx, rfl⟩ := List.mem_map.1 (List.mem_of_getElem? h)
  obtain ⟨hx1, _⟩ := List.mem_filter.1 hx
  obtain ⟨k, hk⟩ := List.mem_iff_getElem?.1 hx1
  have e := rngL_at2 hk
  have hkl : k < (rngL (gofL l ts)).length := (List.getElem?_eq_some_iff.1 hk).1
  have h5 := fs5 hE
  have hl : (rngL (gofL l ts)).length = (rngsL l ts).length := by unfold rngsL; simp
  rw [hl, rngsL_len hE] at hkl
  rw [e]
  simp only
  omega
theorem cntT_in (ns : List Int) : ∀ n : Nat, 0 ≤ cntT ns n ∧ cntT ns n ≤ 10 * (n : Int)
  | 0 => by unfold cntT; omega
  | n + 1 => by
    have := cntT_in ns n
    have h := stood_in ns n 1 (by omega)
    show 0 ≤ cntT ns n + (10 - stoodT ns n 1) ∧ cntT ns n + (10 - stoodT ns n 1) ≤ _
    omega

set_option maxRecDepth 100000 in
set_option maxHeartbeats 16000000 in
theorem seenTruth_any (l : Lan) (ns : List Int) (na : Option Addr) (nc : Nat) (u : Int) (w : World) (hL : WdsAt w l.wa l.ws) (_ : (l.ws.length : Int) ≤ 9223372036854775807) (hW : W16 w na ns) (hn : (ns.length : Int) ≤ 9223372036854775807) (hu0 : 0 ≤ u) (hu1 : u < 256) :
    Calls Try.prog 9 #[l.val, .slice na ns.length nc, .int .u8 u] w fun e w' => e = .returned (.bool true) ∧ Below w.heap.size w w' := by
  have RD := Lib.hid (fun W (hb : Below w.heap.size w W) => ready_any l W (hL.lo hb))
  have CH := Lib.hid (fun W => chosen_any u W hu0 hu1)
  have WK := Lib.hid (fun W => wakes_any W)
  have X := Lib.hid (BX.mk' l w)
  by_cases hF : faultW l = 0
  · have hF2 := hF
    have hR : decide (faultW l = 0) = true := by simp [hF]
    rw [hR] at RD
    have hfs := (fault0 hF2).2.2
    obtain ⟨F, hFN⟩ : ∃ F : Nat, (F : Int) = l.fs := ⟨l.fs.toNat, by omega⟩
    have HF5 := Lib.hid (show 1 ≤ F ∧ F ≤ 5 by omega)
    obtain ⟨ts, hts⟩ : ∃ ts, Hid (ts = chosenL u) := ⟨_, Lib.hid rfl⟩
    have HTL := Lib.hid (show ts.length ≤ 4 by have := chosenL_len u; rw [hts.out]; omega)
    have TR := Lib.hid (fun W (hb : Below w.heap.size w W) => true_any ns F na nc W (hW.lo hb) (by omega) hn)
    obtain ⟨G, hG⟩ : ∃ G, Hid (G = gameT ns F) := ⟨_, Lib.hid rfl⟩
    have HGL := Lib.hid (show G.length = F by rw [hG.out, gameT_len])
    have HGR := Lib.hid (show ∀ row ∈ G, row.length ≤ 1000 ∧ ∀ x ∈ row, 0 ≤ x ∧ x ≤ 10 by rw [hG.out]; exact gameT_rows)
    have HGN := Lib.hid (show ∀ row ∈ G, row ≠ [] by rw [hG.out]; intro row h; obtain ⟨f, _, rfl⟩ := gameT_mem h; exact rowT_ne ns f)
    have TO := Lib.hid (fun (ga : Option Addr) (gc : Nat) W (hb : Below w.heap.size w W) (hGA : GAt W ga G) => told_any ns G u l na ga nc gc W (hL.lo hb) hF2 hGA (by rw [HGL.out]; exact hFN) HGR.out (hW.lo hb) hn ⟨hu0, hu1⟩)
    obtain ⟨ys, hys⟩ : ∃ ys, Hid (ys = toldW ns G u l.ws) := ⟨_, Lib.hid rfl⟩
    have HYL := Lib.hid (show ys.length ≤ 1000 by rw [hys.out, toldW_len]; have := fault_len hF2; omega)
    have HFY := Lib.hid (show faultW (withW l ys) = 0 by rw [hys.out, hG.out]; exact told_fault hFN hF2)
    have HEX := Lib.hid (show chkE (withW l ys) ts = 0 ∧ explB (withW l ys) ts = true ∧ gofE (withW l ys) ts = 0 by rw [hys.out, hG.out, hts.out]; exact told_expl hFN hF2)
    have HPR := Lib.hid (show provB (withW l ys) ts G = true by rw [hys.out, hG.out, hts.out]; exact told_prov hFN hF2)
    have HLE := Lib.hid (show (leastL (withW l ys)).length ≤ ts.length by rw [hys.out, hG.out, hts.out]; exact told_least hFN hF2)
    have HRG := Lib.hid (show ∀ (i : Nat) (r : Int × Int), (rngsL (withW l ys) ts)[i]? = some r → i / 2 < F ∧ r.1 ≤ stoodT ns (i / 2) (i % 2) ∧ stoodT ns (i / 2) (i % 2) ≤ r.2 from fun i r hr => by rw [hys.out, hG.out, hts.out] at hr; exact told_rng hFN hF2 hr)
    have HCT := Lib.hid (show (cntL (gofL (withW l ys) ts)).1 ≤ cntT ns F ∧ cntT ns F ≤ (cntL (gofL (withW l ys) ts)).2 by rw [hys.out, hG.out, hts.out]; exact told_cnt hFN hF2)
    have HSR := Lib.hid (fun j p h => sure_rng (l := withW l ys) (ts := ts) (j := j) (p := p) h)
    have HSI := Lib.hid (fun j p h => sure_in (l := withW l ys) (ts := ts) (j := j) (p := p) h HEX.out.2.2)
    have HLN := Lib.hid (show (rngsL (withW l ys) ts).length = 2 * F by rw [rngsL_len HEX.out.2.2]; show 2 * l.fs.toNat = _; omega)
    have HSL := Lib.hid (show (sureL (withW l ys) ts).length ≤ 10 by rw [sure_count]; have := List.countP_le_length (p := fun r : Int × Int => r.1 == r.2) (l := rngsL (withW l ys) ts); have h2 := HLN.out; omega)
    unfold NewTold at TO
    rw [← hG.out] at TR
    rw [← hys.out] at TO
    rw [← hts.out] at CH
    unfold RetJ at CH
    have LI := Lib.hid (fun a c W (hX : IntsAt W a ts) (h0 : a = none → ts = [] ∧ c = 0) => lawlist_any ts a c W hX h0 (by have := HTL.out; omega))
    have LN2 := Lib.hid (fun (a : Option Addr) (c : Nat) W (hW : WdsAt W a ys) => lawLane_any ⟨l.fs, a, c, ys⟩ W hW HYL.out)
    have EX2 := Lib.hid (fun (a a2 : Option Addr) (c c2 : Nat) W (hW : WdsAt W a ys) (hg : ∀ g o, a = some ⟨g, o, none⟩ → g < W.heap.size) (hX : IntsAt W a2 ts) => explains_any ⟨l.fs, a, c, ys⟩ ts a2 c2 W hW hX HYL.out (by have := HTL.out; omega) hg)
    have RG2 := Lib.hid (fun (a a2 : Option Addr) (c c2 : Nat) W (hW : WdsAt W a ys) (hg : ∀ g o, a = some ⟨g, o, none⟩ → g < W.heap.size) (hX : IntsAt W a2 ts) => rangesP_any ⟨l.fs, a, c, ys⟩ ts a2 c2 W hW hX HYL.out (by have := HTL.out; omega) hg)
    unfold RngR at RG2
    have SU2 := Lib.hid (fun (a a2 : Option Addr) (c c2 : Nat) W (hW : WdsAt W a ys) (hg : ∀ g o, a = some ⟨g, o, none⟩ → g < W.heap.size) (hX : IntsAt W a2 ts) => sure_any ⟨l.fs, a, c, ys⟩ ts a2 c2 W hW hX HYL.out (by have := HTL.out; omega) hg)
    unfold SureR at SU2
    have LP2 := Lib.hid (fun (a : Option Addr) (c : Nat) W (hW : WdsAt W a ys) (hg : ∀ g o, a = some ⟨g, o, none⟩ → g < W.heap.size) => leastP_any ⟨l.fs, a, c, ys⟩ W hW HYL.out hg)
    unfold LeastR at LP2
    have RW := Lib.hid (fun (ga : Option Addr) (gc : Nat) W (hG : GAt W ga G) => rows_any G ga gc W (hG.z HGN.out) (by rw [HGL.out]; omega) (fun row h => (HGR.out row h).1))
    have PG := Lib.hid (fun (a a2 a5 : Option Addr) (c c2 c5 : Nat) W (hW : WdsAt W a ys) (hX : IntsAt W a2 ts) (hR : GAt W a5 G) => proveGame_any ⟨l.fs, a, c, ys⟩ ts G a2 a5 c2 c5 W hW hX hR HYL.out (by have := HTL.out; omega) (by rw [HGL.out]; omega))
    have BH := Lib.hid (fun (f b : Nat) (hf : f < F) (hb : b ≤ 1) (ga : Option Addr) (gc : Nat) W (hGA : GAt W ga G) => (show Calls Try.prog 47 #[.slice ga G.length gc, .int .i64 (f : Int), .int .i64 (b : Int)] W (fun e w' => e = .returned (.int .i64 (stoodT ns f b)) ∧ Below W.heap.size W w') from
      behind_ref G (rowT ns f) f b ga gc W hGA (by rw [hG.out]; exact gameT_at hf) (HGR.out _ (by rw [hG.out]; exact List.mem_of_getElem? (gameT_at hf))).2 hb (HGR.out _ (by rw [hG.out]; exact List.mem_of_getElem? (gameT_at hf))).1 (by rw [HGL.out]; omega)))
    have CE := Lib.hid (fun i h => cntI_even (ns := ns) (i := i) h)
    have CO := Lib.hid (fun i h => cntI_odd (ns := ns) (i := i) h)
    have CB := Lib.hid (fun i => cntT_in ns (i / 2))
    have SB := Lib.hid (fun f b hb => stood_in ns f b hb)
    unfold NewLan at LN2
    rw [HGL.out] at TR TO RW PG BH
    rw [hFN] at TR
    unfold Lan.val at *
    have eF : IntKind.i64.wrap (2 * l.fs) = 2 * l.fs := IntWalk.i64_in _ (by omega)
    clear hL hF hF2 hR hfs hW hn hu0 hu1
    go_enter Try.func9, Try.ntmps9
    go_wp2_with fail
    generalize w.alloc _ = W0 at X ⊢
    have k0 := X.out.b.cell 0 (show _ = some (Value.int .i64 l.fs) from rfl)
    have k1 := X.out.b.cell 1 (show _ = some (Value.slice l.wa l.ws.length l.wc) from rfl)
    go_wp2_with fail
    refine (RD.out _ X.out.bl).mono ?_
    rintro e w2 ⟨rfl, hb⟩
    replace X := Lib.hid (X.out.lo hb)
    clear hb k0 k1 RD
    have k0 := X.out.b.cell 0 (show _ = some (Value.int .i64 l.fs) from rfl)
    have k1 := X.out.b.cell 1 (show _ = some (Value.slice l.wa l.ws.length l.wc) from rfl)
    go_wp2_with fail
    refine (TR.out _ X.out.bl).mono ?_
    rintro e w3 ⟨ga, gc, rfl, hGA, hb⟩
    replace X := Lib.hid (X.out.lo hb)
    have GT := Lib.hid hGA
    clear hb k0 k1 TR hGA
    have k0 := X.out.b.cell 0 (show _ = some (Value.int .i64 l.fs) from rfl)
    have k1 := X.out.b.cell 1 (show _ = some (Value.slice l.wa l.ws.length l.wc) from rfl)
    go_wp2_with fail
    refine (TO.out ga gc _ X.out.bl GT.out).mono ?_
    rintro e w4 ⟨a7, c7, rfl, hW7, hg7, hb⟩
    replace X := Lib.hid (X.out.lo hb)
    replace GT := Lib.hid (GT.out.lo hb)
    have XW := Lib.hid hW7
    have XG := Lib.hid (fun g o e => (hg7 g o e).2)
    clear hb k0 k1 TO hW7 hg7
    go_wp2_with fail
    refine (CH.out _).mono ?_
    rintro e w5 ⟨a2, c2, rfl, hI, hg, hnl, hb⟩
    replace X := Lib.hid (X.out.lo hb)
    replace GT := Lib.hid (GT.out.lo hb)
    replace XW := Lib.hid (XW.out.lo hb)
    have I2 := Lib.hid hI
    have N2 := Lib.hid hnl
    clear hb hI hg hnl CH
    have BA := below_al w5 (.cells #[.int .i64 l.fs, .slice a7 ys.length c7] 24)
    have XK := Lib.hid (Blk.new w5 #[.int .i64 l.fs, .slice a7 ys.length c7] 24)
    replace X := Lib.hid (X.out.lo BA)
    replace GT := Lib.hid (GT.out.lo BA)
    replace XW := Lib.hid (XW.out.lo BA)
    replace I2 := Lib.hid (I2.out.lo BA)
    clear BA
    have q0 := XK.out.cell 0 (show _ = some (Value.int .i64 l.fs) from rfl)
    have q1 := XK.out.cell 1 (show _ = some (Value.slice a7 ys.length c7) from rfl)
    go_wp2_with fail
    refine (LN2.out a7 c7 _ XW.out).mono ?_
    rintro e w6 ⟨a3, c3, rfl, hW3, hg3, hb⟩
    replace X := Lib.hid (X.out.lo hb)
    replace GT := Lib.hid (GT.out.lo hb)
    replace XW := Lib.hid (XW.out.lo hb)
    replace I2 := Lib.hid (I2.out.lo hb)
    replace XK := Lib.hid (XK.out.lo2 hb)
    have W3 := Lib.hid hW3
    have G3 := Lib.hid hg3
    clear hb hW3 hg3 q0 q1
    go_wp2_with fail
    refine (LI.out _ _ _ I2.out N2.out).mono ?_
    rintro e w7 ⟨v4, rfl, ho, hb⟩
    obtain ⟨a4, c4, rfl⟩ := own_len ho
    have I4 := Lib.hid (own_intsAt ho).1
    replace X := Lib.hid (X.out.lo hb)
    replace GT := Lib.hid (GT.out.lo hb)
    replace XW := Lib.hid (XW.out.lo hb)
    replace I2 := Lib.hid (I2.out.lo hb)
    replace XK := Lib.hid (XK.out.lo2 hb)
    have W4 := Lib.hid (W3.out.lo hb)
    have G4 := Lib.hid (show ∀ g o, a3 = some ⟨g, o, none⟩ → g < w7.heap.size from fun g o e => Nat.lt_of_lt_of_le (G3.out g o e) hb.size)
    clear ho hb W3 G3
    have E4 := Lib.hid (EX2.out a3 a4 c3 c4 _ W4.out G4.out I4.out)
    rw [show explB ⟨l.fs, a3, c3, ys⟩ ts = true from HEX.out.2.1, show chkE ⟨l.fs, a3, c3, ys⟩ ts = 0 from HEX.out.1] at E4
    clear W4 G4 I4
    go_wp2_with fail
    refine (E4.out).mono ?_
    rintro e w8 ⟨rfl, hb⟩
    replace X := Lib.hid (X.out.lo hb)
    replace GT := Lib.hid (GT.out.lo hb)
    replace XW := Lib.hid (XW.out.lo hb)
    replace I2 := Lib.hid (I2.out.lo hb)
    replace XK := Lib.hid (XK.out.lo2 hb)
    clear hb E4
    have q0 := XK.out.cell 0 (show _ = some (Value.int .i64 l.fs) from rfl)
    have q1 := XK.out.cell 1 (show _ = some (Value.slice a7 ys.length c7) from rfl)
    go_wp2_with fail
    refine (LN2.out a7 c7 _ XW.out).mono ?_
    rintro e w9 ⟨a3, c3, rfl, hW3, hg3, hb⟩
    replace X := Lib.hid (X.out.lo hb)
    replace GT := Lib.hid (GT.out.lo hb)
    replace XW := Lib.hid (XW.out.lo hb)
    replace I2 := Lib.hid (I2.out.lo hb)
    replace XK := Lib.hid (XK.out.lo2 hb)
    have W3 := Lib.hid hW3
    have G3 := Lib.hid hg3
    clear hb hW3 hg3 q0 q1
    go_wp2_with fail
    refine (LI.out _ _ _ I2.out N2.out).mono ?_
    rintro e w10 ⟨v4, rfl, ho, hb⟩
    obtain ⟨a4, c4, rfl⟩ := own_len ho
    have I4 := Lib.hid (own_intsAt ho).1
    replace X := Lib.hid (X.out.lo hb)
    replace GT := Lib.hid (GT.out.lo hb)
    replace XW := Lib.hid (XW.out.lo hb)
    replace I2 := Lib.hid (I2.out.lo hb)
    replace XK := Lib.hid (XK.out.lo2 hb)
    have W4 := Lib.hid (W3.out.lo hb)
    have G4 := Lib.hid (show ∀ g o, a3 = some ⟨g, o, none⟩ → g < w10.heap.size from fun g o e => Nat.lt_of_lt_of_le (G3.out g o e) hb.size)
    clear ho hb W3 G3
    have E4 := Lib.hid (RG2.out a3 a4 c3 c4 _ W4.out G4.out I4.out)
    rw [show gofE ⟨l.fs, a3, c3, ys⟩ ts = 0 from HEX.out.2.2, show rngsL ⟨l.fs, a3, c3, ys⟩ ts = rngsL (withW l ys) ts from rfl, show cntL (gofL ⟨l.fs, a3, c3, ys⟩ ts) = cntL (gofL (withW l ys) ts) from rfl] at E4
    clear W4 G4 I4
    go_wp2_with fail
    refine (E4.out).mono ?_
    rintro e w11 ⟨a5, c5, rfl, hP, hB, hb⟩
    replace X := Lib.hid (X.out.lo hb)
    replace GT := Lib.hid (GT.out.lo hb)
    replace XW := Lib.hid (XW.out.lo hb)
    replace I2 := Lib.hid (I2.out.lo hb)
    replace XK := Lib.hid (XK.out.lo2 hb)
    have P := Lib.hid hP
    clear hb E4 hP hB
    obtain ⟨cn, hcn⟩ : ∃ cn, Hid (cn = cntL (gofL (withW l ys) ts)) := ⟨_, Lib.hid rfl⟩
    rw [← hcn.out] at HCT ⊢
    have BA := below_al w11 (.cells #[.int .i64 cn.1, .int .i64 cn.2] 41)
    have KN := Lib.hid (Blk.new w11 #[.int .i64 cn.1, .int .i64 cn.2] 41)
    replace X := Lib.hid (X.out.lo BA)
    replace GT := Lib.hid (GT.out.lo BA)
    replace XW := Lib.hid (XW.out.lo BA)
    replace I2 := Lib.hid (I2.out.lo BA)
    replace XK := Lib.hid (XK.out.lo2 BA)
    replace P := Lib.hid (P.out.lo BA)
    clear BA
    have q0 := XK.out.cell 0 (show _ = some (Value.int .i64 l.fs) from rfl)
    have q1 := XK.out.cell 1 (show _ = some (Value.slice a7 ys.length c7) from rfl)
    go_wp2_with fail
    refine (LN2.out a7 c7 _ XW.out).mono ?_
    rintro e w12 ⟨a3, c3, rfl, hW3, hg3, hb⟩
    replace X := Lib.hid (X.out.lo hb)
    replace GT := Lib.hid (GT.out.lo hb)
    replace XW := Lib.hid (XW.out.lo hb)
    replace I2 := Lib.hid (I2.out.lo hb)
    replace XK := Lib.hid (XK.out.lo2 hb)
    replace P := Lib.hid (P.out.lo hb)
    replace KN := Lib.hid (KN.out.lo2 hb)
    have W3 := Lib.hid hW3
    have G3 := Lib.hid hg3
    clear hb hW3 hg3 q0 q1
    go_wp2_with fail
    refine (LI.out _ _ _ I2.out N2.out).mono ?_
    rintro e w13 ⟨v4, rfl, ho, hb⟩
    obtain ⟨a4, c4, rfl⟩ := own_len ho
    have I4 := Lib.hid (own_intsAt ho).1
    replace X := Lib.hid (X.out.lo hb)
    replace GT := Lib.hid (GT.out.lo hb)
    replace XW := Lib.hid (XW.out.lo hb)
    replace I2 := Lib.hid (I2.out.lo hb)
    replace XK := Lib.hid (XK.out.lo2 hb)
    replace P := Lib.hid (P.out.lo hb)
    replace KN := Lib.hid (KN.out.lo2 hb)
    have W4 := Lib.hid (W3.out.lo hb)
    have G4 := Lib.hid (show ∀ g o, a3 = some ⟨g, o, none⟩ → g < w13.heap.size from fun g o e => Nat.lt_of_lt_of_le (G3.out g o e) hb.size)
    clear ho hb W3 G3
    have E4 := Lib.hid (SU2.out a3 a4 c3 c4 _ W4.out G4.out I4.out)
    rw [show gofE ⟨l.fs, a3, c3, ys⟩ ts = 0 from HEX.out.2.2, show sureL ⟨l.fs, a3, c3, ys⟩ ts = sureL (withW l ys) ts from rfl] at E4
    clear W4 G4 I4
    go_wp2_with fail
    refine (E4.out).mono ?_
    rintro e w14 ⟨a6, c6, rfl, hP, hB, hb⟩
    replace X := Lib.hid (X.out.lo hb)
    replace GT := Lib.hid (GT.out.lo hb)
    replace XW := Lib.hid (XW.out.lo hb)
    replace I2 := Lib.hid (I2.out.lo hb)
    replace XK := Lib.hid (XK.out.lo2 hb)
    replace P := Lib.hid (P.out.lo hb)
    replace KN := Lib.hid (KN.out.lo2 hb)
    have PS := Lib.hid hP
    clear hb E4 hP hB
    have q0 := XK.out.cell 0 (show _ = some (Value.int .i64 l.fs) from rfl)
    have q1 := XK.out.cell 1 (show _ = some (Value.slice a7 ys.length c7) from rfl)
    go_wp2_with fail
    refine (LN2.out a7 c7 _ XW.out).mono ?_
    rintro e w15 ⟨a3, c3, rfl, hW3, hg3, hb⟩
    replace X := Lib.hid (X.out.lo hb)
    replace GT := Lib.hid (GT.out.lo hb)
    replace XW := Lib.hid (XW.out.lo hb)
    replace I2 := Lib.hid (I2.out.lo hb)
    replace XK := Lib.hid (XK.out.lo2 hb)
    replace P := Lib.hid (P.out.lo hb)
    replace KN := Lib.hid (KN.out.lo2 hb)
    replace PS := Lib.hid (PS.out.lo hb)
    have W3 := Lib.hid hW3
    have G3 := Lib.hid hg3
    clear hb hW3 hg3 q0 q1
    have E4 := Lib.hid (LP2.out a3 c3 _ W3.out G3.out)
    rw [show leastL ⟨l.fs, a3, c3, ys⟩ = leastL (withW l ys) from rfl, show faultW ⟨l.fs, a3, c3, ys⟩ = 0 from HFY.out] at E4
    clear W3 G3
    go_wp2_with fail
    refine (E4.out).mono ?_
    rintro e w16 ⟨a8, c8, rfl, hP, hB, hb⟩
    replace X := Lib.hid (X.out.lo hb)
    replace GT := Lib.hid (GT.out.lo hb)
    replace XW := Lib.hid (XW.out.lo hb)
    replace I2 := Lib.hid (I2.out.lo hb)
    replace XK := Lib.hid (XK.out.lo2 hb)
    replace P := Lib.hid (P.out.lo hb)
    replace KN := Lib.hid (KN.out.lo2 hb)
    replace PS := Lib.hid (PS.out.lo hb)
    clear hb E4 hP hB
    obtain ⟨R, hRR⟩ : ∃ R, Hid (R = rngsL (withW l ys) ts) := ⟨_, Lib.hid rfl⟩
    rw [← hRR.out] at HRG HSR HLN P ⊢
    obtain ⟨S, hSS⟩ : ∃ S, Hid (S = sureL (withW l ys) ts) := ⟨_, Lib.hid rfl⟩
    rw [← hSS.out] at HSR HSI HSL PS ⊢
    obtain ⟨n8, hn8⟩ : ∃ n8 : Nat, Hid (n8 = (leastL (withW l ys)).length) := ⟨_, Lib.hid rfl⟩
    rw [← hn8.out] at HLE ⊢
    obtain ⟨tn, htn⟩ : ∃ tn : Nat, Hid (tn = ts.length) := ⟨_, Lib.hid rfl⟩
    rw [← htn.out] at HLE
    have d1 : decide ((tn : Int) < (n8 : Int)) = false := decide_eq_false (by have := HLE.out; omega)
    have d2 : ¬ tn < n8 := by have := HLE.out; omega
    have d3 : decide (tn < n8) = false := decide_eq_false d2
    obtain ⟨rn, hrn⟩ : ∃ rn : Nat, Hid (rn = R.length) := ⟨_, Lib.hid rfl⟩
    rw [← hrn.out] at HLN ⊢
    have d4 : ((rn : Int) != 2 * l.fs) = false := by have := HLN.out; simp; omega
    have d5 : (rn : Int) = 2 * l.fs := by have := HLN.out; omega
    rw [← htn.out]
    have k0 := X.out.b.cell 0 (show _ = some (Value.int .i64 l.fs) from rfl)
    have k1 := X.out.b.cell 1 (show _ = some (Value.slice l.wa l.ws.length l.wc) from rfl)
    have q0 := XK.out.cell 0 (show _ = some (Value.int .i64 l.fs) from rfl)
    have q1 := XK.out.cell 1 (show _ = some (Value.slice a7 ys.length c7) from rfl)
    go_wp2_with fail
    refine (LN2.out a7 c7 _ XW.out).mono ?_
    rintro e w17 ⟨a3, c3, rfl, hW3, hg3, hb⟩
    replace X := Lib.hid (X.out.lo hb)
    replace GT := Lib.hid (GT.out.lo hb)
    replace XW := Lib.hid (XW.out.lo hb)
    replace I2 := Lib.hid (I2.out.lo hb)
    replace XK := Lib.hid (XK.out.lo2 hb)
    replace P := Lib.hid (P.out.lo hb)
    replace KN := Lib.hid (KN.out.lo2 hb)
    replace PS := Lib.hid (PS.out.lo hb)
    have W3 := Lib.hid hW3
    have G3 := Lib.hid hg3
    clear hb hW3 hg3 q0 q1 k0 k1 d1 d2 d3 d4 d5
    rw [htn.out]
    go_wp2_with fail
    refine (LI.out _ _ _ I2.out N2.out).mono ?_
    rintro e w18 ⟨v4, rfl, ho, hb⟩
    obtain ⟨a4, c4, rfl⟩ := own_len ho
    have I4 := Lib.hid (own_intsAt ho).1
    replace X := Lib.hid (X.out.lo hb)
    replace GT := Lib.hid (GT.out.lo hb)
    replace XW := Lib.hid (XW.out.lo hb)
    replace I2 := Lib.hid (I2.out.lo hb)
    replace XK := Lib.hid (XK.out.lo2 hb)
    replace P := Lib.hid (P.out.lo hb)
    replace KN := Lib.hid (KN.out.lo2 hb)
    replace PS := Lib.hid (PS.out.lo hb)
    have W4 := Lib.hid (W3.out.lo hb)
    clear ho hb W3 G3
    go_wp2_with fail
    refine (RW.out ga gc _ GT.out).mono ?_
    rintro e w19 ⟨a9, c9, rfl, hR9, hb⟩
    replace X := Lib.hid (X.out.lo hb)
    replace GT := Lib.hid (GT.out.lo hb)
    replace XW := Lib.hid (XW.out.lo hb)
    replace I2 := Lib.hid (I2.out.lo hb)
    replace XK := Lib.hid (XK.out.lo2 hb)
    replace P := Lib.hid (P.out.lo hb)
    replace KN := Lib.hid (KN.out.lo2 hb)
    replace PS := Lib.hid (PS.out.lo hb)
    have W5 := Lib.hid (W4.out.lo hb)
    have I5 := Lib.hid (I4.out.lo hb)
    have P5 := Lib.hid (PG.out a3 a4 a9 c3 c4 c9 _ W5.out I5.out hR9)
    rw [show provB ⟨l.fs, a3, c3, ys⟩ ts G = true from HPR.out] at P5
    clear hR9 hb W4 I4 W5 I5
    go_wp2_with fail
    refine P5.out.mono ?_
    rintro e w20 ⟨rfl, hb⟩
    replace X := Lib.hid (X.out.lo hb)
    replace GT := Lib.hid (GT.out.lo hb)
    replace XW := Lib.hid (XW.out.lo hb)
    replace I2 := Lib.hid (I2.out.lo hb)
    replace XK := Lib.hid (XK.out.lo2 hb)
    replace P := Lib.hid (P.out.lo hb)
    replace KN := Lib.hid (KN.out.lo2 hb)
    replace PS := Lib.hid (PS.out.lo hb)
    clear hb P5 XW XK I2 N2
    go_wp2_with fail
    go_loopg [19, 20] rn (fun g s19 s20 wx => ∃ i : Nat, i ≤ rn ∧ g = rn - i ∧ s20 = .int .i64 (i : Int) ∧ s19 = .int .i64 (cntI ns i) ∧ Hid (BX l w wx) ∧ Hid (GAt wx ga G) ∧ Hid (P2At wx a5 R) ∧ Hid (Blk wx w11.heap.size #[.int .i64 cn.1, .int .i64 cn.2] 41) ∧ Hid (P2At wx a6 S))
    case atStart => exact ⟨0, by omega, by omega, rfl, rfl, X, GT, P, KN, PS⟩
    case round =>
      obtain ⟨i, hi, rfl, rfl, rfl, hX, hGT, hP, hKN, hPS⟩ := hrel
      clear X GT P KN PS
      by_cases hlt : i < rn
      · have hz1 : (i : Int) < (rn : Int) := by omega
        have hz0 : (0 : Int) ≤ (i : Int) := by omega
        have HI := Lib.hid hlt
        have HN10 := Lib.hid (show rn ≤ 10 by rw [HLN.out]; have := HF5.out; omega)
        have E2 := Lib.hid (show IntKind.i64.wrap ((i : Int) + 1) = (i : Int) + 1 from IntWalk.i64_in _ (by have := HN10.out; omega))
        obtain ⟨⟨r1, r2⟩, hr⟩ : ∃ r, R[i]? = some r := ⟨R[i]'(by rw [← hrn.out]; exact hlt), List.getElem?_eq_getElem _⟩
        obtain ⟨f1, f2, f3⟩ := HRG.out i _ hr
        obtain ⟨g5, o5, rfl, p1, p2⟩ := hP.out i _ hr
        simp only at p1 p2 f2 f3
        obtain ⟨fi, hfi⟩ : ∃ fi : Nat, Hid (fi = i / 2) := ⟨_, Lib.hid rfl⟩
        obtain ⟨bi, hbi⟩ : ∃ bi : Nat, Hid (bi = i % 2) := ⟨_, Lib.hid rfl⟩
        rw [← hfi.out, ← hbi.out] at f2 f3
        rw [← hfi.out] at f1
        have tq : Int.tdiv (i : Int) 2 = (fi : Int) := by rw [hfi.out, Int.tdiv_eq_ediv_of_nonneg (by omega)]; simp
        have tw : IntKind.i64.wrap (fi : Int) = (fi : Int) := IntWalk.i64_in _ (by have := HF5.out; omega)
        have tr : Int.tmod (i : Int) 2 = (bi : Int) := by rw [hbi.out, Int.tmod_eq_emod_of_nonneg (by omega)]; simp
        have B1 := Lib.hid (BH.out fi bi f1 (by have := hbi.out; omega) ga gc wr hGT.out)
        have hsb := SB.out fi bi (by have := hbi.out; omega)
        have hcb := CB.out i
        have CE1 := Lib.hid (CE.out i)
        have CO1 := Lib.hid (fun (h : bi = 1) => (show cntI ns (i + 1) = cntI ns i + (10 - stoodT ns fi bi) by rw [CO.out i (by rw [← hbi.out]; exact h), h, hfi.out]))
        have HCI := Lib.hid (show 0 ≤ cntI ns i ∧ cntI ns i ≤ 100 by unfold cntI; have := HN10.out; have := HI.out; omega)
        generalize stoodT ns fi bi = st at *
        have HST := Lib.hid hsb
        have d1 : decide (st < r1) = false := decide_eq_false (by omega)
        have d2 : decide (r2 < st) = false := decide_eq_false (by omega)
        clear hr f1 f2 f3 hlt hi hsb hcb
        go_wp2_with fail
        refine B1.out.mono ?_
        rintro e w50 ⟨rfl, hb⟩
        have X2 := Lib.hid (hX.out.lo hb)
        have GT2 := Lib.hid (hGT.out.lo hb)
        have P2 := Lib.hid (hP.out.lo hb)
        have KN2 := Lib.hid (hKN.out.lo2 hb)
        have PS2 := Lib.hid (hPS.out.lo hb)
        have p1 := cell_lo hb p1
        have p2 := cell_lo hb p2
        have e2 := E2.out
        clear hb B1 tq tw
        by_cases hb1 : bi = 1
        · subst hb1
          have HC := Lib.hid (CO1.out rfl)
          have es : IntKind.i64.wrap (10 - st) = 10 - st := IntWalk.i64_in _ (by have := HST.out; omega)
          have ec : IntKind.i64.wrap (cntI ns i + (10 - st)) = cntI ns i + (10 - st) := IntWalk.i64_in _ (by have := HST.out; have := HCI.out; omega)
          go_wp2_with fail
          go_roundg (rn - (i + 1))
          case measure => have := HI.out; omega
          case rel => exact ⟨i + 1, by have := HI.out; omega, rfl, by simp, by rw [HC.out], X2, GT2, P2, KN2, PS2⟩
        · have hb0 : bi = 0 := by have := hbi.out; omega
          subst hb0
          have HC := Lib.hid (CE1.out hbi.out.symm)
          clear hb1
          go_wp2_with fail
          go_roundg (rn - (i + 1))
          case measure => have := HI.out; omega
          case rel => exact ⟨i + 1, by have := HI.out; omega, rfl, by simp, by rw [HC.out], X2, GT2, P2, KN2, PS2⟩
      · have hz1 : ¬ (i : Int) < (rn : Int) := by omega
        have HCF := Lib.hid (show cntI ns i = cntT ns F by unfold cntI; congr 1; have := HLN.out; omega)
        rw [HCF.out]
        obtain ⟨ct, hct⟩ : ∃ ct, Hid (ct = cntT ns F) := ⟨_, Lib.hid rfl⟩
        rw [← hct.out] at HCT ⊢
        obtain ⟨sn, hsn⟩ : ∃ sn : Nat, Hid (sn = S.length) := ⟨_, Lib.hid rfl⟩
        rw [← hsn.out] at HSL ⊢
        clear hlt hi
        go_wp2_with fail
        go_loopg [22] sn (fun g s22 wx => ∃ j : Nat, j ≤ sn ∧ g = sn - j ∧ s22 = .int .i64 (j : Int) ∧ Hid (BX l w wx) ∧ Hid (P2At wx a5 R) ∧ Hid (Blk wx w11.heap.size #[.int .i64 cn.1, .int .i64 cn.2] 41) ∧ Hid (P2At wx a6 S))
        case atStart => exact ⟨0, by omega, by omega, rfl, hX, hP, hKN, hPS⟩
        case round =>
          obtain ⟨j, hj, rfl, rfl, hX, hP, hKN, hPS⟩ := hrel
          by_cases hlt : j < sn
          · have hz2 : (j : Int) < (sn : Int) := by omega
            have hz0 : (0 : Int) ≤ (j : Int) := by omega
            have HI := Lib.hid hlt
            have E2 := Lib.hid (show IntKind.i64.wrap ((j : Int) + 1) = (j : Int) + 1 from IntWalk.i64_in _ (by have := HSL.out; omega))
            obtain ⟨⟨s1, s2⟩, hs⟩ : ∃ s, S[j]? = some s := ⟨S[j]'(by rw [← hsn.out]; exact hlt), List.getElem?_eq_getElem _⟩
            obtain ⟨k, ⟨r1, r2⟩, hk, hr, hrr⟩ := HSR.out j _ hs
            simp only at hk hrr
            subst hrr
            obtain ⟨hs1, hs2⟩ := HSI.out j _ hs
            simp only at hs1 hs2
            obtain ⟨g6, o6, rfl, p1, p2⟩ := hPS.out j _ hs
            obtain ⟨g5, o5, rfl, p3, p4⟩ := hP.out k _ hr
            simp only at p1 p2 p3 p4
            have hkl : k < rn := by rw [hrn.out]; exact (List.getElem?_eq_some_iff.1 hr).1
            have e21 : IntKind.i64.wrap (2 * s1) = 2 * s1 := IntWalk.i64_in _ (by omega)
            have e22 : IntKind.i64.wrap (2 * s1 + s2) = (k : Int) := by rw [hk]; exact IntWalk.i64_in _ (by have := HLN.out; have := HF5.out; omega)
            have hk0 : decide ((k : Int) < 0) = false := decide_eq_false (by omega)
            have hk1 : decide ((rn : Int) ≤ (k : Int)) = false := decide_eq_false (by omega)
            have hk2 : (0 : Int) ≤ (k : Int) := by omega
            have hk3 : (k : Int) < (rn : Int) := by omega
            have hk4 : ¬ rn ≤ k := by omega
            have hk5 : decide (rn ≤ k) = false := decide_eq_false hk4
            have hk6 : (r1 != r1) = false := by simp
            have m1 := fun u : Late wr => u.cell p1 (cell_lt p1)
            have m2 := fun u : Late wr => u.cell p2 (cell_lt p2)
            clear hs hr hk hs1 hs2 hkl hlt hj
            go_wp2_with fail
            refine wp_region_late wr (Below.refl _ _) (by kernel_rfl) (by kernel_rfl) ?_
            repeat (go_big_quiet_step (fail))
            refine wpQuiet_nil ?_
            intro _ hw'
            obtain ⟨uq, hw''⟩ := hw'
            subst hw''
            have XU := Lib.hid (hX.out.lo uq.b)
            have PU := Lib.hid (hP.out.lo uq.b)
            have KU := Lib.hid (hKN.out.lo2 uq.b)
            have SU := Lib.hid (hPS.out.lo uq.b)
            have p3 := cell_lo uq.b p3
            have p4 := cell_lo uq.b p4
            clear m1 m2 p1 p2
            have m3 := fun v : Late uq.W => v.cell p3 (cell_lt p3)
            have m4 := fun v : Late uq.W => v.cell p4 (cell_lt p4)
            go_wp2_with fail
            refine wp_region_late uq.W (Below.refl _ _) (by kernel_rfl) (by kernel_rfl) ?_
            repeat (go_big_quiet_step (fail))
            refine wpQuiet_nil ?_
            intro _ hw'
            obtain ⟨vq, hw''⟩ := hw'
            subst hw''
            have XV := Lib.hid (XU.out.lo vq.b)
            have PV := Lib.hid (PU.out.lo vq.b)
            have KV := Lib.hid (KU.out.lo2 vq.b)
            have SV := Lib.hid (SU.out.lo vq.b)
            have e2 := E2.out
            clear m3 m4 p3 p4
            go_wp2_with fail
            go_roundg (sn - (j + 1))
            case measure => have := HI.out; omega
            case rel => exact ⟨j + 1, by have := HI.out; omega, rfl, by simp, XV, PV, KV, SV⟩
          · have hz2 : ¬ (j : Int) < (sn : Int) := by omega
            have X := hX
            have k0 := hKN.out.cell 0 (show _ = some (Value.int .i64 cn.1) from rfl)
            have k1 := hKN.out.cell 1 (show _ = some (Value.int .i64 cn.2) from rfl)
            have d1 : decide (cn.1 ≤ ct) = true := decide_eq_true HCT.out.1
            have d2 : decide (ct ≤ cn.2) = true := decide_eq_true HCT.out.2
            clear hlt hj
            go_wp2_with fail
            refine (WK.out _).mono ?_
            rintro e w98 ⟨rfl, hb⟩
            have X9 := Lib.hid (X.out.lo hb)
            clear hb
            go_wp2_with fail
            go_returns
            exact ⟨rfl, X9.out.bl⟩
  · have hR : decide (faultW l = 0) = false := by simp [hF]
    rw [hR] at RD
    unfold Lan.val at *
    clear hL hF hR
    go_enter Try.func9, Try.ntmps9
    go_wp2_with fail
    generalize w.alloc _ = W0 at X ⊢
    have k0 := X.out.b.cell 0 (show _ = some (Value.int .i64 l.fs) from rfl)
    have k1 := X.out.b.cell 1 (show _ = some (Value.slice l.wa l.ws.length l.wc) from rfl)
    go_wp2_with fail
    refine (RD.out _ X.out.bl).mono ?_
    rintro e w1 ⟨rfl, hb⟩
    replace X := Lib.hid (X.out.lo hb)
    clear hb k0 k1 RD
    go_wp2_with fail
    refine (WK.out _).mono ?_
    rintro e w2 ⟨rfl, hb⟩
    replace X := Lib.hid (X.out.lo hb)
    clear hb
    go_wp2_with fail
    go_returns
    exact ⟨rfl, X.out.bl⟩

end Go.Proofs.Ytbbndcfnpfedpaa
