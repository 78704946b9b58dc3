/- The walk of SeenBlame. -/
import Derived.Test.YtbbndcfnpfedpaaZc
set_option linter.unusedVariables false
set_option linter.unusedSimpArgs false
namespace Go.Proofs.Ytbbndcfnpfedpaa
open Go.RowKit Go.Shelf Go.Maps

attribute [local go_sem] Oper.semAt_some

theorem chosen_one {k : Int} (hk : 0 ≤ k ∧ k ≤ 3) : chosenL ((2 ^ k.toNat : Nat) : Int) = [k] := by
  rcases four_cases hk with rfl | rfl | rfl | rfl <;> decide
theorem Blk.lo2 {W W' : World} {b : Nat} {cs : Array Value} {t : TypeId} (h : Blk W b cs t) (hb : Below W.heap.size W W') : Blk W' b cs t := Blk.alt (p := fun _ => False) h (Alt.of_below hb (fun k hk e => by omega)) id
/-- A lane in a box of its own. -/
structure TB (fs : Int) (ws : List Wd) (b c : Nat) (a : Option Addr) (wr X : World) : Prop where
  k : Blk X b #[.int .i64 fs, .slice a ws.length c] 24
  wd : WdsAt X a ws
  ga : ∀ g o, a = some ⟨g, o, none⟩ → g < X.heap.size
  bl : Below wr.heap.size wr X
theorem TB.mk1 {fs : Int} {ws : List Wd} {b c : Nat} {a : Option Addr} {wr w2 : World} (hw : WdsAt w2 a ws) (hg : ∀ g o, a = some ⟨g, o, none⟩ → b < g ∧ g < w2.heap.size) (hbl : Below wr.heap.size wr w2) (hb : Blk w2 b #[.int .i64 0, .slice none 0 0] 24) (hwb : wr.heap.size ≤ b) :
    TB fs ws b c a wr ((w2.setCell ⟨b, 0, none⟩ (.int .i64 fs)).setCell ⟨b, 1, none⟩ (.slice a ws.length c)) := by
  obtain ⟨h1, h2⟩ := hb.put2 (.int .i64 fs) (.slice a ws.length c)
  exact ⟨h1, hw.alt h2 (fun g o e e2 => by have := hg g o e; omega), fun g o e => Nat.lt_of_lt_of_le (hg g o e).2 h2.size, ((Alt.of_below (p := fun k => wr.heap.size ≤ k) hbl (fun k _ e => e)).trans (h2.mono fun k _ e => by omega)).below (Nat.le_refl _) fun _ e => e⟩
theorem TB.mk2 {fs : Int} {ws : List Wd} {c : Nat} {a : Option Addr} {wr w2 : World} (hw : WdsAt w2 a ws) (hg : ∀ g o, a = some ⟨g, o, none⟩ → g < w2.heap.size) (hbl : Below wr.heap.size wr w2) :
    TB fs ws w2.heap.size c a wr (w2.alloc (.cells #[.int .i64 fs, .slice a ws.length c] 24)) :=
  ⟨Blk.new _ _ _, hw.lo (below_al _ _), fun g o e => Nat.lt_of_lt_of_le (hg g o e) (by simp), below_al2 hbl _⟩

set_option maxRecDepth 100000 in
set_option maxHeartbeats 16000000 in
theorem seenBlame_any (l : Lan) (ns : List Int) (na : Option Addr) (nc : Nat) (pl : Int) (w : World) (hL : WdsAt w l.wa l.ws) (_ : (l.ws.length : Int) ≤ 9223372036854775807) (hW : W16 w na ns) (hn : (ns.length : Int) ≤ 9223372036854775807) (hp0 : 0 ≤ pl) (hp1 : pl < 256) :
    Calls Try.prog 14 #[l.val, .slice na ns.length nc, .int .u8 pl] w fun e w' => e = .returned (.bool true) ∧ Below w.heap.size w w' := by
  have RD := Lib.hid (fun W (hb : Below w.heap.size w W) => ready_any l W (hL.lo hb))
  have WK := Lib.hid (fun W => wakes_any W)
  have X := Lib.hid (BX.mk' l w)
  by_cases hF : faultW l = 0
  · have hF2 := hF
    have hR : decide (faultW l = 0) = true := by simp [hF]
    rw [hR] at RD
    have hfs := (fault0 hF2).2.2
    obtain ⟨F, hFN⟩ : ∃ F : Nat, (F : Int) = l.fs := ⟨l.fs.toNat, by omega⟩
    obtain ⟨k, hk⟩ : ∃ k, Hid (k = Int.tmod pl 4) := ⟨_, Lib.hid rfl⟩
    have hk4 : Int.tmod pl 4 = k := by rw [hk.out]
    have HK := Lib.hid (show 0 ≤ k ∧ k ≤ 3 by rw [hk.out, Int.tmod_eq_emod_of_nonneg hp0]; omega)
    have ec : IntKind.i64.wrap pl = pl := IntWalk.i64_in _ (by omega)
    obtain ⟨u, hu⟩ : ∃ u : Int, Hid (u = ((2 ^ k.toNat : Nat) : Int)) := ⟨_, Lib.hid rfl⟩
    have HU := Lib.hid (show 0 ≤ u ∧ u < 256 by rw [hu.out]; rcases four_cases HK.out with e | e | e | e <;> rw [e] <;> decide)
    have HCH := Lib.hid (show chosenL u = [k] by rw [hu.out]; exact chosen_one HK.out)
    have TR := Lib.hid (fun W (hb : Below w.heap.size w W) => true_any ns F na nc W (hW.lo hb) (by omega) hn)
    obtain ⟨G, hG⟩ : ∃ G, Hid (G = gameT ns F) := ⟨_, Lib.hid rfl⟩
    have TO := Lib.hid (fun (ga : Option Addr) (gc : Nat) W (hb : Below w.heap.size w W) (hGA : GAt W ga G) => told_any ns G u l na ga nc gc W (hL.lo hb) hF2 hGA (by rw [hG.out, gameT_len]; exact hFN) (by rw [hG.out]; exact gameT_rows) (hW.lo hb) hn HU.out)
    obtain ⟨ys, hys⟩ : ∃ ys, Hid (ys = toldW ns G u l.ws) := ⟨_, Lib.hid rfl⟩
    have HYL := Lib.hid (show ys.length ≤ 1000 by rw [hys.out, toldW_len]; have := fault_len hF2; omega)
    have HFY := Lib.hid (show faultW (withW l ys) = 0 by rw [hys.out, hG.out]; exact told_fault hFN hF2)
    have HEX := Lib.hid (show chkE (withW l ys) [k] = 0 ∧ explB (withW l ys) [k] = true by
      have := told_expl (ns := ns) (u := u) hFN hF2
      rw [hys.out, hG.out, ← HCH.out]; exact ⟨this.1, this.2.1⟩)
    have HBL := Lib.hid (told_blame (ns := ns) (F := F) hFN hF2 HFY.out HK.out HEX.out.2)
    unfold NewTold at TO
    rw [← hG.out] at TR
    rw [← hys.out] at TO
    have LN2 := Lib.hid (fun (a : Option Addr) (c : Nat) W (hW : WdsAt W a ys) => lawLane_any ⟨l.fs, a, c, ys⟩ W hW HYL.out)
    have EX2 := Lib.hid (fun (a a2 : Option Addr) (c c2 : Nat) W (hW : WdsAt W a ys) (hg : ∀ g o, a = some ⟨g, o, none⟩ → g < W.heap.size) (hX : IntsAt W a2 [k]) => explains_any ⟨l.fs, a, c, ys⟩ [k] a2 c2 W hW hX HYL.out (by simp) hg)
    have BP2 := Lib.hid (fun (a : Option Addr) (c : Nat) W (hW : WdsAt W a ys) (hg : ∀ g o, a = some ⟨g, o, none⟩ → g < W.heap.size) => blameP_any ⟨l.fs, a, c, ys⟩ W hW HYL.out hg)
    unfold NewLan at LN2
    have IN := Lib.hid (fun W => ints_newS W [k] 3)
    have hk03 := HK.out
    have ek : IntKind.u64.wrap k = k := by rcases four_cases HK.out with e | e | e | e <;> rw [e] <;> rfl
    obtain ⟨Fi, hFi⟩ : ∃ Fi, Hid (Fi = l.fs) := ⟨_, Lib.hid rfl⟩
    rw [hFN] at TR
    unfold Lan.val at *
    clear hL hF hF2 hR hfs hW hn hp0 hp1
    go_enter Try.func14, Try.ntmps14
    go_wp2_with fail
    generalize w.alloc _ = W0 at X ⊢
    have k0 := X.out.b.cell 0 (show _ = some (Value.int .i64 l.fs) from rfl)
    have k1 := X.out.b.cell 1 (show _ = some (Value.slice l.wa l.ws.length l.wc) from rfl)
    go_wp2_with fail
    refine (RD.out _ X.out.bl).mono ?_
    rintro e wr ⟨rfl, hb⟩
    replace X := Lib.hid (X.out.lo hb)
    clear hb k0 k1 RD
    have k0 := X.out.b.cell 0 (show _ = some (Value.int .i64 l.fs) from rfl)
    have k1 := X.out.b.cell 1 (show _ = some (Value.slice l.wa l.ws.length l.wc) from rfl)
    have SK := Lib.hid (show ∀ Wx, Below wr.heap.size wr Wx → (Wx.cell? ⟨w.heap.size, 0, none⟩ = some (.int .i64 l.fs) ∧ Wx.cell? ⟨w.heap.size, 1, none⟩ = some (.slice l.wa l.ws.length l.wc)) from fun Wx hb => ⟨cell_lo hb k0, cell_lo hb k1⟩)
    rcases four_cases hk03 with e9 | e9 | e9 | e9
    · subst e9
      have hu2 : u = 1 := by rw [hu.out]; rfl
      subst hu2
      go_wp2_with fail
      go_cut [8] from 64 (fun s8 wx => ∃ (b8 c7 : Nat) (a7 : Option Addr), s8 = .pointer (some ⟨b8, 0, none⟩) ∧ Hid (TB l.fs ys b8 c7 a7 wr wx))
      case first =>
        (go_region_held3 (fun Wx => Wx.cell? ⟨w.heap.size, 0, none⟩ = some (.int .i64 l.fs) ∧ Wx.cell? ⟨w.heap.size, 1, none⟩ = some (.slice l.wa l.ws.length l.wc))
            (first | (with_reducible exact SK.out _ NX.out.bl) | (refine SK.out _ ?_; (repeat (first | (with_reducible exact B2.out) | (with_reducible exact B1.out) | (with_reducible exact Below.refl _ _) | (with_reducible refine Below.drew ?_) | (with_reducible refine below_al2 ?_ _)))))
            (first | ((go_at_call 44); (refine (TR.out _ (below_go X.out.bl ?_)).mono ?_); (repeat (first | (with_reducible exact B2.out) | (with_reducible exact B1.out) | (with_reducible exact Below.refl _ _) | (with_reducible refine Below.drew ?_) | (with_reducible refine below_al2 ?_ _))); (rintro e w1 ⟨a6, c6, rfl, hG1, hb1⟩); (refine hv (T := Below wr.heap.size wr w1) ?_ ?_); (refine below_go ?_ hb1; (repeat (first | (with_reducible exact B2.out) | (with_reducible exact B1.out) | (with_reducible exact Below.refl _ _) | (with_reducible refine Below.drew ?_) | (with_reducible refine below_al2 ?_ _)))); (intro hB1; have B1 := Lib.hid hB1; clear hB1)) | ((go_at_call 45); (refine (TO.out a6 c6 _ (below_go X.out.bl ?_) ?_).mono ?_); (repeat (first | (with_reducible exact B2.out) | (with_reducible exact B1.out) | (with_reducible exact Below.refl _ _) | (with_reducible refine Below.drew ?_) | (with_reducible refine below_al2 ?_ _))); (first | exact hG1 | exact hG1.lo (below_al _ _)); (rintro e w2 ⟨a7, c7, rfl, hW7, hg7, hb7⟩); (refine hv (T := Below wr.heap.size wr w2) ?_ ?_); (refine below_go ?_ hb7; (repeat (first | (with_reducible exact B2.out) | (with_reducible exact B1.out) | (with_reducible exact Below.refl _ _) | (with_reducible refine Below.drew ?_) | (with_reducible refine below_al2 ?_ _)))); (intro hB2; have B2 := Lib.hid hB2; clear hB2); (try (first | (refine hv (T := Blk w2 wr.heap.size #[.int .i64 0, .slice none 0 0] 24) ?_ ?_; (first | exact Blk.lo2 (Blk.lo2 (Blk.new wr _ _).dr hb1) hb7 | exact Blk.lo2 (Blk.lo2 (Blk.new wr _ _) hb1) hb7); intro BE0; refine hv (T := ∀ g o, a7 = some ⟨g, o, none⟩ → wr.heap.size < g ∧ g < w2.heap.size) ?_ ?_; (intro g o e; have h1 := hg7 g o e; have h2 := hb1.size; (try simp only [World.size_alloc, World.size_drew] at h1); (try simp only [World.size_alloc, World.size_drew] at h2); omega); intro GE0; have NX := Lib.hid (TB.mk1 (fs := l.fs) (c := c7) hW7 GE0 B2.out BE0 (Nat.le_refl _)); have t0 := BE0.cell 0 (show _ = some (Value.int .i64 0) from rfl); have t1 := BE0.cell 1 (show _ = some (Value.slice none 0 0) from rfl); have f0 := BE0.fr 0; have f1 := BE0.fr 1; clear BE0 GE0) | (refine hv (T := Blk w2 w1.heap.size #[.int .i64 0, .slice none 0 0] 24) ?_ ?_; (exact Blk.lo2 (Blk.new w1 _ _) hb7); intro BE0; refine hv (T := ∀ g o, a7 = some ⟨g, o, none⟩ → w1.heap.size < g ∧ g < w2.heap.size) ?_ ?_; (intro g o e; have h1 := hg7 g o e; (try simp only [World.size_alloc, World.size_drew] at h1); omega); intro GE0; have NX := Lib.hid (TB.mk1 (fs := l.fs) (c := c7) hW7 GE0 B2.out BE0 B1.out.size); have t0 := BE0.cell 0 (show _ = some (Value.int .i64 0) from rfl); have t1 := BE0.cell 1 (show _ = some (Value.slice none 0 0) from rfl); have f0 := BE0.fr 0; have f1 := BE0.fr 1; clear BE0 GE0))))))
        all_goals
          go_wp2_with fail
          go_meet
          first
          | exact ⟨_, _, _, rfl, NX⟩
          | exact ⟨_, _, _, rfl, Lib.hid (TB.mk2 hW7 (fun g o e => (hg7 g o e).2) B2.out)⟩
      case rest =>
        obtain ⟨b8, c7, a7, rfl, hTB⟩ := hcut
        replace X := Lib.hid (X.out.lo hTB.out.bl)
        have XK := Lib.hid hTB.out.k
        have XW := Lib.hid hTB.out.wd
        have XG := Lib.hid hTB.out.ga
        clear hTB SK k0 k1
        have q0 := XK.out.cell 0 (show _ = some (Value.int .i64 l.fs) from rfl)
        have q1 := XK.out.cell 1 (show _ = some (Value.slice a7 ys.length c7) from rfl)
        have L3 := Lib.hid (LN2.out a7 c7 wc XW.out)
        unfold Lan.val at L3
        go_wp2_with fail
        refine L3.out.mono ?_
        rintro e w11 ⟨a3, c3, rfl, hW3, hg3, hb⟩
        replace X := Lib.hid (X.out.lo hb)
        replace XK := Lib.hid (XK.out.lo2 hb)
        replace XW := Lib.hid (XW.out.lo hb)
        have E3 := Lib.hid (BP2.out a3 c3 _ hW3 hg3)
        unfold Lan.val at E3
        rw [show blmN ⟨l.fs, a3, c3, ys⟩ = blmN (withW l ys) from rfl, show blmE ⟨l.fs, a3, c3, ys⟩ = blmE (withW l ys) from rfl] at E3
        clear hW3 hg3 hb q0 q1 L3
        go_wp2_with fail
        refine E3.out.mono ?_
        rintro e w12 ⟨rfl, hb⟩
        replace X := Lib.hid (X.out.lo hb)
        replace XK := Lib.hid (XK.out.lo2 hb)
        replace XW := Lib.hid (XW.out.lo hb)
        clear hb E3
        rcases HBL.out with ⟨h1, h2⟩ | ⟨h1, h2⟩
        · rw [h1, h2]
          clear h1 h2
          go_wp2_with fail
          refine (WK.out _).mono ?_
          rintro e w98 ⟨rfl, hb⟩
          have X9 := Lib.hid (X.out.lo hb)
          clear hb
          go_wp2_with fail
          go_returns
          exact ⟨rfl, X9.out.bl⟩
        · rw [h1, h2]
          clear h1 h2
          have q0 := XK.out.cell 0 (show _ = some (Value.int .i64 l.fs) from rfl)
          have q1 := XK.out.cell 1 (show _ = some (Value.slice a7 ys.length c7) from rfl)
          have L3 := Lib.hid (LN2.out a7 c7 w12 XW.out)
          unfold Lan.val at L3
          go_wp2_with fail
          refine L3.out.mono ?_
          rintro e w13 ⟨a3, c3, rfl, hW3, hg3, hb⟩
          replace X := Lib.hid (X.out.lo hb)
          have BA := Lib.hid (below_al w13 (.cells #[.int .i64 0] 3))
          have XA := Lib.hid (X.out.lo BA.out)
          have E4 := Lib.hid (EX2.out a3 (some ⟨w13.heap.size, 0, none⟩) c3 1 (w13.alloc (.cells #[.int .i64 0] 3)) (hW3.lo BA.out) (fun g o e => Nat.lt_of_lt_of_le (hg3 g o e) BA.out.size) (IN.out w13))
          unfold Lan.val at E4
          rw [show explB ⟨l.fs, a3, c3, ys⟩ [0] = true from HEX.out.2, show chkE ⟨l.fs, a3, c3, ys⟩ [0] = 0 from HEX.out.1] at E4
          clear hW3 hg3 hb q0 q1 L3
          go_wp2_with fail
          refine E4.out.mono ?_
          rintro e w14 ⟨rfl, hb⟩
          have X8 := Lib.hid (XA.out.lo hb)
          clear hb E4
          go_wp2_with fail
          refine (WK.out _).mono ?_
          rintro e w98 ⟨rfl, hb⟩
          have X9 := Lib.hid (X8.out.lo hb)
          clear hb
          go_wp2_with fail
          go_returns
          exact ⟨rfl, X9.out.bl⟩
    · subst e9
      have hu2 : u = 2 := by rw [hu.out]; rfl
      subst hu2
      go_wp2_with fail
      go_cut [8] from 64 (fun s8 wx => ∃ (b8 c7 : Nat) (a7 : Option Addr), s8 = .pointer (some ⟨b8, 0, none⟩) ∧ Hid (TB l.fs ys b8 c7 a7 wr wx))
      case first =>
        (go_region_held3 (fun Wx => Wx.cell? ⟨w.heap.size, 0, none⟩ = some (.int .i64 l.fs) ∧ Wx.cell? ⟨w.heap.size, 1, none⟩ = some (.slice l.wa l.ws.length l.wc))
            (first | (with_reducible exact SK.out _ NX.out.bl) | (refine SK.out _ ?_; (repeat (first | (with_reducible exact B2.out) | (with_reducible exact B1.out) | (with_reducible exact Below.refl _ _) | (with_reducible refine Below.drew ?_) | (with_reducible refine below_al2 ?_ _)))))
            (first | ((go_at_call 44); (refine (TR.out _ (below_go X.out.bl ?_)).mono ?_); (repeat (first | (with_reducible exact B2.out) | (with_reducible exact B1.out) | (with_reducible exact Below.refl _ _) | (with_reducible refine Below.drew ?_) | (with_reducible refine below_al2 ?_ _))); (rintro e w1 ⟨a6, c6, rfl, hG1, hb1⟩); (refine hv (T := Below wr.heap.size wr w1) ?_ ?_); (refine below_go ?_ hb1; (repeat (first | (with_reducible exact B2.out) | (with_reducible exact B1.out) | (with_reducible exact Below.refl _ _) | (with_reducible refine Below.drew ?_) | (with_reducible refine below_al2 ?_ _)))); (intro hB1; have B1 := Lib.hid hB1; clear hB1)) | ((go_at_call 45); (refine (TO.out a6 c6 _ (below_go X.out.bl ?_) ?_).mono ?_); (repeat (first | (with_reducible exact B2.out) | (with_reducible exact B1.out) | (with_reducible exact Below.refl _ _) | (with_reducible refine Below.drew ?_) | (with_reducible refine below_al2 ?_ _))); (first | exact hG1 | exact hG1.lo (below_al _ _)); (rintro e w2 ⟨a7, c7, rfl, hW7, hg7, hb7⟩); (refine hv (T := Below wr.heap.size wr w2) ?_ ?_); (refine below_go ?_ hb7; (repeat (first | (with_reducible exact B2.out) | (with_reducible exact B1.out) | (with_reducible exact Below.refl _ _) | (with_reducible refine Below.drew ?_) | (with_reducible refine below_al2 ?_ _)))); (intro hB2; have B2 := Lib.hid hB2; clear hB2); (try (first | (refine hv (T := Blk w2 wr.heap.size #[.int .i64 0, .slice none 0 0] 24) ?_ ?_; (first | exact Blk.lo2 (Blk.lo2 (Blk.new wr _ _).dr hb1) hb7 | exact Blk.lo2 (Blk.lo2 (Blk.new wr _ _) hb1) hb7); intro BE0; refine hv (T := ∀ g o, a7 = some ⟨g, o, none⟩ → wr.heap.size < g ∧ g < w2.heap.size) ?_ ?_; (intro g o e; have h1 := hg7 g o e; have h2 := hb1.size; (try simp only [World.size_alloc, World.size_drew] at h1); (try simp only [World.size_alloc, World.size_drew] at h2); omega); intro GE0; have NX := Lib.hid (TB.mk1 (fs := l.fs) (c := c7) hW7 GE0 B2.out BE0 (Nat.le_refl _)); have t0 := BE0.cell 0 (show _ = some (Value.int .i64 0) from rfl); have t1 := BE0.cell 1 (show _ = some (Value.slice none 0 0) from rfl); have f0 := BE0.fr 0; have f1 := BE0.fr 1; clear BE0 GE0) | (refine hv (T := Blk w2 w1.heap.size #[.int .i64 0, .slice none 0 0] 24) ?_ ?_; (exact Blk.lo2 (Blk.new w1 _ _) hb7); intro BE0; refine hv (T := ∀ g o, a7 = some ⟨g, o, none⟩ → w1.heap.size < g ∧ g < w2.heap.size) ?_ ?_; (intro g o e; have h1 := hg7 g o e; (try simp only [World.size_alloc, World.size_drew] at h1); omega); intro GE0; have NX := Lib.hid (TB.mk1 (fs := l.fs) (c := c7) hW7 GE0 B2.out BE0 B1.out.size); have t0 := BE0.cell 0 (show _ = some (Value.int .i64 0) from rfl); have t1 := BE0.cell 1 (show _ = some (Value.slice none 0 0) from rfl); have f0 := BE0.fr 0; have f1 := BE0.fr 1; clear BE0 GE0))))))
        all_goals
          go_wp2_with fail
          go_meet
          first
          | exact ⟨_, _, _, rfl, NX⟩
          | exact ⟨_, _, _, rfl, Lib.hid (TB.mk2 hW7 (fun g o e => (hg7 g o e).2) B2.out)⟩
      case rest =>
        obtain ⟨b8, c7, a7, rfl, hTB⟩ := hcut
        replace X := Lib.hid (X.out.lo hTB.out.bl)
        have XK := Lib.hid hTB.out.k
        have XW := Lib.hid hTB.out.wd
        have XG := Lib.hid hTB.out.ga
        clear hTB SK k0 k1
        have q0 := XK.out.cell 0 (show _ = some (Value.int .i64 l.fs) from rfl)
        have q1 := XK.out.cell 1 (show _ = some (Value.slice a7 ys.length c7) from rfl)
        have L3 := Lib.hid (LN2.out a7 c7 wc XW.out)
        unfold Lan.val at L3
        go_wp2_with fail
        refine L3.out.mono ?_
        rintro e w11 ⟨a3, c3, rfl, hW3, hg3, hb⟩
        replace X := Lib.hid (X.out.lo hb)
        replace XK := Lib.hid (XK.out.lo2 hb)
        replace XW := Lib.hid (XW.out.lo hb)
        have E3 := Lib.hid (BP2.out a3 c3 _ hW3 hg3)
        unfold Lan.val at E3
        rw [show blmN ⟨l.fs, a3, c3, ys⟩ = blmN (withW l ys) from rfl, show blmE ⟨l.fs, a3, c3, ys⟩ = blmE (withW l ys) from rfl] at E3
        clear hW3 hg3 hb q0 q1 L3
        go_wp2_with fail
        refine E3.out.mono ?_
        rintro e w12 ⟨rfl, hb⟩
        replace X := Lib.hid (X.out.lo hb)
        replace XK := Lib.hid (XK.out.lo2 hb)
        replace XW := Lib.hid (XW.out.lo hb)
        clear hb E3
        rcases HBL.out with ⟨h1, h2⟩ | ⟨h1, h2⟩
        · rw [h1, h2]
          clear h1 h2
          go_wp2_with fail
          refine (WK.out _).mono ?_
          rintro e w98 ⟨rfl, hb⟩
          have X9 := Lib.hid (X.out.lo hb)
          clear hb
          go_wp2_with fail
          go_returns
          exact ⟨rfl, X9.out.bl⟩
        · rw [h1, h2]
          clear h1 h2
          have q0 := XK.out.cell 0 (show _ = some (Value.int .i64 l.fs) from rfl)
          have q1 := XK.out.cell 1 (show _ = some (Value.slice a7 ys.length c7) from rfl)
          have L3 := Lib.hid (LN2.out a7 c7 w12 XW.out)
          unfold Lan.val at L3
          go_wp2_with fail
          refine L3.out.mono ?_
          rintro e w13 ⟨a3, c3, rfl, hW3, hg3, hb⟩
          replace X := Lib.hid (X.out.lo hb)
          have BA := Lib.hid (below_al w13 (.cells #[.int .i64 1] 3))
          have XA := Lib.hid (X.out.lo BA.out)
          have E4 := Lib.hid (EX2.out a3 (some ⟨w13.heap.size, 0, none⟩) c3 1 (w13.alloc (.cells #[.int .i64 1] 3)) (hW3.lo BA.out) (fun g o e => Nat.lt_of_lt_of_le (hg3 g o e) BA.out.size) (IN.out w13))
          unfold Lan.val at E4
          rw [show explB ⟨l.fs, a3, c3, ys⟩ [1] = true from HEX.out.2, show chkE ⟨l.fs, a3, c3, ys⟩ [1] = 0 from HEX.out.1] at E4
          clear hW3 hg3 hb q0 q1 L3
          go_wp2_with fail
          refine E4.out.mono ?_
          rintro e w14 ⟨rfl, hb⟩
          have X8 := Lib.hid (XA.out.lo hb)
          clear hb E4
          go_wp2_with fail
          refine (WK.out _).mono ?_
          rintro e w98 ⟨rfl, hb⟩
          have X9 := Lib.hid (X8.out.lo hb)
          clear hb
          go_wp2_with fail
          go_returns
          exact ⟨rfl, X9.out.bl⟩
    · subst e9
      have hu2 : u = 4 := by rw [hu.out]; rfl
      subst hu2
      go_wp2_with fail
      go_cut [8] from 64 (fun s8 wx => ∃ (b8 c7 : Nat) (a7 : Option Addr), s8 = .pointer (some ⟨b8, 0, none⟩) ∧ Hid (TB l.fs ys b8 c7 a7 wr wx))
      case first =>
        (go_region_held3 (fun Wx => Wx.cell? ⟨w.heap.size, 0, none⟩ = some (.int .i64 l.fs) ∧ Wx.cell? ⟨w.heap.size, 1, none⟩ = some (.slice l.wa l.ws.length l.wc))
            (first | (with_reducible exact SK.out _ NX.out.bl) | (refine SK.out _ ?_; (repeat (first | (with_reducible exact B2.out) | (with_reducible exact B1.out) | (with_reducible exact Below.refl _ _) | (with_reducible refine Below.drew ?_) | (with_reducible refine below_al2 ?_ _)))))
            (first | ((go_at_call 44); (refine (TR.out _ (below_go X.out.bl ?_)).mono ?_); (repeat (first | (with_reducible exact B2.out) | (with_reducible exact B1.out) | (with_reducible exact Below.refl _ _) | (with_reducible refine Below.drew ?_) | (with_reducible refine below_al2 ?_ _))); (rintro e w1 ⟨a6, c6, rfl, hG1, hb1⟩); (refine hv (T := Below wr.heap.size wr w1) ?_ ?_); (refine below_go ?_ hb1; (repeat (first | (with_reducible exact B2.out) | (with_reducible exact B1.out) | (with_reducible exact Below.refl _ _) | (with_reducible refine Below.drew ?_) | (with_reducible refine below_al2 ?_ _)))); (intro hB1; have B1 := Lib.hid hB1; clear hB1)) | ((go_at_call 45); (refine (TO.out a6 c6 _ (below_go X.out.bl ?_) ?_).mono ?_); (repeat (first | (with_reducible exact B2.out) | (with_reducible exact B1.out) | (with_reducible exact Below.refl _ _) | (with_reducible refine Below.drew ?_) | (with_reducible refine below_al2 ?_ _))); (first | exact hG1 | exact hG1.lo (below_al _ _)); (rintro e w2 ⟨a7, c7, rfl, hW7, hg7, hb7⟩); (refine hv (T := Below wr.heap.size wr w2) ?_ ?_); (refine below_go ?_ hb7; (repeat (first | (with_reducible exact B2.out) | (with_reducible exact B1.out) | (with_reducible exact Below.refl _ _) | (with_reducible refine Below.drew ?_) | (with_reducible refine below_al2 ?_ _)))); (intro hB2; have B2 := Lib.hid hB2; clear hB2); (try (first | (refine hv (T := Blk w2 wr.heap.size #[.int .i64 0, .slice none 0 0] 24) ?_ ?_; (first | exact Blk.lo2 (Blk.lo2 (Blk.new wr _ _).dr hb1) hb7 | exact Blk.lo2 (Blk.lo2 (Blk.new wr _ _) hb1) hb7); intro BE0; refine hv (T := ∀ g o, a7 = some ⟨g, o, none⟩ → wr.heap.size < g ∧ g < w2.heap.size) ?_ ?_; (intro g o e; have h1 := hg7 g o e; have h2 := hb1.size; (try simp only [World.size_alloc, World.size_drew] at h1); (try simp only [World.size_alloc, World.size_drew] at h2); omega); intro GE0; have NX := Lib.hid (TB.mk1 (fs := l.fs) (c := c7) hW7 GE0 B2.out BE0 (Nat.le_refl _)); have t0 := BE0.cell 0 (show _ = some (Value.int .i64 0) from rfl); have t1 := BE0.cell 1 (show _ = some (Value.slice none 0 0) from rfl); have f0 := BE0.fr 0; have f1 := BE0.fr 1; clear BE0 GE0) | (refine hv (T := Blk w2 w1.heap.size #[.int .i64 0, .slice none 0 0] 24) ?_ ?_; (exact Blk.lo2 (Blk.new w1 _ _) hb7); intro BE0; refine hv (T := ∀ g o, a7 = some ⟨g, o, none⟩ → w1.heap.size < g ∧ g < w2.heap.size) ?_ ?_; (intro g o e; have h1 := hg7 g o e; (try simp only [World.size_alloc, World.size_drew] at h1); omega); intro GE0; have NX := Lib.hid (TB.mk1 (fs := l.fs) (c := c7) hW7 GE0 B2.out BE0 B1.out.size); have t0 := BE0.cell 0 (show _ = some (Value.int .i64 0) from rfl); have t1 := BE0.cell 1 (show _ = some (Value.slice none 0 0) from rfl); have f0 := BE0.fr 0; have f1 := BE0.fr 1; clear BE0 GE0))))))
        all_goals
          go_wp2_with fail
          go_meet
          first
          | exact ⟨_, _, _, rfl, NX⟩
          | exact ⟨_, _, _, rfl, Lib.hid (TB.mk2 hW7 (fun g o e => (hg7 g o e).2) B2.out)⟩
      case rest =>
        obtain ⟨b8, c7, a7, rfl, hTB⟩ := hcut
        replace X := Lib.hid (X.out.lo hTB.out.bl)
        have XK := Lib.hid hTB.out.k
        have XW := Lib.hid hTB.out.wd
        have XG := Lib.hid hTB.out.ga
        clear hTB SK k0 k1
        have q0 := XK.out.cell 0 (show _ = some (Value.int .i64 l.fs) from rfl)
        have q1 := XK.out.cell 1 (show _ = some (Value.slice a7 ys.length c7) from rfl)
        have L3 := Lib.hid (LN2.out a7 c7 wc XW.out)
        unfold Lan.val at L3
        go_wp2_with fail
        refine L3.out.mono ?_
        rintro e w11 ⟨a3, c3, rfl, hW3, hg3, hb⟩
        replace X := Lib.hid (X.out.lo hb)
        replace XK := Lib.hid (XK.out.lo2 hb)
        replace XW := Lib.hid (XW.out.lo hb)
        have E3 := Lib.hid (BP2.out a3 c3 _ hW3 hg3)
        unfold Lan.val at E3
        rw [show blmN ⟨l.fs, a3, c3, ys⟩ = blmN (withW l ys) from rfl, show blmE ⟨l.fs, a3, c3, ys⟩ = blmE (withW l ys) from rfl] at E3
        clear hW3 hg3 hb q0 q1 L3
        go_wp2_with fail
        refine E3.out.mono ?_
        rintro e w12 ⟨rfl, hb⟩
        replace X := Lib.hid (X.out.lo hb)
        replace XK := Lib.hid (XK.out.lo2 hb)
        replace XW := Lib.hid (XW.out.lo hb)
        clear hb E3
        rcases HBL.out with ⟨h1, h2⟩ | ⟨h1, h2⟩
        · rw [h1, h2]
          clear h1 h2
          go_wp2_with fail
          refine (WK.out _).mono ?_
          rintro e w98 ⟨rfl, hb⟩
          have X9 := Lib.hid (X.out.lo hb)
          clear hb
          go_wp2_with fail
          go_returns
          exact ⟨rfl, X9.out.bl⟩
        · rw [h1, h2]
          clear h1 h2
          have q0 := XK.out.cell 0 (show _ = some (Value.int .i64 l.fs) from rfl)
          have q1 := XK.out.cell 1 (show _ = some (Value.slice a7 ys.length c7) from rfl)
          have L3 := Lib.hid (LN2.out a7 c7 w12 XW.out)
          unfold Lan.val at L3
          go_wp2_with fail
          refine L3.out.mono ?_
          rintro e w13 ⟨a3, c3, rfl, hW3, hg3, hb⟩
          replace X := Lib.hid (X.out.lo hb)
          have BA := Lib.hid (below_al w13 (.cells #[.int .i64 2] 3))
          have XA := Lib.hid (X.out.lo BA.out)
          have E4 := Lib.hid (EX2.out a3 (some ⟨w13.heap.size, 0, none⟩) c3 1 (w13.alloc (.cells #[.int .i64 2] 3)) (hW3.lo BA.out) (fun g o e => Nat.lt_of_lt_of_le (hg3 g o e) BA.out.size) (IN.out w13))
          unfold Lan.val at E4
          rw [show explB ⟨l.fs, a3, c3, ys⟩ [2] = true from HEX.out.2, show chkE ⟨l.fs, a3, c3, ys⟩ [2] = 0 from HEX.out.1] at E4
          clear hW3 hg3 hb q0 q1 L3
          go_wp2_with fail
          refine E4.out.mono ?_
          rintro e w14 ⟨rfl, hb⟩
          have X8 := Lib.hid (XA.out.lo hb)
          clear hb E4
          go_wp2_with fail
          refine (WK.out _).mono ?_
          rintro e w98 ⟨rfl, hb⟩
          have X9 := Lib.hid (X8.out.lo hb)
          clear hb
          go_wp2_with fail
          go_returns
          exact ⟨rfl, X9.out.bl⟩
    · subst e9
      have hu2 : u = 8 := by rw [hu.out]; rfl
      subst hu2
      go_wp2_with fail
      go_cut [8] from 64 (fun s8 wx => ∃ (b8 c7 : Nat) (a7 : Option Addr), s8 = .pointer (some ⟨b8, 0, none⟩) ∧ Hid (TB l.fs ys b8 c7 a7 wr wx))
      case first =>
        (go_region_held3 (fun Wx => Wx.cell? ⟨w.heap.size, 0, none⟩ = some (.int .i64 l.fs) ∧ Wx.cell? ⟨w.heap.size, 1, none⟩ = some (.slice l.wa l.ws.length l.wc))
            (first | (with_reducible exact SK.out _ NX.out.bl) | (refine SK.out _ ?_; (repeat (first | (with_reducible exact B2.out) | (with_reducible exact B1.out) | (with_reducible exact Below.refl _ _) | (with_reducible refine Below.drew ?_) | (with_reducible refine below_al2 ?_ _)))))
            (first | ((go_at_call 44); (refine (TR.out _ (below_go X.out.bl ?_)).mono ?_); (repeat (first | (with_reducible exact B2.out) | (with_reducible exact B1.out) | (with_reducible exact Below.refl _ _) | (with_reducible refine Below.drew ?_) | (with_reducible refine below_al2 ?_ _))); (rintro e w1 ⟨a6, c6, rfl, hG1, hb1⟩); (refine hv (T := Below wr.heap.size wr w1) ?_ ?_); (refine below_go ?_ hb1; (repeat (first | (with_reducible exact B2.out) | (with_reducible exact B1.out) | (with_reducible exact Below.refl _ _) | (with_reducible refine Below.drew ?_) | (with_reducible refine below_al2 ?_ _)))); (intro hB1; have B1 := Lib.hid hB1; clear hB1)) | ((go_at_call 45); (refine (TO.out a6 c6 _ (below_go X.out.bl ?_) ?_).mono ?_); (repeat (first | (with_reducible exact B2.out) | (with_reducible exact B1.out) | (with_reducible exact Below.refl _ _) | (with_reducible refine Below.drew ?_) | (with_reducible refine below_al2 ?_ _))); (first | exact hG1 | exact hG1.lo (below_al _ _)); (rintro e w2 ⟨a7, c7, rfl, hW7, hg7, hb7⟩); (refine hv (T := Below wr.heap.size wr w2) ?_ ?_); (refine below_go ?_ hb7; (repeat (first | (with_reducible exact B2.out) | (with_reducible exact B1.out) | (with_reducible exact Below.refl _ _) | (with_reducible refine Below.drew ?_) | (with_reducible refine below_al2 ?_ _)))); (intro hB2; have B2 := Lib.hid hB2; clear hB2); (try (first | (refine hv (T := Blk w2 wr.heap.size #[.int .i64 0, .slice none 0 0] 24) ?_ ?_; (first | exact Blk.lo2 (Blk.lo2 (Blk.new wr _ _).dr hb1) hb7 | exact Blk.lo2 (Blk.lo2 (Blk.new wr _ _) hb1) hb7); intro BE0; refine hv (T := ∀ g o, a7 = some ⟨g, o, none⟩ → wr.heap.size < g ∧ g < w2.heap.size) ?_ ?_; (intro g o e; have h1 := hg7 g o e; have h2 := hb1.size; (try simp only [World.size_alloc, World.size_drew] at h1); (try simp only [World.size_alloc, World.size_drew] at h2); omega); intro GE0; have NX := Lib.hid (TB.mk1 (fs := l.fs) (c := c7) hW7 GE0 B2.out BE0 (Nat.le_refl _)); have t0 := BE0.cell 0 (show _ = some (Value.int .i64 0) from rfl); have t1 := BE0.cell 1 (show _ = some (Value.slice none 0 0) from rfl); have f0 := BE0.fr 0; have f1 := BE0.fr 1; clear BE0 GE0) | (refine hv (T := Blk w2 w1.heap.size #[.int .i64 0, .slice none 0 0] 24) ?_ ?_; (exact Blk.lo2 (Blk.new w1 _ _) hb7); intro BE0; refine hv (T := ∀ g o, a7 = some ⟨g, o, none⟩ → w1.heap.size < g ∧ g < w2.heap.size) ?_ ?_; (intro g o e; have h1 := hg7 g o e; (try simp only [World.size_alloc, World.size_drew] at h1); omega); intro GE0; have NX := Lib.hid (TB.mk1 (fs := l.fs) (c := c7) hW7 GE0 B2.out BE0 B1.out.size); have t0 := BE0.cell 0 (show _ = some (Value.int .i64 0) from rfl); have t1 := BE0.cell 1 (show _ = some (Value.slice none 0 0) from rfl); have f0 := BE0.fr 0; have f1 := BE0.fr 1; clear BE0 GE0))))))
        all_goals
          go_wp2_with fail
          go_meet
          first
          | exact ⟨_, _, _, rfl, NX⟩
          | exact ⟨_, _, _, rfl, Lib.hid (TB.mk2 hW7 (fun g o e => (hg7 g o e).2) B2.out)⟩
      case rest =>
        obtain ⟨b8, c7, a7, rfl, hTB⟩ := hcut
        replace X := Lib.hid (X.out.lo hTB.out.bl)
        have XK := Lib.hid hTB.out.k
        have XW := Lib.hid hTB.out.wd
        have XG := Lib.hid hTB.out.ga
        clear hTB SK k0 k1
        have q0 := XK.out.cell 0 (show _ = some (Value.int .i64 l.fs) from rfl)
        have q1 := XK.out.cell 1 (show _ = some (Value.slice a7 ys.length c7) from rfl)
        have L3 := Lib.hid (LN2.out a7 c7 wc XW.out)
        unfold Lan.val at L3
        go_wp2_with fail
        refine L3.out.mono ?_
        rintro e w11 ⟨a3, c3, rfl, hW3, hg3, hb⟩
        replace X := Lib.hid (X.out.lo hb)
        replace XK := Lib.hid (XK.out.lo2 hb)
        replace XW := Lib.hid (XW.out.lo hb)
        have E3 := Lib.hid (BP2.out a3 c3 _ hW3 hg3)
        unfold Lan.val at E3
        rw [show blmN ⟨l.fs, a3, c3, ys⟩ = blmN (withW l ys) from rfl, show blmE ⟨l.fs, a3, c3, ys⟩ = blmE (withW l ys) from rfl] at E3
        clear hW3 hg3 hb q0 q1 L3
        go_wp2_with fail
        refine E3.out.mono ?_
        rintro e w12 ⟨rfl, hb⟩
        replace X := Lib.hid (X.out.lo hb)
        replace XK := Lib.hid (XK.out.lo2 hb)
        replace XW := Lib.hid (XW.out.lo hb)
        clear hb E3
        rcases HBL.out with ⟨h1, h2⟩ | ⟨h1, h2⟩
        · rw [h1, h2]
          clear h1 h2
          go_wp2_with fail
          refine (WK.out _).mono ?_
          rintro e w98 ⟨rfl, hb⟩
          have X9 := Lib.hid (X.out.lo hb)
          clear hb
          go_wp2_with fail
          go_returns
          exact ⟨rfl, X9.out.bl⟩
        · rw [h1, h2]
          clear h1 h2
          have q0 := XK.out.cell 0 (show _ = some (Value.int .i64 l.fs) from rfl)
          have q1 := XK.out.cell 1 (show _ = some (Value.slice a7 ys.length c7) from rfl)
          have L3 := Lib.hid (LN2.out a7 c7 w12 XW.out)
          unfold Lan.val at L3
          go_wp2_with fail
          refine L3.out.mono ?_
          rintro e w13 ⟨a3, c3, rfl, hW3, hg3, hb⟩
          replace X := Lib.hid (X.out.lo hb)
          have BA := Lib.hid (below_al w13 (.cells #[.int .i64 3] 3))
          have XA := Lib.hid (X.out.lo BA.out)
          have E4 := Lib.hid (EX2.out a3 (some ⟨w13.heap.size, 0, none⟩) c3 1 (w13.alloc (.cells #[.int .i64 3] 3)) (hW3.lo BA.out) (fun g o e => Nat.lt_of_lt_of_le (hg3 g o e) BA.out.size) (IN.out w13))
          unfold Lan.val at E4
          rw [show explB ⟨l.fs, a3, c3, ys⟩ [3] = true from HEX.out.2, show chkE ⟨l.fs, a3, c3, ys⟩ [3] = 0 from HEX.out.1] at E4
          clear hW3 hg3 hb q0 q1 L3
          go_wp2_with fail
          refine E4.out.mono ?_
          rintro e w14 ⟨rfl, hb⟩
          have X8 := Lib.hid (XA.out.lo hb)
          clear hb E4
          go_wp2_with fail
          refine (WK.out _).mono ?_
          rintro e w98 ⟨rfl, hb⟩
          have X9 := Lib.hid (X8.out.lo hb)
          clear hb
          go_wp2_with fail
          go_returns
          exact ⟨rfl, X9.out.bl⟩
  · have hR : decide (faultW l = 0) = false := by simp [hF]
    rw [hR] at RD
    unfold Lan.val at *
    clear hL hF hR
    go_enter Try.func14, Try.ntmps14
    go_wp2_with fail
    generalize w.alloc _ = W0 at X ⊢
    have k0 := X.out.b.cell 0 (show _ = some (Value.int .i64 l.fs) from rfl)
    have k1 := X.out.b.cell 1 (show _ = some (Value.slice l.wa l.ws.length l.wc) from rfl)
    go_wp2_with fail
    refine (RD.out _ X.out.bl).mono ?_
    rintro e w1 ⟨rfl, hb⟩
    replace X := Lib.hid (X.out.lo hb)
    clear hb k0 k1 RD
    go_wp2_with fail
    refine (WK.out _).mono ?_
    rintro e w2 ⟨rfl, hb⟩
    replace X := Lib.hid (X.out.lo hb)
    clear hb
    go_wp2_with fail
    go_returns
    exact ⟨rfl, X.out.bl⟩

end Go.Proofs.Ytbbndcfnpfedpaa
