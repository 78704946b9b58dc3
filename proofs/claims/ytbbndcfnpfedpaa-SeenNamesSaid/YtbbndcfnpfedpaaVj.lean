/- The reference's Games once more: what it gives is new. -/
import Derived.Test.YtbbndcfnpfedpaaVh
set_option linter.unusedVariables false
set_option linter.unusedSimpArgs false
namespace Go.Proofs.Ytbbndcfnpfedpaa
open Go.RowKit Go.Shelf

attribute [local go_sem] Oper.semAt_some

/-- GAt, with rows behind B. -/
def GB (B : Nat) (w : World) (a : Option Addr) (G : List (List Int)) : Prop := ∀ (i : Nat) (row : List Int), G[i]? = some row → ∃ (g o : Nat) (a' : Option Addr) (c' : Nat), a = some ⟨g, o, none⟩ ∧ w.cell? ⟨g, o + i, none⟩ = some (.slice a' row.length c') ∧ IntsAt w a' row ∧ ∀ g' o', a' = some ⟨g', o', none⟩ → B ≤ g'
theorem GB.lo {B : Nat} {w W : World} {a : Option Addr} {G : List (List Int)} (h : GB B w a G) (hb : Below w.heap.size w W) : GB B W a G := fun i row hi => by
  obtain ⟨g, o, a', c', e, h1, h2, h3⟩ := h i row hi
  exact ⟨g, o, a', c', e, cell_lo hb h1, h2.lo hb, h3⟩
theorem GB.alt {B : Nat} {w W : World} {a : Option Addr} {G : List (List Int)} {p : Nat → Prop} (h : GB B w a G) (ha : Alt p w W) (h1 : ∀ g o, a = some ⟨g, o, none⟩ → B ≤ g) (h2 : ∀ k, B ≤ k → k < w.heap.size → ¬ p k) : GB B W a G := fun i row hi => by
  obtain ⟨g, o, a', c', e, k1, k2, k3⟩ := h i row hi
  exact ⟨g, o, a', c', e, alt_cell ha k1 (h2 _ (h1 _ _ e) (cell_lt k1)), fun j x hx => by
    obtain ⟨g', o', e', r1⟩ := k2 j x hx
    exact ⟨g', o', e', alt_cell ha r1 (h2 _ (k3 _ _ e') (cell_lt r1))⟩, k3⟩
theorem GB.at {B : Nat} {w : World} {a : Option Addr} {G : List (List Int)} (h : GB B w a G) : GAt w a G := fun i row hi => by
  obtain ⟨g, o, a', c', e, h1, h2, h3⟩ := h i row hi
  exact ⟨g, o, a', c', e, h1, h2⟩
theorem GB.of_ll {base : Nat} {W : World} {a : Option Addr} {G : List (List Int)} (h : LLAt base W a (rowsV G)) (hne : ∀ row ∈ G, row ≠ []) : GB base W a G := fun i row hi => by
  obtain ⟨g, o, a', c', e, h1, h2⟩ := h i (row.map (Value.int .i64)) (by unfold rowsV; rw [List.getElem?_map, hi]; rfl)
  refine ⟨g, o, a', c', e, by simpa using h1, h2.ints, fun g' o' e' => ?_⟩
  have hn := hne row (List.mem_of_getElem? hi)
  cases row with
  | nil => exact absurd rfl hn
  | cons x xs =>
    obtain ⟨g2, o2, e2, _, h4⟩ := h2 0 (.int .i64 x) rfl
    rw [e'] at e2
    cases e2
    exact h4
theorem cell_junk (W : World) (g o : Nat) : (W.putObj g (.deferred none)).cell? ⟨g, o, none⟩ = none := by
  by_cases h : g < W.heap.size
  · simp [World.cell?, World.putObj, h]
  · simp [World.cell?, World.putObj, h]
theorem gb_of {LO LO' : Nat} {w3 : World} {a : Option Addr} (hl : LO ≤ LO') (hp7 : ∀ (p : Nat → Prop) (Wx : World), (∀ k, LO' ≤ k → k < w3.heap.size → ¬ p k) → Alt p w3 Wx → GAt Wx a framesL) :
    ∀ (p : Nat → Prop) (Wx : World), (∀ k, LO' ≤ k → k < w3.heap.size → ¬ p k) → Alt p w3 Wx → GB LO Wx a framesL := fun p Wx hp hA i row hi => by
  obtain ⟨g, o, a', c', e, h1, h2⟩ := hp7 p Wx hp hA i row hi
  refine ⟨g, o, a', c', e, h1, h2, fun g' o' e' => ?_⟩
  refine Classical.byContradiction fun hlt => ?_
  have hne := (frames_in (List.mem_of_getElem? hi)).1
  obtain ⟨g2, o2, a2, c2, e2, k1, k2⟩ := hp7 (fun k => p k ∨ k = g') (Wx.putObj g' (.deferred none)) (fun k q1 q2 q3 => q3.elim (hp k q1 q2) (fun e => by omega)) ((hA.mono fun k _ h => .inl h).trans (Alt.put (.inr rfl) _)) i row hi
  rw [e] at e2
  cases e2
  by_cases hg : g = g'
  · subst hg
    rw [cell_junk] at k1
    cases k1
  · have k3 := alt_cell (Alt.put (p := fun k => k = g') (w := Wx) rfl (.deferred none)) h1 hg
    rw [k3] at k1
    obtain ⟨rfl⟩ : a' = a2 := by simpa using (congrArg (fun v => match v with | some (Value.slice a _ _) => a | _ => none) k1)
    cases row with
    | nil => exact absurd rfl hne
    | cons x xs =>
      obtain ⟨g4, o4, e4, r1⟩ := k2 0 x rfl
      rw [e'] at e4
      cases e4
      rw [cell_junk] at r1
      cases r1

/-- What Games has laid: all frames, and the lane of one frame. -/
structure GCb (l : Lan) (k : Int) (a7 ao : Option Addr) (co : Nat) (w wx : World) (b8 : Nat) : Prop where
  g : GB w.heap.size wx a7 framesL
  k8 : Blk wx b8 #[.int .i64 1, .slice ao (onlyW l.ws k).length co] 24
  ws : WdsAt wx ao (onlyW l.ws k)
  bx : BX l w wx
theorem GCb.lo {l : Lan} {k : Int} {a7 ao : Option Addr} {co : Nat} {w wx wy : World} {b8 : Nat} (h : GCb l k a7 ao co w wx b8) (hb : Below wx.heap.size wx wy) : GCb l k a7 ao co w wy b8 :=
  ⟨h.g.lo hb, Blk.alt (p := fun _ => False) h.k8 (Alt.of_below hb (fun k hk e => by omega)) id, h.ws.lo hb, h.bx.lo hb⟩
/-- What the two calls have left, whichever block is turned behind them. -/
structure G2b (l : Lan) (k : Int) (a7 ao : Option Addr) (w w4 : World) (b8 : Nat) : Prop where
  g : ∀ Wx, Alt (fun k => k = b8) w4 Wx → GB w.heap.size Wx a7 framesL
  ws : ∀ Wx, Alt (fun k => k = b8) w4 Wx → WdsAt Wx ao (onlyW l.ws k)
  bx : BX l w w4
  lt : w.heap.size < b8
theorem G2b.mk1 {l : Lan} {k : Int} {a7 ao : Option Addr} {co : Nat} {w w4 : World} {b8 : Nat} (h : G2b l k a7 ao w w4 b8) (hz : Blk w4 b8 #[.int .i64 0, .slice none 0 0] 24) :
    GCb l k a7 ao co w ((w4.setCell ⟨b8, 0, none⟩ (.int .i64 1)).setCell ⟨b8, 1, none⟩ (.slice ao (onlyW l.ws k).length co)) b8 := by
  obtain ⟨h1, h2⟩ := hz.put2 (.int .i64 1) (.slice ao (onlyW l.ws k).length co)
  have hlt := h.lt
  exact ⟨h.g _ h2, h1, h.ws _ h2, ⟨h.bx.b.alt h2 (by omega), ((Alt.of_below (p := fun k => w.heap.size ≤ k) h.bx.bl (fun k _ e => e)).trans (h2.mono fun k _ e => by omega)).below (Nat.le_refl _) fun _ e => e⟩⟩
theorem G2b.mk2 {l : Lan} {k : Int} {a7 ao : Option Addr} {co : Nat} {w w4 : World} (h : G2b l k a7 ao w w4 w4.heap.size) :
    GCb l k a7 ao co w (w4.alloc (.cells #[.int .i64 1, .slice ao (onlyW l.ws k).length co] 24)) w4.heap.size :=
  ⟨h.g _ ((Alt.refl _ _).alloc _), Blk.new _ _ _, h.ws _ ((Alt.refl _ _).alloc _), h.bx.lo (below_al _ _)⟩

theorem G2b.of {l : Lan} {k : Int} {a7 ao : Option Addr} {w w3 w4 : World} {LO S b : Nat} (hp7 : ∀ (p : Nat → Prop) (Wx : World), (∀ k, LO ≤ k → k < w3.heap.size → ¬ p k) → Alt p w3 Wx → GB w.heap.size Wx a7 framesL) (hb : Below w3.heap.size w3 w4) (hW : WdsAt w4 ao (onlyW l.ws k))
    (hgo : ∀ g o, ao = some ⟨g, o, none⟩ → S ≤ g ∧ g < w4.heap.size) (hx : BX l w w4) (h8 : w.heap.size < b) (h1 : b < LO ∨ w3.heap.size ≤ b) (h2 : b < S ∨ w4.heap.size ≤ b) : G2b l k a7 ao w w4 b :=
  ⟨fun Wx hA => hp7 (fun k => k = b) Wx (fun k h3 h4 e => by omega) ((Alt.of_below (p := fun k => k = b) hb (fun k hk e => by omega)).trans hA), fun Wx hA => hW.alt hA (fun g o e e2 => by have := hgo g o e; omega), hx, h8⟩
theorem GCb.cells {l : Lan} {k : Int} {a7 ao : Option Addr} {co : Nat} {w wx : World} {b8 : Nat} (h : GCb l k a7 ao co w wx b8) : wx.cell? ⟨w.heap.size, 0, none⟩ = some (.int .i64 l.fs) ∧ wx.cell? ⟨w.heap.size, 1, none⟩ = some (.slice l.wa l.ws.length l.wc) := ⟨h.bx.b.cell 0 rfl, h.bx.b.cell 1 rfl⟩

theorem llpushb {B br : Nat} {W w1 : World} {v v' : Value} {G : List (List Int)} {hs : List Value} {row : List Int} {a' : Option Addr} {c' : Nat} (ho : W.ownsRow B 25 1 v (rowsV G).length hs) (hr : RowsOk br W v.ownBlock (rowsV G) hs) (hI : IntsAt W a' row) (ha : ∀ g o, a' = some ⟨g, o, none⟩ → g < B) (hbr : ∀ g o, a' = some ⟨g, o, none⟩ → br ≤ g)
    (hg : (W.alloc (.cells #[.slice a' row.length c'] 25)).grownBy w1 v.ownBlock) (ho' : w1.ownsRow B 25 1 v' ((rowsV G).length + 1) (hs ++ [.slice a' row.length c'])) (hloc : v'.ownBlock = v.ownBlock ∨ v'.ownBlock = some (W.alloc (.cells #[.slice a' row.length c'] 25)).heap.size) :
    OwnLL 25 B br w1 v' (rowsV (G ++ [row])) := by
  have b2 : Below W.heap.size W (W.alloc (.cells #[.slice a' row.length c'] 25)) := below_al _ _
  have ho2 := ownsRow_alt ho (Alt.of_below (p := fun _ => False) b2 (fun k hk e => by omega)) (fun _ _ => id)
  have hI2 := hI.lo b2
  have hrow : RowV br (W.alloc (.cells #[.slice a' row.length c'] 25)) a' (row.map (Value.int .i64)) := fun j u hu => by
    rw [List.getElem?_map] at hu
    cases hx : row[j]? with
    | none => rw [hx] at hu; cases hu
    | some x =>
      rw [hx] at hu
      cases hu
      obtain ⟨g, o, e, h1⟩ := hI2 j x hx
      exact ⟨g, o, e, h1, hbr g o e⟩
  have hr' := RowsOk.one (c := c') (ob := v.ownBlock) hrow (fun k hk g o e => by
    have h1 := own_base ho hk
    have h2 := ha g o e
    omega)
  rw [List.length_map] at hr'
  rw [rowsV_snoc]
  exact OwnLL.push (L' := [row.map (Value.int .i64)]) ho2 (hr.lo b2) hr' hg ho' hloc

set_option maxRecDepth 100000 in
set_option maxHeartbeats 8000000 in
theorem games_refb (l : Lan) (ts : List Int) (k : Int) (ta : Option Addr) (tc : Nat) (w : World) (hL : WdsAt w l.wa l.ws) (hX : IntsAt w ta ts) (hn : l.ws.length ≤ 1000) (hm : ts.length ≤ 1000) (hw : ∀ x ∈ l.ws, 0 ≤ x.ba ∧ x.ba ≤ 1) :
    Calls Try.prog 60 #[l.val, .slice ta ts.length tc, .int .i64 k] w fun e w' => ∃ a c, e = .returned (.slice a (gamesR l.ws ts k).length c) ∧ GB w.heap.size w' a (gamesR l.ws ts k) ∧ (∀ g o, a = some ⟨g, o, none⟩ → w.heap.size ≤ g ∧ g < w'.heap.size) ∧ Below w.heap.size w w' := by
  have hol : (onlyW l.ws k).length ≤ 1000 := Nat.le_trans (onlyW_len _ _) hn
  have HOL := Lib.hid hol
  have hww : ∀ x ∈ onlyW l.ws k, ∃ f b : Nat, x.fr = (f : Int) ∧ x.ba = (b : Int) ∧ b ≤ 1 ∧ f < 1 := fun x hx => by
    unfold onlyW at hx
    obtain ⟨y, hy, rfl⟩ := List.mem_map.1 hx
    have := hw y (List.mem_filter.1 hy).1
    exact ⟨0, y.ba.toNat, rfl, by show y.ba = _; omega, by omega, by omega⟩
  have FT := Lib.hid (fun (row : List Int) (ao ga : Option Addr) (co gc : Nat) W (hb : Below w.heap.size w W) (hW : WdsAt W ao (onlyW l.ws k)) (hrow : row ∈ framesL) (hG : GAt W ga [row]) =>
    (show Calls Try.prog 38 #[.agg #[.int .i64 1, .slice ao (onlyW l.ws k).length co], .slice ta ts.length tc, .slice ga 1 gc] W (fun e w' => e = .returned (.bool (fitsR (onlyW l.ws k) ts [row])) ∧ Below W.heap.size W w') from
      fits_ref ⟨1, ao, co, onlyW l.ws k⟩ ts [row] ta ga tc gc W hW (hX.lo hb) hG hol hm (by simp) hww (fun r hr => by
        obtain rfl : r = row := by simpa using hr
        obtain ⟨h1, h2, h3⟩ := frames_in hrow
        exact ⟨by omega, h3⟩)))
  have FR := Lib.hid (fun W => frames_ref W)
  have ON := Lib.hid (fun W (hb : Below w.heap.size w W) => only_ref l k W (hL.lo hb) hn)
  have X := Lib.hid (BX.mk' l w)
  obtain ⟨Fp, hFp⟩ : ∃ Fp : List Int → Bool, Hid (Fp = fun row => fitsR (onlyW l.ws k) ts [row]) := ⟨_, Lib.hid rfl⟩
  have HGR := Lib.hid (show gamesR l.ws ts k = framesL.filter Fp by rw [hFp.out]; rfl)
  have HFP := Lib.hid (fun row => (show fitsR (onlyW l.ws k) ts [row] = Fp row by rw [hFp.out]))
  obtain ⟨i0, hi0, hy0, hy1, hy2⟩ := info_parts info25
  rw [HGR.out]
  unfold NewOnly at ON
  unfold Lan.val at *
  clear hL hX hn hm hw hol hww
  go_enter Try.func60, Try.ntmps60
  go_wp2_with fail
  generalize w.alloc _ = W0 at X ⊢
  have k0 := X.out.b.cell 0 (show _ = some (Value.int .i64 l.fs) from rfl)
  have k1 := X.out.b.cell 1 (show _ = some (Value.slice l.wa l.ws.length l.wc) from rfl)
  have SP := Lib.hid (show ∀ Wx, Below W0.heap.size W0 Wx → (Wx.cell? ⟨w.heap.size, 0, none⟩ = some (.int .i64 l.fs) ∧ Wx.cell? ⟨w.heap.size, 1, none⟩ = some (.slice l.wa l.ws.length l.wc)) from fun Wx hb => ⟨cell_lo hb k0, cell_lo hb k1⟩)
  have XL := Lib.hid X.out.b.lt
  have BA := Lib.hid (show Below W0.heap.size W0 (W0.alloc (.cells #[.int .i64 0, .slice none 0 0] 24)).drew from (below_al W0 _).drew)
  have ZA := Lib.hid (show Blk (W0.alloc (.cells #[.int .i64 0, .slice none 0 0] 24)).drew W0.heap.size #[.int .i64 0, .slice none 0 0] 24 from Blk.alt (p := fun _ => False) (Blk.new W0 _ _) (Alt.refl _ _).drew id)
  have LZ := Lib.hid (show W0.heap.size < (W0.alloc (.cells #[.int .i64 0, .slice none 0 0] 24)).drew.heap.size by show W0.heap.size < (W0.alloc (.cells #[.int .i64 0, .slice none 0 0] 24)).heap.size; simp)
  have HLO := Lib.hid (show w.heap.size < W0.heap.size from XL.out)
  have F1 := Lib.hid (FR.out W0.drew)
  have F2 := Lib.hid (FR.out (W0.alloc (.cells #[.int .i64 0, .slice none 0 0] 24)).drew)
  go_cut [7, 8] from 37 (fun s7 s8 wx => ∃ (a7 ao : Option Addr) (c7 co b8 : Nat), s7 = .slice a7 framesL.length c7 ∧ s8 = .pointer (some ⟨b8, 0, none⟩) ∧ Hid (GCb l k a7 ao co w wx b8) ∧ Hid (∀ g o, a7 = some ⟨g, o, none⟩ → g < wx.heap.size))
  case first =>
    first
    | (go_region_held3 (fun Wx => Wx.cell? ⟨w.heap.size, 0, none⟩ = some (.int .i64 l.fs) ∧ Wx.cell? ⟨w.heap.size, 1, none⟩ = some (.slice l.wa l.ws.length l.wc))
        (with_reducible first | exact SP.out _ (Below.refl _ _).drew | exact SP.out _ BA.out | exact SP.out _ B4.out | exact SP.out _ (below_al2 B4.out _) | exact SP.out _ B3.out | exact SP.out _ (below_al2 B3.out _) | exact (G2b.mk1 (co := co) GZ.out Z4).cells)
        (first
          | (go_at_call 81; (with_reducible refine F1.out.mono ?_); rintro e w3 ⟨a7, c7, rfl, hp7, hg7, hb7⟩; have B3 : Hid (Below W0.heap.size W0 w3) := Lib.hid (below_go (Below.refl _ W0).drew hb7); have P7 := Lib.hid (gb_of (LO := w.heap.size) (by first | exact Nat.le_of_lt HLO.out | exact Nat.le_of_lt (Nat.lt_trans HLO.out LZ.out)) hp7); have G7 := Lib.hid hg7; clear hp7 hg7 hb7)
          | (go_at_call 81; (with_reducible refine F2.out.mono ?_); rintro e w3 ⟨a7, c7, rfl, hp7, hg7, hb7⟩; have B3 : Hid (Below W0.heap.size W0 w3) := Lib.hid (below_go BA.out hb7); have P7 := Lib.hid (gb_of (LO := w.heap.size) (by first | exact Nat.le_of_lt HLO.out | exact Nat.le_of_lt (Nat.lt_trans HLO.out LZ.out)) hp7); have G7 := Lib.hid hg7; have Z3 := Blk.alt (p := fun _ => False) ZA.out (Alt.of_below hb7 (fun k hk e => by omega)) id; have L3 := Lib.hid (Nat.lt_of_lt_of_le LZ.out hb7.size); clear hp7 hg7 hb7)
          | (go_at_call 48; (with_reducible refine (ON.out w3 (below_go X.out.bl B3.out)).mono ?_); rintro e w4 ⟨ao, co, rfl, hW, hgo, hb⟩; have B4 : Hid (Below W0.heap.size W0 w4) := Lib.hid (below_go B3.out hb); have GB := Lib.hid (fun b h8 h1 h2 => G2b.of (b := b) P7.out hb hW hgo (X.out.lo B4.out) h8 h1 h2); have GN := Lib.hid (GB.out w4.heap.size (Nat.lt_of_lt_of_le XL.out B4.out.size) (.inr hb.size) (.inr (Nat.le_refl _))); have N4 := Lib.hid hb.size; (try (have GZ := Lib.hid (GB.out W0.heap.size XL.out (.inl LZ.out) (.inl L3.out)); have Z4 := Blk.alt (p := fun _ => False) Z3 (Alt.of_below hb (fun k hk e => by omega)) id; have t0 := Z4.cell 0 rfl; have t1 := Z4.cell 1 rfl; have z0 := Z4.fr 0; have z1 := Z4.fr 1; clear Z3)); clear hW hgo hb)
          | (go_at_call 48; (with_reducible refine (ON.out (w3.alloc (.cells #[.int .i64 0, .slice none 0 0] 24)) (below_go X.out.bl (below_al2 B3.out _))).mono ?_); rintro e w4 ⟨ao, co, rfl, hW, hgo, hb⟩; have B4 : Hid (Below W0.heap.size W0 w4) := Lib.hid (below_go (below_al2 B3.out (.cells #[.int .i64 0, .slice none 0 0] 24)) hb); have N4 := Lib.hid (Nat.le_trans (below_al w3 (.cells #[.int .i64 0, .slice none 0 0] 24)).size hb.size); have GZ := Lib.hid (G2b.of (b := w3.heap.size) P7.out (below_go (below_al w3 (.cells #[.int .i64 0, .slice none 0 0] 24)) hb) hW hgo (X.out.lo B4.out) (Nat.lt_of_lt_of_le XL.out B3.out.size) (.inr (Nat.le_refl _)) (.inl (by simp))); have Z4 := Blk.alt (p := fun _ => False) (Blk.new w3 #[.int .i64 0, .slice none 0 0] 24) (Alt.of_below hb (fun k hk e => by omega)) id; have t0 := Z4.cell 0 rfl; have t1 := Z4.cell 1 rfl; have z0 := Z4.fr 0; have z1 := Z4.fr 1; clear hW hgo hb)))
    | fail "region"
    all_goals
      go_wp2_with fail
      go_meet
      first
      | exact ⟨a7, ao, c7, co, _, rfl, rfl, Lib.hid (G2b.mk2 GN.out), Lib.hid fun g o e => Nat.lt_of_lt_of_le (Nat.lt_of_lt_of_le (G7.out g o e) N4.out) (by simp)⟩
      | exact ⟨a7, ao, c7, co, _, rfl, rfl, Lib.hid (G2b.mk1 GZ.out Z4), Lib.hid fun g o e => Nat.lt_of_lt_of_le (Nat.lt_of_lt_of_le (G7.out g o e) N4.out) (by simp [World.setCell])⟩
  case rest =>
    obtain ⟨a7, ao, c7, co, b8, rfl, rfl, hC, hg7⟩ := hcut
    clear SP XL HLO BA ZA F1 F2 FR ON X k0 k1
    rw [frames_len]
    obtain ⟨WC, hWC⟩ : ∃ WC, WC = wc := ⟨_, rfl⟩
    subst hWC
    have O0 := Lib.hid (show OwnLL 25 WC.heap.size w.heap.size WC (.slice none 0 0) (rowsV ((framesL.take 0).filter Fp)) from OwnLL.nil _ _ _ _)
    have S0 := Lib.hid (Below.refl WC.heap.size WC)
    go_wp2_with fail
    go_loopg [9, 10] 66 (fun g s9 s10 wx => ∃ (i : Nat) (v : Value), i ≤ 66 ∧ g = 66 - i ∧ s10 = .int .i64 (i : Int) ∧ v = s9 ∧ Hid (OwnLL 25 WC.heap.size w.heap.size wx v (rowsV ((framesL.take i).filter Fp))) ∧ Hid (Below WC.heap.size WC wx))
    case atStart => exact ⟨0, _, by omega, by omega, rfl, rfl, O0, S0⟩
    case round =>
      obtain ⟨i, v, hi, rfl, rfl, rfl, hO, hS⟩ := hrel
      clear O0 S0
      by_cases hlt : i < 66
      · have hz0 : (0 : Int) ≤ (i : Int) := by omega
        have hz1 : (i : Int) < 66 := by omega
        have e2 : IntKind.i64.wrap ((i : Int) + 1) = (i : Int) + 1 := IntWalk.i64_in _ (by omega)
        have E2 := Lib.hid e2
        have HI := Lib.hid hlt
        obtain ⟨row, hrow⟩ : ∃ row, framesL[i]? = some row := ⟨framesL[i]'(by rw [frames_len]; exact hlt), List.getElem?_eq_getElem _⟩
        have hmem := List.mem_of_getElem? hrow
        obtain ⟨g, o, a', c', rfl, q1, q2, q3⟩ := hC.out.g i row hrow
        have HGR3 := Lib.hid q3
        clear q3
        have hne := (frames_in hmem).1
        have HGA : Hid (∀ g o, a' = some ⟨g, o, none⟩ → g < WC.heap.size) := Lib.hid fun g o e => by
          cases row with
          | nil => exact absurd rfl hne
          | cons x xs =>
            obtain ⟨g', o', e', r1⟩ := q2 0 x rfl
            rw [e] at e'
            cases e'
            exact cell_lt r1
        have CX := Lib.hid (hC.out.lo hS.out)
        have c1 := cell_lo hS.out q1
        have I1 := Lib.hid (q2.lo hS.out)
        have k0 := CX.out.k8.cell 0 (show _ = some (Value.int .i64 1) from rfl)
        have k1 := CX.out.k8.cell 1 (show _ = some (Value.slice ao (onlyW l.ws k).length co) from rfl)
        have BN := Lib.hid (below_al wr (.cells #[.slice a' row.length c'] 25)).drew
        have GN : GAt (wr.alloc (.cells #[.slice a' row.length c'] 25)).drew (some ⟨wr.heap.size, 0, none⟩) [row] := fun j r hj => by
          match j, hj with
          | 0, hj =>
            simp at hj
            subst hj
            exact ⟨wr.heap.size, 0, a', c', rfl, (Blk.alt (p := fun _ => False) (Blk.new wr #[.slice a' row.length c'] 25) (Alt.refl _ _).drew id).cell 0 rfl, I1.out.lo BN.out⟩
        have FC := Lib.hid (FT.out row ao (some ⟨wr.heap.size, 0, none⟩) co 1 (wr.alloc (.cells #[.slice a' row.length c'] 25)).drew (below_go CX.out.bx.bl BN.out) (CX.out.ws.lo BN.out) hmem GN)
        rw [HFP.out row] at FC
        have HTK := Lib.hid (show (framesL.take (i + 1)).filter Fp = if Fp row = true then (framesL.take i).filter Fp ++ [row] else (framesL.take i).filter Fp by
          rw [take_next hrow, List.filter_append]
          cases h : Fp row <;> simp [List.filter, h])
        generalize Fp row = FB at *
        have SQ := Lib.hid (show ∀ Wx, Below wr.heap.size wr Wx → (Wx.cell? ⟨b8, 0, none⟩ = some (.int .i64 1) ∧ Wx.cell? ⟨b8, 1, none⟩ = some (.slice ao (onlyW l.ws k).length co) ∧ Wx.cell? ⟨g, o + i, none⟩ = some (.slice a' row.length c')) from fun Wx hb => ⟨cell_lo hb k0, cell_lo hb k1, cell_lo hb c1⟩)
        clear hrow hmem q1 q2 hne hlt hi e2 GN
        go_wp2_with fail
        go_cut [28] from 37 (fun s28 wx => s28 = .bool FB ∧ Hid (Below wr.heap.size wr wx))
        case first =>
          first
          | (go_region_held3 (fun Wx => Wx.cell? ⟨b8, 0, none⟩ = some (.int .i64 1) ∧ Wx.cell? ⟨b8, 1, none⟩ = some (.slice ao (onlyW l.ws k).length co) ∧ Wx.cell? ⟨g, o + i, none⟩ = some (.slice a' row.length c'))
              (with_reducible first | exact SQ.out _ (Below.refl _ _).drew | exact SQ.out _ BN.out | exact SQ.out _ B5.out)
              (first | (go_at_call 38; (with_reducible refine FC.out.mono ?_); rintro e w5 ⟨rfl, hb5⟩; have B5 : Hid (Below wr.heap.size wr w5) := Lib.hid (below_go BN.out hb5); clear hb5)))
          | fail "region"
          all_goals
            go_wp2_with fail
            go_meet
            exact ⟨rfl, B5⟩
        case rest =>
          obtain ⟨rfl, hb5⟩ := hcut
          have B6 := Lib.hid (below_go hS.out hb5.out)
          have O6 := hO.out.lo hb5.out
          have c1 := cell_lo hb5.out c1
          have I6 := Lib.hid (I1.out.lo hb5.out)
          clear k0 k1 FC SQ BN
          cases FB
          · have O7 : Hid (OwnLL 25 WC.heap.size w.heap.size wc v (rowsV ((framesL.take (i + 1)).filter Fp))) := Lib.hid (by rw [HTK.out]; exact O6)
            have e2 := E2.out
            clear O6
            go_wp2_with fail
            go_roundg (66 - (i + 1))
            case measure => have := HI.out; omega
            case rel => exact ⟨i + 1, _, by have := HI.out; omega, rfl, by simp, rfl, O7, B6⟩
          · have HTK2 : Hid ((framesL.take (i + 1)).filter Fp = (framesL.take i).filter Fp ++ [row]) := HTK
            have HL := Lib.hid (show (rowsV ((framesL.take i).filter Fp)).length ≤ 66 by
              rw [rowsV_len]
              refine Nat.le_trans (List.length_filter_le _ _) ?_
              rw [List.length_take]; have := HI.out; omega)
            generalize (framesL.take i).filter Fp = xs at *
            obtain ⟨hs, hown, hok⟩ := O6
            have PU := Lib.hid (fun w1 v' hg ho' hloc => llpushb (w1 := w1) (v' := v') (c' := c') hown hok I6.out HGA.out HGR3.out hg ho' hloc)
            have SZ := Lib.hid B6.out.size
            have AB := Lib.hid (fun w1 (hg : (wc.alloc (.cells #[.slice a' row.length c'] 25)).grownBy w1 v.ownBlock) => below_grow (below_go B6.out (below_al wc _)) hg (fun k hk => own_base hown hk))
            rw [← HTK2.out] at PU
            generalize (rowsV xs).length = n at *
            have e2 := E2.out
            clear hok
            go_wp2_with (at_builtin; go_must (refine wpList_append_own_at _ rfl _ _ 63 rfl WC.heap.size 25 i0 _ 1 24 Try.underlying63 hi0 hy0 hy1 hy2 rfl (by decide) v n hs rfl (hown.alloc _) ⟨wc.heap.size, 0, none⟩ 1 1 [.slice a' row.length c'] rfl (by rfl) (cell_one_new _ _ _) (by simp [Value.oneCell']) (by unfold maxLen; have := HL.out; omega) (by have := HL.out; omega) (by have := SZ.out; simp; omega) ?_); intro v' w1 hown' hgrow hnil hloc; have KN := Lib.hid (PU.out w1 v' hgrow hown' hloc); have BN := Lib.hid (AB.out w1 hgrow); clear hown' hgrow hnil hloc)
            clear PU AB hown c1
            go_roundg (66 - (i + 1))
            case measure => have := HI.out; omega
            case rel => exact ⟨i + 1, _, by have := HI.out; omega, rfl, by simp, rfl, KN, BN⟩
      · have hz1 : ¬ (i : Int) < 66 := by omega
        have hi66 : i = 66 := by omega
        rw [hi66, List.take_of_length_le (by rw [frames_len]; omega)] at hO
        obtain ⟨a, c, rfl, h1, h2⟩ := hO.out.out
        have H1 := Lib.hid (GB.of_ll h1 fun row hr => (frames_in (List.mem_filter.1 hr).1).1)
        have HWC := hC.out.bx.bl.size
        have H2 := Lib.hid (show ∀ g o, a = some ⟨g, o, none⟩ → w.heap.size ≤ g ∧ g < wr.heap.size from fun g o e => ⟨Nat.le_trans HWC (h2 g o e).1, (h2 g o e).2⟩)
        clear HWC
        rw [rowsV_len]
        have BE := Lib.hid (below_go hC.out.bx.bl hS.out)
        clear h1 h2 hlt hi hi66 hO
        go_wp2_with fail
        go_returns
        first
        | exact ⟨a, ⟨c, rfl⟩, H1.out, H2.out, BE.out⟩
        | exact ⟨a, c, rfl, H1.out, H2.out, BE.out⟩

end Go.Proofs.Ytbbndcfnpfedpaa
