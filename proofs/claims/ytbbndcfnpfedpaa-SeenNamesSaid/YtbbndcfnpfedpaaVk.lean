/- The contract of the reference's Ranges. -/
import Derived.Test.YtbbndcfnpfedpaaVj
set_option linter.unusedVariables false
set_option linter.unusedSimpArgs false
namespace Go.Proofs.Ytbbndcfnpfedpaa
open Go.RowKit Go.Shelf

attribute [local go_sem] Oper.semAt_some

theorem info45 : (Try.prog.info? 45).map (fun i => (i.zero, i.size, i.bytes)) = some (some (.agg #[.int .i64 0, .int .i64 0]), 2, 16) := by kernel_rfl

/-- Within a frame: the array of the two balls' ranges lies at the end of w2. -/
structure R2 (l : Lan) (w : World) (B : Nat) (w2 W : World) (v : Value) (xs : List (Int × Int)) (cn : Int × Int) (cs : Array Value) : Prop where
  rr : RR l w W v xs cn
  al : Alt (fun k => k < B ∨ w2.heap.size ≤ k) w2 W
  k10 : Blk W w2.heap.size cs 107
  hv : ∀ g, v.ownBlock = some g → g < B ∨ w2.heap.size < g
theorem R2.lo {l : Lan} {w : World} {B : Nat} {w2 W W' : World} {v : Value} {xs : List (Int × Int)} {cn : Int × Int} {cs : Array Value} (h : R2 l w B w2 W v xs cn cs) (hb : Below W.heap.size W W') : R2 l w B w2 W' v xs cn cs :=
  ⟨h.rr.lo hb, h.al.trans (Alt.of_below hb (fun k hk e => .inr (Nat.le_trans h.al.size e))), Blk.alt (p := fun _ => False) h.k10 (Alt.of_below hb (fun k hk e => by omega)) id, h.hv⟩
theorem R2.set {l : Lan} {w : World} {B : Nat} {w2 W : World} {v : Value} {xs : List (Int × Int)} {cn : Int × Int} {cs : Array Value} (h : R2 l w B w2 W v xs cn cs) (h3 : w.heap.size + 3 ≤ w2.heap.size) (hB : B ≤ w2.heap.size) (i : Nat) (u : Value) :
    R2 l w B w2 (W.setCell ⟨w2.heap.size, i, none⟩ u) v xs cn (cs.setIfInBounds i u) := by
  have ha : Alt (fun k => k = w2.heap.size) W (W.setCell ⟨w2.heap.size, i, none⟩ u) := (Alt.refl (fun k => k = w2.heap.size) W).setCell (q := ⟨w2.heap.size, i, none⟩) rfl u
  exact ⟨h.rr.far ha (fun k e => by omega) (fun g e e2 => by have := h.hv g e; omega), h.al.trans (ha.mono fun k _ e => .inr (by omega)), h.k10.setAt i u, h.hv⟩
theorem R2.put0 {l : Lan} {w : World} {B : Nat} {w2 W : World} {v : Value} {xs : List (Int × Int)} {cn : Int × Int} {c0 c1 c2 c3 : Value} (h : R2 l w B w2 W v xs cn #[c0, c1, c2, c3]) (h3 : w.heap.size + 3 ≤ w2.heap.size) (hB : B ≤ w2.heap.size) (x y : Value) :
    R2 l w B w2 ((W.setCell ⟨w2.heap.size, 0, none⟩ x).setCell ⟨w2.heap.size, 1, none⟩ y) v xs cn #[x, y, c2, c3] := (h.set h3 hB 0 x).set h3 hB 1 y
theorem R2.put1 {l : Lan} {w : World} {B : Nat} {w2 W : World} {v : Value} {xs : List (Int × Int)} {cn : Int × Int} {c0 c1 c2 c3 : Value} (h : R2 l w B w2 W v xs cn #[c0, c1, c2, c3]) (h3 : w.heap.size + 3 ≤ w2.heap.size) (hB : B ≤ w2.heap.size) (x y : Value) :
    R2 l w B w2 ((W.setCell ⟨w2.heap.size, 2, none⟩ x).setCell ⟨w2.heap.size, 3, none⟩ y) v xs cn #[c0, c1, x, y] := (h.set h3 hB 2 x).set h3 hB 3 y
theorem R2.push {l : Lan} {w : World} {B : Nat} {w2 W w1 : World} {v v' : Value} {xs : List (Int × Int)} {cn y : Int × Int} {cs : Array Value} {tmp : Obj} (h : R2 l w B w2 W v xs cn cs) (hB : B ≤ w2.heap.size) (hg : (W.alloc tmp).grownBy w1 v.ownBlock)
    (ho : w1.ownsRow (w.heap.size + 3) 45 2 v' (xs.length + 1) (p2Cells xs ++ p2C y)) (hloc : v'.ownBlock = v.ownBlock ∨ v'.ownBlock = some (W.alloc tmp).heap.size) : R2 l w B w2 w1 v' (xs ++ [y]) cn cs := by
  have ha : Alt (fun k => v.ownBlock = some k) W w1 := ((Alt.refl (fun k => v.ownBlock = some k) W).alloc tmp).grown hg (fun k hk => hk)
  have hlo : ∀ k, v.ownBlock = some k → w.heap.size + 3 ≤ k := fun k hk => own_base h.rr.ow hk
  have hk10 := h.k10.lt
  refine ⟨⟨⟨Blk.alt h.rr.bx.b ha (fun e => by have := hlo _ e; omega), ((Alt.of_below (p := fun k => w.heap.size ≤ k) h.rr.bx.bl (fun k _ e => e)).trans (ha.mono fun k _ e => by have := hlo k e; omega)).below (Nat.le_refl _) fun _ e => e⟩,
    Blk.alt h.rr.b1 ha (fun e => by have := hlo _ e; omega), Blk.alt h.rr.b2 ha (fun e => by have := hlo _ e; omega), by rw [p2Cells_snoc, List.length_append]; exact ho⟩,
    h.al.trans (ha.mono fun k _ e => by have := h.hv k e; omega), Blk.alt h.k10 ha (fun e => by have := h.hv _ e; omega), fun g e => ?_⟩
  rcases hloc with e1 | e1
  · exact h.hv g (e1.symm.trans e)
  · rw [e1] at e
    have : (W.alloc tmp).heap.size = g := by simpa using e
    simp at this
    omega
theorem R2.cnt {l : Lan} {w : World} {B : Nat} {w2 W : World} {v : Value} {xs : List (Int × Int)} {cn : Int × Int} {cs : Array Value} (h : R2 l w B w2 W v xs cn cs) (x y : Int) :
    RR l w ((W.setCell ⟨w.heap.size + 1 + 1, 0, none⟩ (.int .i64 x)).setCell ⟨w.heap.size + 1 + 1, 1, none⟩ (.int .i64 y)) v xs (x, y) := by
  obtain ⟨g1, g2⟩ := h.rr.b2.put2 (.int .i64 x) (.int .i64 y)
  exact ⟨⟨Blk.alt h.rr.bx.b g2 (by omega), ((Alt.of_below (p := fun k => w.heap.size ≤ k) h.rr.bx.bl (fun k _ e => e)).trans (g2.mono fun k _ e => by omega)).below (Nat.le_refl _) fun _ e => e⟩, Blk.alt h.rr.b1 g2 (by omega), g1, ownsRow_own h.rr.ow g2 (fun g e e2 => by have := own_base h.rr.ow e; omega)⟩
theorem R2.start {l : Lan} {w wr w2 : World} {v : Value} {xs : List (Int × Int)} {cn : Int × Int} (h : RR l w wr v xs cn) (hb : Below wr.heap.size wr w2) : R2 l w wr.heap.size w2 (w2.alloc (.cells #[.int .i64 0, .int .i64 0, .int .i64 0, .int .i64 0] 107)) v xs cn #[.int .i64 0, .int .i64 0, .int .i64 0, .int .i64 0] :=
  ⟨(h.lo hb).lo (below_al _ _), (Alt.refl _ _).alloc _, Blk.new _ _ _, fun g e => .inl (own_ltS h.ow e).2⟩

theorem R2.dr {l : Lan} {w : World} {B : Nat} {w2 W : World} {v : Value} {xs : List (Int × Int)} {cn : Int × Int} {cs : Array Value} (h : R2 l w B w2 W v xs cn cs) : R2 l w B w2 W.drew v xs cn cs := h.lo (Below.refl _ _).drew
theorem R2.eq0 {l : Lan} {w : World} {B : Nat} {w2 W : World} {v : Value} {xs : List (Int × Int)} {cn : Int × Int} {a b a' b' : Int} {c2 c3 : Value} (h : R2 l w B w2 W v xs cn #[.int .i64 a, .int .i64 b, c2, c3]) (h1 : a = a') (h2 : b = b') : R2 l w B w2 W v xs cn #[.int .i64 a', .int .i64 b', c2, c3] := by subst h1 h2; exact h
theorem R2.eq1 {l : Lan} {w : World} {B : Nat} {w2 W : World} {v : Value} {xs : List (Int × Int)} {cn : Int × Int} {a b a' b' : Int} {c2 c3 : Value} (h : R2 l w B w2 W v xs cn #[c2, c3, .int .i64 a, .int .i64 b]) (h1 : a = a') (h2 : b = b') : R2 l w B w2 W v xs cn #[c2, c3, .int .i64 a', .int .i64 b'] := by subst h1 h2; exact h
theorem RR.res {l : Lan} {w W : World} {v : Value} {xs : List (Int × Int)} {cn : Int × Int} (h : RR l w W v xs cn) (x y : Value) :
    Blk ((W.setCell ⟨w.heap.size + 1, 0, none⟩ x).setCell ⟨w.heap.size + 1, 1, none⟩ y) (w.heap.size + 1) #[x, y] 45 ∧ Below w.heap.size w ((W.setCell ⟨w.heap.size + 1, 0, none⟩ x).setCell ⟨w.heap.size + 1, 1, none⟩ y) ∧ ∀ a, (∀ g o, a = some ⟨g, o, none⟩ → w.heap.size + 3 ≤ g ∧ g < W.heap.size) → P2At W a xs → P2At ((W.setCell ⟨w.heap.size + 1, 0, none⟩ x).setCell ⟨w.heap.size + 1, 1, none⟩ y) a xs := by
  obtain ⟨g1, g2⟩ := h.b1.put2 x y
  exact ⟨g1, ((Alt.of_below (p := fun k => w.heap.size ≤ k) h.bx.bl (fun k _ e => e)).trans (g2.mono fun k _ e => by omega)).below (Nat.le_refl _) fun _ e => e, fun a ha hp => hp.alt g2 (fun g o e e2 => by have := ha g o e; omega)⟩

def arrC (z0 z1 : Int × Int) (j : Nat) : Array Value := match j with
  | 0 => #[.int .i64 0, .int .i64 0, .int .i64 0, .int .i64 0]
  | 1 => #[.int .i64 z0.1, .int .i64 z0.2, .int .i64 0, .int .i64 0]
  | _ => #[.int .i64 z0.1, .int .i64 z0.2, .int .i64 z1.1, .int .i64 z1.2]

set_option maxRecDepth 100000 in
set_option maxHeartbeats 8000000 in
theorem refRanges_any (l : Lan) (ts : List Int) (ta : Option Addr) (tc : Nat) (w : World) (hL : WdsAt w l.wa l.ws) (hX : IntsAt w ta ts) (hm : ts.length ≤ 1000) (hF : faultW l = 0) :
    Calls Try.prog 28 #[l.val, .slice ta ts.length tc] w fun e w' => ∃ a c, e = .returned (.tuple #[.slice a (refG l ts l.fs.toNat).length c, .agg #[.int .i64 (refC l ts l.fs.toNat).1, .int .i64 (refC l ts l.fs.toNat).2]]) ∧ P2At w' a (refG l ts l.fs.toNat) ∧ Below w.heap.size w w' := by
  have hn : l.ws.length ≤ 1000 := by have := fault_len hF; omega
  have hfs := (fault0 hF).2.2
  have hba := fault_ba hF
  have GR := Lib.hid (fun (k : Int) W (hb : Below w.heap.size w W) => games_refb l ts k ta tc W (hL.lo hb) (hX.lo hb) hn hm hba)
  obtain ⟨F, hFN⟩ : ∃ F : Nat, l.fs = (F : Int) := ⟨l.fs.toNat, by omega⟩
  have HF5 := Lib.hid (show F ≤ 5 by omega)
  have HTN : l.fs.toNat = F := by omega
  rw [HTN]
  have HGM := Lib.hid (fun k row (h : row ∈ gamesR l.ws ts k) => (⟨gamesR_in hba h, (frames_in (List.mem_filter.1 h).1).2⟩ : ((0 ≤ behN row 0 ∧ behN row 0 ≤ 10) ∧ 0 ≤ behN row 1 ∧ behN row 1 ≤ 10) ∧ row.length ≤ 2 ∧ ∀ x ∈ row, 0 ≤ x ∧ x ≤ 10))
  have HGL := Lib.hid (fun k => (show (gamesR l.ws ts k).length ≤ 66 by rw [gamesR_len hba]; exact games_len _ _ _))
  have HCI := Lib.hid (fun n => refC_in l ts hba n)
  obtain ⟨i0, hi0, hy0, hy1, hy2⟩ := info_parts info45
  have R0 := Lib.hid (show RR l w (((w.alloc (.cells #[.int .i64 l.fs, .slice l.wa l.ws.length l.wc] 24)).alloc (.cells #[.int .i64 0, .int .i64 0] 45)).alloc (.cells #[.int .i64 0, .int .i64 0] 45)) (.slice none 0 0) (refG l ts 0) (refC l ts 0) from by
    have X := ((BX.mk' l w).lo (below_al _ (.cells #[.int .i64 0, .int .i64 0] 45))).lo (below_al _ (.cells #[.int .i64 0, .int .i64 0] 45))
    refine ⟨X, ?_, ?_, ⟨rfl, .inl ⟨rfl, rfl⟩⟩⟩
    · have := Blk.alt (p := fun _ => False) (Blk.new (w.alloc (.cells #[.int .i64 l.fs, .slice l.wa l.ws.length l.wc] 24)) #[.int .i64 0, .int .i64 0] 45) ((Alt.refl _ _).alloc (.cells #[.int .i64 0, .int .i64 0] 45)) id
      rwa [World.size_alloc] at this
    · have := Blk.new ((w.alloc (.cells #[.int .i64 l.fs, .slice l.wa l.ws.length l.wc] 24)).alloc (.cells #[.int .i64 0, .int .i64 0] 45)) #[.int .i64 0, .int .i64 0] 45
      rwa [World.size_alloc, World.size_alloc] at this)
  have HB0 := Lib.hid (show ∀ W, BX l w W → Blk W w.heap.size #[.int .i64 (F : Int), .slice l.wa l.ws.length l.wc] 24 from fun W h => by have := h.b; rwa [hFN] at this)
  unfold Lan.val at *
  rw [hFN] at GR R0 ⊢
  clear hL hX hm hF hn hfs hba HTN
  go_enter Try.func28, Try.ntmps28
  go_wp2_with fail
  generalize ((w.alloc _).alloc _).alloc _ = W0 at R0 ⊢
  go_loopg [6, 8] F (fun g' s6 s8 wx => ∃ (i : Nat) (v : Value), i ≤ F ∧ g' = F - i ∧ s8 = .int .i64 (i : Int) ∧ v = s6 ∧ Hid (RR l w wx v (refG l ts i) (refC l ts i)))
  case atStart => exact ⟨0, _, by omega, by omega, rfl, rfl, R0⟩
  case round =>
    obtain ⟨i, v, hi, rfl, rfl, rfl, hR⟩ := hrel
    clear R0
    have hbx := HB0.out _ hR.out.bx
    have k0 := hbx.cell 0 (show _ = some (Value.int .i64 (F : Int)) from rfl)
    have k1 := hbx.cell 1 (show _ = some (Value.slice l.wa l.ws.length l.wc) from rfl)
    clear hbx
    by_cases hlt : i < F
    · have hz1 : (i : Int) < (F : Int) := by omega
      have e1 : IntKind.i64.wrap ((i : Int) + 1) = (i : Int) + 1 := IntWalk.i64_in _ (by have := HF5.out; omega)
      have E1 := Lib.hid e1
      have HI := Lib.hid hlt
      clear hlt hi e1
      go_wp2_with fail
      refine (GR.out (i : Int) _ hR.out.bx.bl).mono ?_
      rintro e w2 ⟨a9, c9, rfl, hG, hg9, hb⟩
      have HGA := Lib.hid (fun Wx (hA : Alt (fun k => k < wr.heap.size ∨ w2.heap.size ≤ k) w2 Wx) => (hG.alt hA (fun g o e => (hg9 g o e).1) (fun k h1 h2 e => by omega)).at)
      have S2 := Lib.hid (R2.start hR.out hb)
      have H3 := Lib.hid (show w.heap.size + 3 ≤ w2.heap.size from Nat.le_trans hR.out.size hb.size)
      have HBW := Lib.hid (show wr.heap.size ≤ w2.heap.size from hb.size)
      have HGS := Lib.hid (refG_succ l ts i)
      have HCS := Lib.hid (refC_succ l ts i)
      have HCB := Lib.hid (HCI.out i)
      have HXL := Lib.hid (show (refG l ts i).length ≤ 10 by rw [refG_len]; have := HI.out; have := HF5.out; omega)
      have HGMI := Lib.hid (HGM.out (i : Int))
      have HGLI := Lib.hid (HGL.out (i : Int))
      have HB0' := HB0
      generalize gamesR l.ws ts (i : Int) = G at *
      generalize hxN : refG l ts (i + 1) = xsN at *
      generalize hcN : refC l ts (i + 1) = cnN at *
      have HXN := Lib.hid hxN
      have HCN := Lib.hid hcN
      clear hxN hcN
      generalize refG l ts i = xs0 at *
      generalize refC l ts i = cn at *
      generalize wr.heap.size = B at *
      clear hG hg9 hb k0 k1 hR
      obtain ⟨z0, hz0⟩ : ∃ z, Hid (z = spanZ (G.map fun r => behN r 0)) := ⟨_, Lib.hid rfl⟩
      obtain ⟨z1, hz1'⟩ : ∃ z, Hid (z = spanZ (G.map fun r => behN r 1)) := ⟨_, Lib.hid rfl⟩
      rw [← hz0.out, ← hz1'.out] at HGS
      rw [← hz1'.out] at HCS
      have HZZ := Lib.hid (show (0 ≤ z1.1 ∧ z1.1 ≤ 10) ∧ 0 ≤ z1.2 ∧ z1.2 ≤ 10 by
        rw [hz1'.out]
        refine spanZ_in _ fun n hn => ?_
        obtain ⟨r, hr, rfl⟩ := List.mem_map.1 hn
        exact (HGMI.out r hr).1.2)
      have SA := Lib.hid (show R2 l w B w2 (w2.alloc (.cells #[.int .i64 0, .int .i64 0, .int .i64 0, .int .i64 0] 107)) v (xs0 ++ [z0, z1].take 0) cn (arrC z0 z1 0) from by
        have := S2.out
        show R2 l w B w2 _ v (xs0 ++ []) cn #[.int .i64 0, .int .i64 0, .int .i64 0, .int .i64 0]
        rwa [List.append_nil])
      clear S2
      go_wp2_with fail
      generalize w2.alloc _ = W2 at SA ⊢
      go_loopg [6, 11] 2 (fun g' s6 s11 wx => ∃ (j : Nat) (v : Value), j ≤ 2 ∧ g' = 2 - j ∧ s11 = .int .i64 (j : Int) ∧ v = s6 ∧ Hid (R2 l w B w2 wx v (xs0 ++ [z0, z1].take j) cn (arrC z0 z1 j)))
      case atStart => exact ⟨0, _, by omega, by omega, rfl, rfl, SA⟩
      case round =>
        obtain ⟨j, v, hj, rfl, rfl, rfl, hR⟩ := hrel
        clear SA
        have hjj : j = 0 ∨ j = 1 ∨ j = 2 := by omega
        clear hj
        rcases hjj with rfl | rfl | rfl
        · have hR1 : Hid (R2 l w B w2 wr v xs0 cn #[.int .i64 0, .int .i64 0, .int .i64 0, .int .i64 0]) := Lib.hid (by have := hR.out; first | exact this | (change R2 l w B w2 wr v (xs0 ++ []) cn _ at this; rwa [List.append_nil] at this))
          clear hR
          have r0 := hR1.out.k10.cell 0 rfl
          have r1 := hR1.out.k10.cell 1 rfl
          have f0 := hR1.out.k10.fr 0
          have f1 := hR1.out.k10.fr 1
          have PA := Lib.hid (hR1.out.put0 H3.out HBW.out (.int .i64 10) (.int .i64 0))
          clear hR1
          go_wp2_with fail
          generalize World.setCell _ _ _ = W3 at PA ⊢
          have PB : Hid (R2 l w B w2 W3 v xs0 cn #[.int .i64 (spanZ ((G.take 0).map fun r => behN r 0)).1, .int .i64 (spanZ ((G.take 0).map fun r => behN r 0)).2, .int .i64 0, .int .i64 0]) := PA
          clear PA r0 r1 f0 f1
          go_loopg [12] G.length (fun g' s12 wx => ∃ (k : Nat), k ≤ G.length ∧ g' = G.length - k ∧ s12 = .int .i64 (k : Int) ∧ Hid (R2 l w B w2 wx v xs0 cn #[.int .i64 (spanZ ((G.take k).map fun r => behN r 0)).1, .int .i64 (spanZ ((G.take k).map fun r => behN r 0)).2, .int .i64 0, .int .i64 0]))
          case atStart => exact ⟨0, by omega, by omega, rfl, PB⟩
          case round =>
            obtain ⟨k, hk, rfl, rfl, hK⟩ := hrel
            clear PB
            by_cases hlk : k < G.length
            · have hq0 : (0 : Int) ≤ (k : Int) := by omega
              have hq1 : (k : Int) < (G.length : Int) := by omega
              have e2 : IntKind.i64.wrap ((k : Int) + 1) = (k : Int) + 1 := IntWalk.i64_in _ (by have := HGLI.out; omega)
              have E2 := Lib.hid e2
              have HK := Lib.hid hlk
              obtain ⟨row, hrow⟩ : ∃ row, G[k]? = some row := ⟨G[k]'hlk, List.getElem?_eq_getElem _⟩
              have hmem := HGMI.out row (List.mem_of_getElem? hrow)
              obtain ⟨g, o, a', c', rfl, q1, q2⟩ := HGA.out _ hK.out.al k row hrow
              have BN := Lib.hid (below_al wr (.cells #[.slice a' row.length c'] 25))
              have GN : GAt (wr.alloc (.cells #[.slice a' row.length c'] 25)) (some ⟨wr.heap.size, 0, none⟩) [row] := fun j r hj => by
                match j, hj with
                | 0, hj =>
                  simp at hj
                  subst hj
                  exact ⟨wr.heap.size, 0, a', c', rfl, (Blk.new wr #[.slice a' row.length c'] 25).cell 0 rfl, q2.lo BN.out⟩
              have BH := Lib.hid (show Calls Try.prog 47 #[.slice (some ⟨wr.heap.size, 0, none⟩) 1 1, .int .i64 0, .int .i64 0] (wr.alloc (.cells #[.slice a' row.length c'] 25)) (fun e w' => e = .returned (.int .i64 (behN row 0)) ∧ Below (wr.alloc (.cells #[.slice a' row.length c'] 25)).heap.size (wr.alloc (.cells #[.slice a' row.length c'] 25)) w') from
                behind_ref [row] row 0 0 (some ⟨wr.heap.size, 0, none⟩) 1 _ GN rfl hmem.2.2 (by omega) (by omega) (by simp))
              have HNX := Lib.hid (show spanZ ((G.take (k + 1)).map fun r => behN r 0) = (min (spanZ ((G.take k).map fun r => behN r 0)).1 (behN row 0), max (spanZ ((G.take k).map fun r => behN r 0)).2 (behN row 0)) by
                rw [take_next hrow, List.map_append]; exact spanZ_snoc _ _)
              generalize spanZ ((G.take k).map fun r => behN r 0) = z at *
              generalize behN row 0 = nn at *
              clear hrow hmem q2 GN hlk hk e2
              go_wp2_with fail
              refine BH.out.mono ?_
              rintro e w4 ⟨rfl, hb4⟩
              have K4 := Lib.hid ((hK.out.lo (below_go BN.out hb4)))
              have r0 := K4.out.k10.cell 0 (show _ = some (Value.int .i64 z.1) from rfl)
              have r1 := K4.out.k10.cell 1 (show _ = some (Value.int .i64 z.2) from rfl)
              have f0 := K4.out.k10.fr 0
              have f1 := K4.out.k10.fr 1
              have e2 := E2.out
              clear hb4 q1 hK BH BN
              go_wp2_with fail
              go_still_tail 15, (by kernel_rfl)
              go_wp2_with fail
              all_goals
                go_roundg (G.length - (k + 1))
                case measure => have := HK.out; omega
                case rel => exact ⟨k + 1, by have := HK.out; omega, rfl, by simp, by rw [HNX.out]; exact Lib.hid (R2.eq0 (K4.out.put0 H3.out HBW.out _ _).dr (by simp only; omega) (by simp only; omega))⟩
            · have hq1 : ¬ (k : Int) < (G.length : Int) := by omega
              have hR2 := hK.out
              rw [List.take_of_length_le (by omega), ← hz0.out] at hR2
              have HR2 := Lib.hid hR2
              have r0 := hR2.k10.cell 0 (show _ = some (Value.int .i64 z0.1) from rfl)
              have r1 := hR2.k10.cell 1 (show _ = some (Value.int .i64 z0.2) from rfl)
              have HOW := Lib.hid hR2.rr.ow
              have HSZ := Lib.hid hR2.rr.size
              have HXX := Lib.hid (show xs0.length ≤ 11 by have := HXL.out; omega)
              have PU := Lib.hid (fun w1 v' hg ho hloc => hR2.push (w1 := w1) (v' := v') (y := z0) (tmp := .cells #[.int .i64 z0.1, .int .i64 z0.2] 45) HBW.out hg ho hloc)
              have PU := PU
              clear hR2 hK hlk hk
              go_wp2_with (at_builtin; go_must (refine wpList_append_own_at _ rfl _ _ 44 rfl (w.heap.size + 3) 45 i0 _ 2 16 Try.underlying44 hi0 hy0 hy1 hy2 rfl (by decide) v xs0.length (p2Cells xs0) rfl (HOW.out.alloc _) ⟨wr.heap.size, 0, none⟩ 1 1 (p2C z0) rfl (by rfl) (by first | exact World.news_of_block (cs := #[.int .i64 z0.1, .int .i64 z0.2]) (t := 45) (fr := (0, 0)) (by simpa using heap_alloc_new wr _) | fail "news") (by simp [Value.oneCell', p2C]) (by unfold maxLen; have := HXX.out; omega) (by have := HXX.out; omega) (by have := HSZ.out; simp; omega) ?_); intro v' w1 hown' hgrow hnil hloc; have KN := Lib.hid (PU.out w1 v' hgrow hown' hloc); clear hown' hgrow hnil hloc)
              clear PU HOW r0 r1 HR2
              go_roundg (2 - (0 + 1))
              case measure => omega
              case rel => exact ⟨0 + 1, _, by omega, rfl, by simp, rfl, KN⟩
        · have hR1 : Hid (R2 l w B w2 wr v (xs0 ++ [z0]) cn #[.int .i64 z0.1, .int .i64 z0.2, .int .i64 0, .int .i64 0]) := Lib.hid (by have := hR.out; first | exact this | (change R2 l w B w2 wr v (xs0 ++ []) cn _ at this; rwa [List.append_nil] at this))
          clear hR
          have r0 := hR1.out.k10.cell 2 rfl
          have r1 := hR1.out.k10.cell 3 rfl
          have f0 := hR1.out.k10.fr 2
          have f1 := hR1.out.k10.fr 3
          have PA := Lib.hid (hR1.out.put1 H3.out HBW.out (.int .i64 10) (.int .i64 0))
          clear hR1
          go_wp2_with fail
          generalize World.setCell _ _ _ = W3 at PA ⊢
          have PB : Hid (R2 l w B w2 W3 v (xs0 ++ [z0]) cn #[.int .i64 z0.1, .int .i64 z0.2, .int .i64 (spanZ ((G.take 0).map fun r => behN r 1)).1, .int .i64 (spanZ ((G.take 0).map fun r => behN r 1)).2]) := PA
          clear PA r0 r1 f0 f1
          go_loopg [12] G.length (fun g' s12 wx => ∃ (k : Nat), k ≤ G.length ∧ g' = G.length - k ∧ s12 = .int .i64 (k : Int) ∧ Hid (R2 l w B w2 wx v (xs0 ++ [z0]) cn #[.int .i64 z0.1, .int .i64 z0.2, .int .i64 (spanZ ((G.take k).map fun r => behN r 1)).1, .int .i64 (spanZ ((G.take k).map fun r => behN r 1)).2]))
          case atStart => exact ⟨0, by omega, by omega, rfl, PB⟩
          case round =>
            obtain ⟨k, hk, rfl, rfl, hK⟩ := hrel
            clear PB
            by_cases hlk : k < G.length
            · have hq0 : (0 : Int) ≤ (k : Int) := by omega
              have hq1 : (k : Int) < (G.length : Int) := by omega
              have e2 : IntKind.i64.wrap ((k : Int) + 1) = (k : Int) + 1 := IntWalk.i64_in _ (by have := HGLI.out; omega)
              have E2 := Lib.hid e2
              have HK := Lib.hid hlk
              obtain ⟨row, hrow⟩ : ∃ row, G[k]? = some row := ⟨G[k]'hlk, List.getElem?_eq_getElem _⟩
              have hmem := HGMI.out row (List.mem_of_getElem? hrow)
              obtain ⟨g, o, a', c', rfl, q1, q2⟩ := HGA.out _ hK.out.al k row hrow
              have BN := Lib.hid (below_al wr (.cells #[.slice a' row.length c'] 25))
              have GN : GAt (wr.alloc (.cells #[.slice a' row.length c'] 25)) (some ⟨wr.heap.size, 0, none⟩) [row] := fun j r hj => by
                match j, hj with
                | 0, hj =>
                  simp at hj
                  subst hj
                  exact ⟨wr.heap.size, 0, a', c', rfl, (Blk.new wr #[.slice a' row.length c'] 25).cell 0 rfl, q2.lo BN.out⟩
              have BH := Lib.hid (show Calls Try.prog 47 #[.slice (some ⟨wr.heap.size, 0, none⟩) 1 1, .int .i64 0, .int .i64 1] (wr.alloc (.cells #[.slice a' row.length c'] 25)) (fun e w' => e = .returned (.int .i64 (behN row 1)) ∧ Below (wr.alloc (.cells #[.slice a' row.length c'] 25)).heap.size (wr.alloc (.cells #[.slice a' row.length c'] 25)) w') from
                behind_ref [row] row 0 1 (some ⟨wr.heap.size, 0, none⟩) 1 _ GN rfl hmem.2.2 (by omega) (by omega) (by simp))
              have HNX := Lib.hid (show spanZ ((G.take (k + 1)).map fun r => behN r 1) = (min (spanZ ((G.take k).map fun r => behN r 1)).1 (behN row 1), max (spanZ ((G.take k).map fun r => behN r 1)).2 (behN row 1)) by
                rw [take_next hrow, List.map_append]; exact spanZ_snoc _ _)
              generalize spanZ ((G.take k).map fun r => behN r 1) = z at *
              generalize behN row 1 = nn at *
              clear hrow hmem q2 GN hlk hk e2
              go_wp2_with fail
              refine BH.out.mono ?_
              rintro e w4 ⟨rfl, hb4⟩
              have K4 := Lib.hid ((hK.out.lo (below_go BN.out hb4)))
              have r0 := K4.out.k10.cell 2 (show _ = some (Value.int .i64 z.1) from rfl)
              have r1 := K4.out.k10.cell 3 (show _ = some (Value.int .i64 z.2) from rfl)
              have f0 := K4.out.k10.fr 2
              have f1 := K4.out.k10.fr 3
              have e2 := E2.out
              clear hb4 q1 hK BH BN
              go_wp2_with fail
              go_still_tail 15, (by kernel_rfl)
              go_wp2_with fail
              all_goals
                go_roundg (G.length - (k + 1))
                case measure => have := HK.out; omega
                case rel => exact ⟨k + 1, by have := HK.out; omega, rfl, by simp, by rw [HNX.out]; exact Lib.hid (R2.eq1 (K4.out.put1 H3.out HBW.out _ _).dr (by simp only; omega) (by simp only; omega))⟩
            · have hq1 : ¬ (k : Int) < (G.length : Int) := by omega
              have hR2 := hK.out
              rw [List.take_of_length_le (by omega), ← hz1'.out] at hR2
              have HR2 := Lib.hid hR2
              have r0 := hR2.k10.cell 2 (show _ = some (Value.int .i64 z1.1) from rfl)
              have r1 := hR2.k10.cell 3 (show _ = some (Value.int .i64 z1.2) from rfl)
              have HOW := Lib.hid hR2.rr.ow
              have HSZ := Lib.hid hR2.rr.size
              have HXX := Lib.hid (show (xs0 ++ [z0]).length ≤ 11 by have := HXL.out; simp; omega)
              have PU := Lib.hid (fun w1 v' hg ho hloc => hR2.push (w1 := w1) (v' := v') (y := z1) (tmp := .cells #[.int .i64 z1.1, .int .i64 z1.2] 45) HBW.out hg ho hloc)
              generalize hxs : xs0 ++ [z0] = xs at *
              clear hR2 hK hlk hk
              go_wp2_with (at_builtin; go_must (refine wpList_append_own_at _ rfl _ _ 44 rfl (w.heap.size + 3) 45 i0 _ 2 16 Try.underlying44 hi0 hy0 hy1 hy2 rfl (by decide) v xs.length (p2Cells xs) rfl (HOW.out.alloc _) ⟨wr.heap.size, 0, none⟩ 1 1 (p2C z1) rfl (by rfl) (by first | exact World.news_of_block (cs := #[.int .i64 z1.1, .int .i64 z1.2]) (t := 45) (fr := (0, 0)) (by simpa using heap_alloc_new wr _) | fail "news") (by simp [Value.oneCell', p2C]) (by unfold maxLen; have := HXX.out; omega) (by have := HXX.out; omega) (by have := HSZ.out; simp; omega) ?_); intro v' w1 hown' hgrow hnil hloc; have KN := Lib.hid (PU.out w1 v' hgrow hown' hloc); clear hown' hgrow hnil hloc)
              clear PU HOW r0 r1 HR2
              go_roundg (2 - (1 + 1))
              case measure => omega
              case rel => exact ⟨1 + 1, _, by omega, rfl, by simp, rfl, Lib.hid (by have := KN.out; rw [← hxs, List.append_assoc] at this; exact this)⟩
        · have hR1 : Hid (R2 l w B w2 wr v (xs0 ++ [z0, z1]) cn #[.int .i64 z0.1, .int .i64 z0.2, .int .i64 z1.1, .int .i64 z1.2]) := hR
          clear hR
          have c0 := hR1.out.rr.b2.cell 0 (show _ = some (Value.int .i64 cn.1) from rfl)
          have c1 := hR1.out.rr.b2.cell 1 (show _ = some (Value.int .i64 cn.2) from rfl)
          have f0 := hR1.out.rr.b2.fr 0
          have f1 := hR1.out.rr.b2.fr 1
          have r2 := hR1.out.k10.cell 2 (show _ = some (Value.int .i64 z1.1) from rfl)
          have r3 := hR1.out.k10.cell 3 (show _ = some (Value.int .i64 z1.2) from rfl)
          have hcb := HCB.out
          have hzz := HZZ.out
          have hi5 : (i : Int) < 5 := by have := HI.out; have := HF5.out; omega
          have e2 : IntKind.i64.wrap (cn.1 + 10) = cn.1 + 10 := IntWalk.i64_in _ (by omega)
          have e3 : IntKind.i64.wrap (cn.1 + 10 - z1.2) = cn.1 + 10 - z1.2 := IntWalk.i64_in _ (by omega)
          have e4 : IntKind.i64.wrap (cn.2 + 10) = cn.2 + 10 := IntWalk.i64_in _ (by omega)
          have e5 : IntKind.i64.wrap (cn.2 + 10 - z1.1) = cn.2 + 10 - z1.1 := IntWalk.i64_in _ (by omega)
          have e1 := E1.out
          have XN : Hid (RR l w _ v xsN cnN) := Lib.hid (by rw [HGS.out, HCS.out, List.append_assoc]; exact hR1.out.cnt _ _)
          clear hcb hzz hi5 hR1
          go_wp2_with fail
          generalize World.setCell _ _ _ = X at XN ⊢
          go_roundg (F - (i + 1))
          case measure => have := HI.out; omega
          case rel => exact ⟨i + 1, _, by have := HI.out; omega, rfl, by simp, rfl, by rw [HXN.out, HCN.out]; exact XN⟩
    · have hz1 : ¬ (i : Int) < (F : Int) := by omega
      obtain rfl : i = F := by omega
      obtain ⟨a, c, rfl, hP, hg⟩ := own_p2 hR.out.ow
      generalize hxs : refG l ts i = xs at *
      generalize hcn : refC l ts i = cn at *
      have HP := Lib.hid hP
      have HG := Lib.hid hg
      have c0 := hR.out.b2.cell 0 (show _ = some (Value.int .i64 cn.1) from rfl)
      have c1 := hR.out.b2.cell 1 (show _ = some (Value.int .i64 cn.2) from rfl)
      have r0 := hR.out.b1.cell 0 (show _ = some (Value.int .i64 0) from rfl)
      have r1 := hR.out.b1.cell 1 (show _ = some (Value.int .i64 0) from rfl)
      have f0 := hR.out.b1.fr 0
      have f1 := hR.out.b1.fr 1
      have PT := Lib.hid (hR.out.res (.int .i64 cn.1) (.int .i64 cn.2))
      clear hP hg hlt hi
      go_wp2_with fail
      go_still_tail 3, (by kernel_rfl)
      go_wp2_with fail
      obtain ⟨p1, p2, p3⟩ := PT.out
      have p4 := p3 a HG.out HP.out
      generalize World.setCell _ _ _ = X at p1 p2 p4 ⊢
      have h0 := p1.cell 0 (show _ = some (Value.int .i64 cn.1) from rfl)
      have h1 := p1.cell 1 (show _ = some (Value.int .i64 cn.2) from rfl)
      have h0 : X.drew.cell? ⟨w.heap.size + 1, 0, none⟩ = _ := h0
      have h1 : X.drew.cell? ⟨w.heap.size + 1, 1, none⟩ = _ := h1
      refine bodyPost_ret (v := .tuple #[.slice a xs.length c, .agg #[.int .i64 cn.1, .int .i64 cn.2]]) (by simp [results, Try.results28, go_sem, h0, h1]) rfl ?_
      subst hxs hcn
      exact ⟨a, c, rfl, p4.lo (Below.refl _ _).drew, p2.drew⟩

end Go.Proofs.Ytbbndcfnpfedpaa
