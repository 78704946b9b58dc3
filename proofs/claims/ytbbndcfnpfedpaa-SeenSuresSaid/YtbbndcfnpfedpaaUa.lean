/- The contract of the reference's Only. -/
import Derived.Test.YtbbndcfnpfedpaaTg
set_option linter.unusedVariables false
set_option linter.unusedSimpArgs false
namespace Go.Proofs.Ytbbndcfnpfedpaa
open Go.RowKit

attribute [local go_sem] Oper.semAt_some

theorem info81 : (Try.prog.info? 81).map (fun i => (i.zero, i.size, i.bytes)) = some (some (.agg #[.int .i64 0, .int .i64 0, .int .i64 0, .int .i64 0, .int .i64 0]), 5, 40) := by kernel_rfl

def zeroF (x : Wd) : Wd := { x with fr := 0 }
/-- The words of a frame, as words of the only frame of a lane. -/
def onlyW (ws : List Wd) (k : Int) : List Wd := (ws.filter fun x => x.fr == k).map zeroF
theorem onlyW_snoc (ws : List Wd) (k : Int) (x : Wd) : onlyW (ws ++ [x]) k = if x.fr == k then onlyW ws k ++ [zeroF x] else onlyW ws k := by
  unfold onlyW
  rw [List.filter_append, List.map_append]
  cases h : (x.fr == k) <;> simp [List.filter, h]
theorem onlyW_len (ws : List Wd) (k : Int) : (onlyW ws k).length ≤ ws.length := by
  unfold onlyW; rw [List.length_map]; exact List.length_filter_le _ _

/-- A lane made anew. -/
def NewOnly (l : Lan) (k : Int) (w : World) (e : Ending) (w' : World) : Prop :=
  ∃ a c, e = .returned (Lan.val ⟨1, a, c, onlyW l.ws k⟩) ∧ WdsAt w' a (onlyW l.ws k) ∧ (∀ g o, a = some ⟨g, o, none⟩ → w.heap.size ≤ g ∧ g < w'.heap.size) ∧ Below w.heap.size w w'

/-- What the round stands on: N the box of the argument, N + 1 the result, N + 2 the lane that grows. -/
structure WO (l : Lan) (k : Int) (w W : World) (v : Value) (i : Nat) : Prop where
  bK : Blk W w.heap.size #[.int .i64 l.fs, .slice l.wa l.ws.length l.wc] 24
  bR : Blk W (w.heap.size + 1) #[.int .i64 0, .slice none 0 0] 24
  bO : Blk W (w.heap.size + 1 + 1) #[.int .i64 1, v] 24
  ow : W.ownsRow (w.heap.size + 3) 81 5 v (onlyW (l.ws.take i) k).length (wdCells (onlyW (l.ws.take i) k))
  bl : Below w.heap.size w W
  sz : w.heap.size + 3 ≤ W.heap.size
theorem WO.skip {l : Lan} {k : Int} {w W W' : World} {v : Value} {i : Nat} {x : Wd} (h : WO l k w W v i) (hl : l.ws[i]? = some x) (hx : (x.fr == k) = false) (hb : Below W.heap.size W W') : WO l k w W' v (i + 1) := by
  have hA : Alt (fun _ => False) W W' := Alt.of_below hb (fun k hk e => by omega)
  have e : onlyW (l.ws.take (i + 1)) k = onlyW (l.ws.take i) k := by rw [take_next hl, onlyW_snoc, hx]; rfl
  exact ⟨h.bK.alt hA id, h.bR.alt hA id, h.bO.alt hA id, by rw [e]; exact ownsRow_alt h.ow hA (fun _ _ => id), below_go h.bl hb, Nat.le_trans h.sz hb.size⟩
theorem WO.step {l : Lan} {k : Int} {w W W1 : World} {v v' : Value} {i : Nat} {o o2 : Obj} {x : Wd} (h : WO l k w W v i) (hl : l.ws[i]? = some x) (hx : (x.fr == k) = true)
    (hg : ((W.alloc o).alloc o2).grownBy W1 v.ownBlock) (ho : W1.ownsRow (w.heap.size + 3) 81 5 v' ((onlyW (l.ws.take i) k).length + 1) (wdCells (onlyW (l.ws.take i) k) ++ (zeroF x).cells)) :
    WO l k w (W1.setCell ⟨w.heap.size + 1 + 1, 1, none⟩ v') v' (i + 1) := by
  have hA : Alt (fun k => w.heap.size + 3 ≤ k) W W1 := (((Alt.refl _ W).alloc o).alloc o2).grown hg fun k e => own_base h.ow e
  have hS : Alt (fun k => k = w.heap.size + 1 + 1) W1 (W1.setCell ⟨w.heap.size + 1 + 1, 1, none⟩ v') := (Alt.refl (fun k => k = w.heap.size + 1 + 1) W1).setCell (q := ⟨w.heap.size + 1 + 1, 1, none⟩) rfl _
  have e : onlyW (l.ws.take (i + 1)) k = onlyW (l.ws.take i) k ++ [zeroF x] := by rw [take_next hl, onlyW_snoc, hx]; rfl
  refine ⟨(h.bK.alt hA (by omega)).alt hS (by omega), (h.bR.alt hA (by omega)).alt hS (by omega), ?_, ?_, ?_, ?_⟩
  · exact Blk.setAt (h.bO.alt hA (by omega)) 1 _
  · rw [e, wdCells_snoc, List.length_append]
    exact ownsRow_alt ho hS (fun g hg e => by omega)
  · exact ((Alt.of_below (p := fun k => w.heap.size ≤ k) h.bl (fun k _ e => e)).trans ((hA.mono fun k _ e => by omega).trans (hS.mono fun k _ e => by omega))).below (Nat.le_refl _) fun _ e => e
  · have := h.sz
    have := hA.size
    have := hS.size
    omega

set_option maxRecDepth 100000 in
set_option maxHeartbeats 8000000 in
theorem only_ref (l : Lan) (k : Int) (w : World) (hL : WdsAt w l.wa l.ws) (hn : l.ws.length ≤ 1000) :
    Calls Try.prog 48 #[l.val, .int .i64 k] w (NewOnly l k w) := by
  have HL := Lib.hid hL
  obtain ⟨i0, hi0, hy0, hy1, hy2⟩ := info_parts info81
  have K0 := Lib.hid (show WO l k w (((w.alloc (.cells #[.int .i64 l.fs, .slice l.wa l.ws.length l.wc] 24)).alloc (.cells #[.int .i64 0, .slice none 0 0] 24)).alloc (.cells #[.int .i64 1, .slice none 0 0] 24)) (.slice none 0 0) 0 from
    ⟨Blk.alt (p := fun _ => False) (Blk.new w _ _) (((Alt.refl _ _).alloc _).alloc _) id, by
      have := Blk.alt (p := fun _ => False) (Blk.new (w.alloc (.cells #[.int .i64 l.fs, .slice l.wa l.ws.length l.wc] 24)) #[.int .i64 0, .slice none 0 0] 24) ((Alt.refl _ _).alloc (.cells #[.int .i64 1, .slice none 0 0] 24)) id
      rwa [World.size_alloc] at this, by
      have := Blk.new ((w.alloc (.cells #[.int .i64 l.fs, .slice l.wa l.ws.length l.wc] 24)).alloc (.cells #[.int .i64 0, .slice none 0 0] 24)) #[.int .i64 1, .slice none 0 0] 24
      rwa [World.size_alloc, World.size_alloc] at this, ⟨rfl, .inl ⟨rfl, rfl⟩⟩, below_al2 (below_al2 (below_al _ _) _) _, by simp⟩)
  unfold Lan.val
  clear hL
  go_enter Try.func48, Try.ntmps48
  go_wp2_with fail
  generalize ((w.alloc _).alloc _).alloc _ = W0 at K0 ⊢
  go_loopg [6] l.ws.length (fun g s6 wx => ∃ (i : Nat) (v : Value), i ≤ l.ws.length ∧ g = l.ws.length - i ∧ s6 = .int .i64 (i : Int) ∧ Hid (WO l k w wx v i))
  case atStart => exact ⟨0, _, by omega, by omega, rfl, K0⟩
  case round =>
    obtain ⟨i, v, hi, rfl, rfl, hK⟩ := hrel
    clear K0
    have k4 : wr.cell? ⟨w.heap.size, 1, none⟩ = some (.slice l.wa l.ws.length l.wc) := hK.out.bK.cell 1 rfl
    by_cases hlt : i < l.ws.length
    · have hz0 : (0 : Int) ≤ (i : Int) := by omega
      have hz1 : (i : Int) < (l.ws.length : Int) := by omega
      obtain ⟨x, hl⟩ : ∃ x, l.ws[i]? = some x := ⟨l.ws[i]'hlt, List.getElem?_eq_getElem _⟩
      obtain ⟨g, o, hla, k1, k2, k3, k5, k6⟩ := HL.out i _ hl
      have c1 := cell_lo hK.out.bl k1
      have c2 := cell_lo hK.out.bl k2
      have c3 := cell_lo hK.out.bl k3
      have c4 := cell_lo hK.out.bl k5
      have c5 := cell_lo hK.out.bl k6
      have HLl := Lib.hid hl
      rw [hla] at k4
      have HSZ := Lib.hid hK.out.sz
      have HNC : Hid (2 * 1000 ≤ maxLen) := Lib.hid (by unfold maxLen; omega)
      have HOW := Lib.hid hK.out.ow
      have HOL := Lib.hid (show (onlyW (l.ws.take i) k).length ≤ 1000 by have := onlyW_len (l.ws.take i) k; rw [List.length_take] at this; omega)
      have e2 : IntKind.i64.wrap ((i : Int) + 1) = (i : Int) + 1 := IntWalk.i64_in _ (by omega)
      have SK := Lib.hid (fun hx W' hb => hK.out.skip (x := x) (W' := W') hl hx hb)
      have HZF : Hid (zeroF x = ⟨0, x.ba, x.te, x.le, x.mo⟩) := Lib.hid rfl
      have o4 : (wr.alloc (.cells #[.int .i64 0, .int .i64 x.ba, .int .i64 x.te, .int .i64 x.le, .int .i64 x.mo] 81)).cell? ⟨w.heap.size + 1 + 1, 1, none⟩ = some v := alt_cell (p := fun _ => False) ((Alt.refl _ wr).alloc _) (hK.out.bO.cell 1 rfl) id
      have ST := Lib.hid (fun hx W1 v' (hg : ((wr.alloc (.cells #[.int .i64 0, .int .i64 x.ba, .int .i64 x.te, .int .i64 x.le, .int .i64 x.mo] 81)).alloc (.cells #[.int .i64 0, .int .i64 x.ba, .int .i64 x.te, .int .i64 x.le, .int .i64 x.mo] 81)).grownBy W1 v.ownBlock) ho => hK.out.step (x := x) (v' := v') hl hx hg ho)
      have SA := Lib.hid (fun W1 (hg : ((wr.alloc (.cells #[.int .i64 0, .int .i64 x.ba, .int .i64 x.te, .int .i64 x.le, .int .i64 x.mo] 81)).alloc (.cells #[.int .i64 0, .int .i64 x.ba, .int .i64 x.te, .int .i64 x.le, .int .i64 x.mo] 81)).grownBy W1 v.ownBlock) => (⟨(hK.out.bO.alt ((((Alt.refl (fun k => w.heap.size + 3 ≤ k) wr).alloc _).alloc _).grown hg fun k e => own_base hK.out.ow e) (by omega)).fr 1, (hK.out.bO.alt ((((Alt.refl (fun k => w.heap.size + 3 ≤ k) wr).alloc _).alloc _).grown hg fun k e => own_base hK.out.ow e) (by omega)).cell 1 rfl⟩ : W1.frozen? ⟨w.heap.size + 1 + 1, 1, none⟩ = false ∧ W1.cell? ⟨w.heap.size + 1 + 1, 1, none⟩ = some v))
      have HBA := Lib.hid (fun o => below_al wr o)
      rw [HZF.out] at ST
      clear k1 k2 k3 k5 k6 hl hla
      obtain ⟨fr, ba, te, le, mo⟩ := x
      simp only at c1 c2 c3 c4 c5 o4 ST SA SK
      by_cases hfr : fr = k
      · subst hfr
        have ST2 := Lib.hid (ST.out (by simp))
        generalize onlyW (l.ws.take i) fr = xs at *
        clear ST SK
        go_wp2_with (at_builtin; go_must (refine wpList_append_own_at _ rfl _ _ 22 rfl (w.heap.size + 3) 81 i0 _ 5 40 Try.underlying22 hi0 hy0 hy1 hy2 rfl (by decide) v xs.length (wdCells xs) rfl ((HOW.out.alloc _).alloc _) ⟨wr.heap.size + 1, 0, none⟩ 1 1 (Wd.cells ⟨0, ba, te, le, mo⟩) rfl (by rfl) (by first | exact World.news_of_block (cs := #[.int .i64 0, .int .i64 ba, .int .i64 te, .int .i64 le, .int .i64 mo]) (t := 81) (fr := (0, 0)) (by simpa using heap_alloc_new (wr.alloc _) _) | fail "news") (by simp [Value.oneCell', Wd.cells]) (by have := HNC.out; have := HOL.out; omega) (by have := HOL.out; omega) (by have := HSZ.out; simp; omega) ?_); intro v' w1 hown' hgrow hnil hloc; obtain ⟨gA, capA, hvA, _, _⟩ := hown'.form (by omega); subst hvA; have KN := Lib.hid (ST2.out w1 _ hgrow hown'); have zA := (SA.out w1 hgrow).1; have cA := (SA.out w1 hgrow).2; clear hown' hgrow hnil hloc)
        generalize World.setCell _ _ _ = w2 at KN ⊢
        clear zA cA c1 c2 c3 c4 c5 k4 o4 hK HOW
        go_wp2_with fail
        go_roundg (l.ws.length - (i + 1))
        case measure => omega
        case rel => exact ⟨i + 1, _, by omega, rfl, by simp, KN⟩
      · have hfr2 : (fr == k) = false := by simpa using hfr
        have KN := Lib.hid (SK.out hfr2 _ (HBA.out (.cells #[.int .i64 fr, .int .i64 ba, .int .i64 te, .int .i64 le, .int .i64 mo] 81)))
        clear hfr o4 ST SA SK hK
        go_wp2_with fail
        go_roundg (l.ws.length - (i + 1))
        case measure => omega
        case rel => exact ⟨i + 1, _, by omega, rfl, by simp, KN⟩
    · have hz1 : ¬ (i : Int) < (l.ws.length : Int) := by omega
      have KE := hK.out
      obtain rfl : i = l.ws.length := by omega
      have ow := KE.ow
      rw [List.take_length] at ow
      obtain ⟨a, c, rfl, hLL, hg⟩ : ∃ a c, v = .slice a (onlyW l.ws k).length c ∧ WdsAt wr a (onlyW l.ws k) ∧ ∀ g o, a = some ⟨g, o, none⟩ → w.heap.size + 3 ≤ g ∧ g < wr.heap.size := by
        by_cases h0 : 0 < (onlyW l.ws k).length
        · obtain ⟨g, cap, rfl, hb, hl⟩ := ow.form h0
          refine ⟨some ⟨g, 0, none⟩, cap, rfl, ?_, fun g' o e => by cases e; exact ⟨hb, hl⟩⟩
          intro i x hi
          obtain ⟨k1, k2, k3, k4, k5⟩ := wdCells_at _ i x hi
          have hc : ∀ j u, (wdCells (onlyW l.ws k))[j]? = some u → wr.cell? ⟨g, j, none⟩ = some u := fun j u hj => (ow.cellAt j (by have := (List.getElem?_eq_some_iff.1 hj).1; have := ow.1; omega)).trans hj
          exact ⟨g, 0, rfl, by rw [Nat.zero_add]; exact hc _ _ k1, by rw [Nat.zero_add]; exact hc _ _ k2, by rw [Nat.zero_add]; exact hc _ _ k3, by rw [Nat.zero_add]; exact hc _ _ k4, by rw [Nat.zero_add]; exact hc _ _ k5⟩
        · have he : onlyW l.ws k = [] := List.eq_nil_of_length_eq_zero (by omega)
          rw [he] at ow ⊢
          rcases ow.2 with ⟨rfl, _⟩ | ⟨g, cap, cur, rfl, hb, hg, _⟩
          · exact ⟨none, 0, rfl, fun i l h => by simp at h, fun g o e => by cases e⟩
          · refine ⟨some ⟨g, 0, none⟩, cap, rfl, fun i l h => by simp at h, fun g' o e => by cases e; exact ⟨hb, (Array.getElem?_eq_some_iff.1 hg).1⟩⟩
      have BL := Lib.hid KE.bl
      have HLL := Lib.hid hLL
      have HG := Lib.hid hg
      have bR := KE.bR
      have bO := KE.bO
      have q0 : wr.cell? ⟨w.heap.size + 1 + 1, 0, none⟩ = some (.int .i64 1) := bO.cell 0 rfl
      have q1 : wr.cell? ⟨w.heap.size + 1 + 1, 1, none⟩ = some (.slice a (onlyW l.ws k).length c) := bO.cell 1 rfl
      have t0 : wr.cell? ⟨w.heap.size + 1, 0, none⟩ = some (.int .i64 0) := bR.cell 0 rfl
      have t1 : wr.cell? ⟨w.heap.size + 1, 1, none⟩ = some (.slice none 0 0) := bR.cell 1 rfl
      have f0 := bR.fr 0
      have f1 := bR.fr 1
      have PT := Lib.hid (bR.put2 (.int .i64 1) (.slice a (onlyW l.ws k).length c))
      clear hLL hg bR bO KE hK ow hlt
      go_wp2_with fail
      have pt := PT.out
      generalize World.setCell _ _ _ = X at pt ⊢
      have h0 := pt.1.cell 0 (show _ = some (Value.int .i64 1) from rfl)
      have h1 := pt.1.cell 1 (show _ = some (Value.slice a (onlyW l.ws k).length c) from rfl)
      have hN : NewOnly l k w (.returned (.agg #[.int .i64 1, .slice a (onlyW l.ws k).length c])) X := by
        refine ⟨a, c, rfl, HLL.out.alt pt.2 (fun g o e h => by have := HG.out g o e; omega), fun g o e => ⟨by have := (HG.out g o e).1; omega, Nat.lt_of_lt_of_le (HG.out g o e).2 pt.2.size⟩, ?_⟩
        exact ((Alt.of_below (p := fun k => w.heap.size ≤ k) BL.out (fun k hk e => e)).trans (pt.2.mono fun k _ e => by omega)).below (Nat.le_refl _) fun _ e => e
      exact bodyPost_ret (v := .agg #[.int .i64 1, .slice a (onlyW l.ws k).length c]) (by simp [results, Try.results48, go_sem, h0, h1]) rfl hN

end Go.Proofs.Ytbbndcfnpfedpaa
