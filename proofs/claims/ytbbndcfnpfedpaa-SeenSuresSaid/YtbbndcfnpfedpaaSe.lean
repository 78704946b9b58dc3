/- The contract of the law's Lane: the lane made anew. -/
import Derived.Test.YtbbndcfnpfedpaaSd
set_option linter.unusedVariables false
set_option linter.unusedSimpArgs false
namespace Go.Proofs.Ytbbndcfnpfedpaa
open Go.RowKit

attribute [local go_sem] Oper.semAt_some

theorem info70 : (Try.prog.info? 70).map (fun i => (i.zero, i.size, i.bytes)) = some (some (.agg #[.int .i64 0, .int .i64 0, .int .i64 0, .int .i64 0, .int .i64 0]), 5, 40) := by kernel_rfl

def Wd.cells (x : Wd) : List Value := [.int .i64 x.fr, .int .i64 x.ba, .int .i64 x.te, .int .i64 x.le, .int .i64 x.mo]
def wdCells (L : List Wd) : List Value := L.flatMap Wd.cells
theorem wdCells_snoc (L : List Wd) (x : Wd) : wdCells (L ++ [x]) = wdCells L ++ x.cells := by unfold wdCells; simp
theorem wdCells_at : ∀ (L : List Wd) (i : Nat) (b : Wd), L[i]? = some b → (wdCells L)[i * 5]? = some (.int .i64 b.fr) ∧ (wdCells L)[i * 5 + 1]? = some (.int .i64 b.ba) ∧ (wdCells L)[i * 5 + 2]? = some (.int .i64 b.te) ∧ (wdCells L)[i * 5 + 3]? = some (.int .i64 b.le) ∧ (wdCells L)[i * 5 + 4]? = some (.int .i64 b.mo)
  | x :: L, 0, b, h => by simp at h; subst h; exact ⟨rfl, rfl, rfl, rfl, rfl⟩
  | x :: L, i + 1, b, h => by
    have := wdCells_at L i b (by simpa using h)
    have e : wdCells (x :: L) = .int .i64 x.fr :: .int .i64 x.ba :: .int .i64 x.te :: .int .i64 x.le :: .int .i64 x.mo :: wdCells L := rfl
    rw [e, show (i + 1) * 5 = i * 5 + 1 + 1 + 1 + 1 + 1 by omega]
    exact this
theorem wds_new (w : World) (L : List Wd) (t : TypeId) : WdsAt (w.alloc (.cells (wdCells L).toArray t)) (some ⟨w.heap.size, 0, none⟩) L := fun i b hb => by
  obtain ⟨h1, h2, h3, h4, h5⟩ := wdCells_at L i b hb
  exact ⟨w.heap.size, 0, rfl, new_cell w (by rw [Nat.zero_add, List.getElem?_toArray]; exact h1), new_cell w (by rw [Nat.zero_add, List.getElem?_toArray]; exact h2), new_cell w (by rw [Nat.zero_add, List.getElem?_toArray]; exact h3), new_cell w (by rw [Nat.zero_add, List.getElem?_toArray]; exact h4), new_cell w (by rw [Nat.zero_add, List.getElem?_toArray]; exact h5)⟩

theorem WdsAt.alt {w W : World} {a : Option Addr} {L : List Wd} {p : Nat → Prop} (h : WdsAt w a L) (hb : Alt p w W) (hp : ∀ g o, a = some ⟨g, o, none⟩ → ¬ p g) : WdsAt W a L := by
  intro i x hx
  obtain ⟨g, o, e, h1, h2, h3, h4, h5⟩ := h i x hx
  exact ⟨g, o, e, alt_cell hb h1 (hp g o e), alt_cell hb h2 (hp g o e), alt_cell hb h3 (hp g o e), alt_cell hb h4 (hp g o e), alt_cell hb h5 (hp g o e)⟩

/-- A list of words in a row of the call's own reads as such. -/
theorem own_wds {W : World} {base : Nat} {v : Value} {L : List Wd} (h : W.ownsRow base 70 5 v L.length (wdCells L)) : ∃ a c, v = .slice a L.length c ∧ WdsAt W a L ∧ ∀ g o, a = some ⟨g, o, none⟩ → base ≤ g ∧ g < W.heap.size := by
  by_cases h0 : 0 < L.length
  · obtain ⟨g, cap, rfl, hb, hl⟩ := h.form h0
    refine ⟨some ⟨g, 0, none⟩, cap, rfl, ?_, fun g' o e => by cases e; exact ⟨hb, hl⟩⟩
    intro i l hi
    obtain ⟨k1, k2, k3, k4, k5⟩ := wdCells_at L i l hi
    have hc : ∀ j u, (wdCells L)[j]? = some u → W.cell? ⟨g, j, none⟩ = some u := fun j u hj => (h.cellAt j (by have := (List.getElem?_eq_some_iff.1 hj).1; have := h.1; omega)).trans hj
    exact ⟨g, 0, rfl, by rw [Nat.zero_add]; exact hc _ _ k1, by rw [Nat.zero_add]; exact hc _ _ k2, by rw [Nat.zero_add]; exact hc _ _ k3, by rw [Nat.zero_add]; exact hc _ _ k4, by rw [Nat.zero_add]; exact hc _ _ k5⟩
  · have : L = [] := List.eq_nil_of_length_eq_zero (by omega)
    subst this
    rcases h.2 with ⟨rfl, _⟩ | ⟨g, cap, cur, rfl, hb, hg, _⟩
    · exact ⟨none, 0, rfl, fun i l h => by simp at h, fun g o e => by cases e⟩
    · refine ⟨some ⟨g, 0, none⟩, cap, rfl, fun i l h => by simp at h, fun g' o e => by cases e; exact ⟨hb, (Array.getElem?_eq_some_iff.1 hg).1⟩⟩

/-- A lane that the law has made anew. -/
def NewLan (l : Lan) (w : World) (e : Ending) (w' : World) : Prop :=
  ∃ a c, e = .returned (Lan.val { l with wa := a, wc := c }) ∧ WdsAt w' a l.ws ∧ (∀ g o, a = some ⟨g, o, none⟩ → g < w'.heap.size) ∧ Below w.heap.size w w'

/-- What the round stands on: N the box of the argument, N + 1 the result, N + 2 the lane that grows. -/
structure WL (l : Lan) (w W : World) (v : Value) (i : Nat) : Prop where
  bK : Blk W w.heap.size #[.int .i64 l.fs, .slice l.wa l.ws.length l.wc] 24
  bR : Blk W (w.heap.size + 1) #[.int .i64 0, .slice none 0 0] 32
  bO : Blk W (w.heap.size + 1 + 1) #[.int .i64 l.fs, v] 32
  ow : W.ownsRow (w.heap.size + 3) 70 5 v i (wdCells (l.ws.take i))
  bl : Below w.heap.size w W
  sz : w.heap.size + 3 ≤ W.heap.size
theorem WL.step {l : Lan} {w W W1 : World} {v v' : Value} {i : Nat} {o o2 : Obj} {x : Wd} (h : WL l w W v i) (hl : l.ws[i]? = some x)
    (hg : ((W.alloc o).alloc o2).grownBy W1 v.ownBlock) (ho : W1.ownsRow (w.heap.size + 3) 70 5 v' (i + 1) (wdCells (l.ws.take i) ++ x.cells)) :
    WL l w (W1.setCell ⟨w.heap.size + 1 + 1, 1, none⟩ v') v' (i + 1) := by
  have hA : Alt (fun k => w.heap.size + 3 ≤ k) W W1 := (((Alt.refl _ W).alloc o).alloc o2).grown hg fun k e => own_base h.ow e
  have hS : Alt (fun k => k = w.heap.size + 1 + 1) W1 (W1.setCell ⟨w.heap.size + 1 + 1, 1, none⟩ v') := (Alt.refl (fun k => k = w.heap.size + 1 + 1) W1).setCell (q := ⟨w.heap.size + 1 + 1, 1, none⟩) rfl _
  have e : l.ws.take (i + 1) = l.ws.take i ++ [x] := take_next hl
  refine ⟨(h.bK.alt hA (by omega)).alt hS (by omega), (h.bR.alt hA (by omega)).alt hS (by omega), ?_, ?_, ?_, ?_⟩
  · exact Blk.setAt (h.bO.alt hA (by omega)) 1 _
  · rw [e, wdCells_snoc]
    exact ownsRow_alt ho hS (fun g hg e => by omega)
  · exact ((Alt.of_below (p := fun k => w.heap.size ≤ k) h.bl (fun k _ e => e)).trans ((hA.mono fun k _ e => by omega).trans (hS.mono fun k _ e => by omega))).below (Nat.le_refl _) fun _ e => e
  · have := h.sz
    have := hA.size
    have := hS.size
    omega

set_option maxRecDepth 100000 in
set_option maxHeartbeats 4000000 in
theorem lawLane_any (l : Lan) (w : World) (hL : WdsAt w l.wa l.ws) (hn : l.ws.length ≤ 1000) :
    Calls Try.prog 20 #[l.val] w (NewLan l w) := by
  have HL := Lib.hid hL
  obtain ⟨i0, hi0, hy0, hy1, hy2⟩ := info_parts info70
  have K0 := Lib.hid (show WL l w (((w.alloc (.cells #[.int .i64 l.fs, .slice l.wa l.ws.length l.wc] 24)).alloc (.cells #[.int .i64 0, .slice none 0 0] 32)).alloc (.cells #[.int .i64 l.fs, .slice none 0 0] 32)) (.slice none 0 0) 0 from
    ⟨Blk.alt (p := fun _ => False) (Blk.new w _ _) (((Alt.refl _ _).alloc _).alloc _) id, by
      have := Blk.alt (p := fun _ => False) (Blk.new (w.alloc (.cells #[.int .i64 l.fs, .slice l.wa l.ws.length l.wc] 24)) #[.int .i64 0, .slice none 0 0] 32) ((Alt.refl _ _).alloc (.cells #[.int .i64 l.fs, .slice none 0 0] 32)) id
      rwa [World.size_alloc] at this, by
      have := Blk.new ((w.alloc (.cells #[.int .i64 l.fs, .slice l.wa l.ws.length l.wc] 24)).alloc (.cells #[.int .i64 0, .slice none 0 0] 32)) #[.int .i64 l.fs, .slice none 0 0] 32
      rwa [World.size_alloc, World.size_alloc] at this, ⟨rfl, .inl ⟨rfl, rfl⟩⟩, below_al2 (below_al2 (below_al _ _) _) _, by simp⟩)
  unfold Lan.val
  clear hL
  go_enter Try.func20, Try.ntmps20
  go_wp2_with fail
  generalize ((w.alloc _).alloc _).alloc _ = W0 at K0 ⊢
  go_loopg [4] l.ws.length (fun g s4 wx => ∃ (i : Nat) (v : Value), i ≤ l.ws.length ∧ g = l.ws.length - i ∧ s4 = .int .i64 (i : Int) ∧ Hid (WL l w wx v i))
  case atStart => exact ⟨0, _, by omega, by omega, rfl, K0⟩
  case round =>
    obtain ⟨i, v, hi, rfl, rfl, hK⟩ := hrel
    clear K0
    have k4 : wr.cell? ⟨w.heap.size, 1, none⟩ = some (.slice l.wa l.ws.length l.wc) := hK.out.bK.cell 1 rfl
    by_cases hlt : i < l.ws.length
    · have hz0 : (0 : Int) ≤ (i : Int) := by omega
      have hz1 : (i : Int) < (l.ws.length : Int) := by omega
      obtain ⟨x, hl⟩ : ∃ x, l.ws[i]? = some x := ⟨l.ws[i]'hlt, List.getElem?_eq_getElem _⟩
      obtain ⟨g, o, hla, k1, k2, k3, k5, k6⟩ := HL.out i _ hl
      have c1 := cell_lo hK.out.bl k1
      have c2 := cell_lo hK.out.bl k2
      have c3 := cell_lo hK.out.bl k3
      have c4 := cell_lo hK.out.bl k5
      have c5 := cell_lo hK.out.bl k6
      have HLl := Lib.hid hl
      rw [hla] at k4
      have HSZ := Lib.hid hK.out.sz
      have HNC : Hid (2 * 1000 ≤ maxLen) := Lib.hid (by unfold maxLen; omega)
      have HOW := Lib.hid hK.out.ow
      have HOB := Lib.hid (show ∀ k, v.ownBlock = some k → w.heap.size + 3 ≤ k from fun k e => own_base hK.out.ow e)
      have e2 : IntKind.i64.wrap ((i : Int) + 1) = (i : Int) + 1 := IntWalk.i64_in _ (by omega)
      have o4 : (wr.alloc (.cells #[.int .i64 x.fr, .int .i64 x.ba, .int .i64 x.te, .int .i64 x.le, .int .i64 x.mo] 81)).cell? ⟨w.heap.size + 1 + 1, 1, none⟩ = some v := alt_cell (p := fun _ => False) ((Alt.refl _ wr).alloc _) (hK.out.bO.cell 1 rfl) id
      have ST := Lib.hid (fun W1 v' (hg : ((wr.alloc (.cells #[.int .i64 x.fr, .int .i64 x.ba, .int .i64 x.te, .int .i64 x.le, .int .i64 x.mo] 81)).alloc (.cells #[.int .i64 x.fr, .int .i64 x.ba, .int .i64 x.te, .int .i64 x.le, .int .i64 x.mo] 70)).grownBy W1 v.ownBlock) ho => hK.out.step (x := x) (v' := v') hl hg ho)
      have SA := Lib.hid (fun W1 (hg : ((wr.alloc (.cells #[.int .i64 x.fr, .int .i64 x.ba, .int .i64 x.te, .int .i64 x.le, .int .i64 x.mo] 81)).alloc (.cells #[.int .i64 x.fr, .int .i64 x.ba, .int .i64 x.te, .int .i64 x.le, .int .i64 x.mo] 70)).grownBy W1 v.ownBlock) => (⟨(hK.out.bO.alt ((((Alt.refl (fun k => w.heap.size + 3 ≤ k) wr).alloc _).alloc _).grown hg fun k e => own_base hK.out.ow e) (by omega)).fr 1, (hK.out.bO.alt ((((Alt.refl (fun k => w.heap.size + 3 ≤ k) wr).alloc _).alloc _).grown hg fun k e => own_base hK.out.ow e) (by omega)).cell 1 rfl⟩ : W1.frozen? ⟨w.heap.size + 1 + 1, 1, none⟩ = false ∧ W1.cell? ⟨w.heap.size + 1 + 1, 1, none⟩ = some v))
      clear k1 k2 k3 k5 k6 hl hla
      obtain ⟨fr, ba, te, le, mo⟩ := x
      simp only at c1 c2 c3 c4 c5
      go_wp2_with (at_builtin; go_must (refine wpList_append_own_at _ rfl _ _ 30 rfl (w.heap.size + 3) 70 i0 _ 5 40 Try.underlying30 hi0 hy0 hy1 hy2 rfl (by decide) v i (wdCells (l.ws.take i)) rfl ((HOW.out.alloc _).alloc _) ⟨wr.heap.size + 1, 0, none⟩ 1 1 (Wd.cells ⟨fr, ba, te, le, mo⟩) rfl (by rfl) (by first | exact World.news_of_block (cs := #[.int .i64 fr, .int .i64 ba, .int .i64 te, .int .i64 le, .int .i64 mo]) (t := 70) (fr := (0, 0)) (by simpa using heap_alloc_new (wr.alloc _) _) | fail "news") (by simp [Value.oneCell', Wd.cells]) (by have := HNC.out; omega) (by omega) (by have := HSZ.out; simp; omega) ?_); intro v' w1 hown' hgrow hnil hloc; obtain ⟨gA, capA, hvA, _, _⟩ := hown'.form (by omega); subst hvA; have KN := Lib.hid (ST.out w1 _ hgrow hown'); have zA := (SA.out w1 hgrow).1; have cA := (SA.out w1 hgrow).2; clear hown' hgrow hnil hloc)
      generalize World.setCell _ _ _ = w2 at KN ⊢
      clear zA cA c1 c2 c3 c4 c5 k4 o4 hK HOW
      go_wp2_with fail
      go_roundg (l.ws.length - (i + 1))
      case measure => omega
      case rel => exact ⟨i + 1, _, by omega, rfl, by simp, KN⟩
    · have hz1 : ¬ (i : Int) < (l.ws.length : Int) := by omega
      have KE := hK.out
      obtain rfl : i = l.ws.length := by omega
      have ow := KE.ow
      rw [List.take_length] at ow
      obtain ⟨a, c, rfl, hLL, hg⟩ := own_wds ow
      have BL := Lib.hid KE.bl
      have HLL := Lib.hid hLL
      have HG := Lib.hid hg
      have bR := KE.bR
      have bO := KE.bO
      have q0 : wr.cell? ⟨w.heap.size + 1 + 1, 0, none⟩ = some (.int .i64 l.fs) := bO.cell 0 rfl
      have q1 : wr.cell? ⟨w.heap.size + 1 + 1, 1, none⟩ = some (.slice a l.ws.length c) := bO.cell 1 rfl
      have t0 : wr.cell? ⟨w.heap.size + 1, 0, none⟩ = some (.int .i64 0) := bR.cell 0 rfl
      have f0 := bR.fr 0
      have t1 : wr.cell? ⟨w.heap.size + 1, 1, none⟩ = some (.slice none 0 0) := bR.cell 1 rfl
      have f1 := bR.fr 1
      have AX := Lib.hid (((Alt.refl (fun k => k = w.heap.size + 1) wr).setCell (q := ⟨w.heap.size + 1, 0, none⟩) rfl (.int .i64 l.fs)).setCell (q := ⟨w.heap.size + 1, 1, none⟩) rfl (.slice a l.ws.length c))
      have TX := Lib.hid (Blk.setAt (Blk.setAt bR 0 (.int .i64 l.fs)) 1 (.slice a l.ws.length c))
      clear hK KE ow hLL hg bR bO hlt
      go_wp2_with fail
      have tx := TX.out
      have ax := AX.out
      generalize World.setCell _ _ _ = X at tx ax ⊢
      have h0 : X.cell? ⟨w.heap.size + 1, 0, none⟩ = some (.int .i64 l.fs) := tx.cell 0 rfl
      have h1 : X.cell? ⟨w.heap.size + 1, 1, none⟩ = some (.slice a l.ws.length c) := tx.cell 1 rfl
      clear tx
      refine bodyPost_ret (v := .agg #[.int .i64 l.fs, .slice a l.ws.length c]) (by simp [results, Try.results20, go_sem, h0, h1]) rfl ⟨a, c, rfl, ?_, ?_, ?_⟩
      · exact HLL.out.alt ax fun g o e h => by have := (HG.out g o e).1; omega
      · intro g o e
        exact Nat.lt_of_lt_of_le (HG.out g o e).2 ax.size
      · exact ((Alt.of_below (p := fun k => w.heap.size ≤ k) BL.out (fun k _ e => e)).trans (ax.mono fun k _ e => by omega)).below (Nat.le_refl _) fun _ e => e

end Go.Proofs.Ytbbndcfnpfedpaa
