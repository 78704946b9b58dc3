/- The contract of the reference's Frames. -/
import Derived.Test.YtbbndcfnpfedpaaVb
set_option linter.unusedVariables false
set_option linter.unusedSimpArgs false
namespace Go.Proofs.Ytbbndcfnpfedpaa
open Go.RowKit Go.Shelf

attribute [local go_sem] Oper.semAt_some

theorem info25 : (Try.prog.info? 25).map (fun i => (i.zero, i.size, i.bytes)) = some (some (.slice none 0 0), 1, 24) := by kernel_rfl

def rowsV (G : List (List Int)) : List (List Value) := G.map fun row => row.map (Value.int .i64)
theorem rowsV_len (G : List (List Int)) : (rowsV G).length = G.length := by unfold rowsV; simp
theorem rowsV_snoc (G : List (List Int)) (row : List Int) : rowsV (G ++ [row]) = rowsV G ++ [row.map (Value.int .i64)] := by unfold rowsV; simp
theorem GAt.of_ll {base : Nat} {W : World} {a : Option Addr} {G : List (List Int)} (h : LLAt base W a (rowsV G)) : GAt W a G := fun i row hi => by
  obtain ⟨g, o, a', c', e, h1, h2⟩ := h i (row.map (Value.int .i64)) (by unfold rowsV; rw [List.getElem?_map, hi]; rfl)
  exact ⟨g, o, a', c', e, by simpa using h1, h2.ints⟩

def frS (f s : Nat) : List (List Int) := (List.range s).map fun (j : Nat) => [(f : Int), (j : Int)]
def frF (f : Nat) : List (List Int) := frS f (11 - f)
def frPart (f s : Nat) : List (List Int) := [10] :: ((List.range f).flatMap frF ++ frS f s)
/-- All balls that a frame can have. -/
def framesL : List (List Int) := frPart 10 0
theorem frPart_next (f s : Nat) : frPart f (s + 1) = frPart f s ++ [[(f : Int), (s : Int)]] := by
  unfold frPart frS
  rw [List.range_succ, List.map_append]
  simp
theorem frPart_row (f : Nat) : frPart f (11 - f) = frPart (f + 1) 0 := by
  unfold frPart
  rw [flat_take]
  show _ = [10] :: (((List.range f).flatMap frF ++ frF f) ++ [])
  rw [List.append_nil]; rfl
theorem frPart_len {f s : Nat} (hf : f ≤ 10) (hs : s ≤ 11) : (frPart f s).length ≤ 200 := by
  have key : ∀ f, ((List.range f).flatMap frF).length ≤ 11 * f := fun f => by
    induction f with
    | zero => simp
    | succ f ih => rw [flat_take, List.length_append]; have : (frF f).length = 11 - f := by unfold frF frS; simp
                   omega
  have := key f
  have h2 : (frS f s).length = s := by unfold frS; simp
  unfold frPart
  rw [List.length_cons, List.length_append]
  omega

theorem llpush {w W w1 : World} {v v' : Value} {G : List (List Int)} {hs : List Value} {x y : Int} (hB : Below w.heap.size w W) (ho : W.ownsRow w.heap.size 25 1 v (rowsV G).length hs) (hr : RowsOk w.heap.size W v.ownBlock (rowsV G) hs)
    (hg : ((W.alloc (.cells #[.int .i64 x, .int .i64 y] 3)).alloc (.cells #[.slice (some ⟨W.heap.size, 0, none⟩) 2 2] 25)).grownBy w1 v.ownBlock)
    (ho' : w1.ownsRow w.heap.size 25 1 v' ((rowsV G).length + 1) (hs ++ [.slice (some ⟨W.heap.size, 0, none⟩) 2 2])) (hloc : v'.ownBlock = v.ownBlock ∨ v'.ownBlock = some ((W.alloc (.cells #[.int .i64 x, .int .i64 y] 3)).alloc (.cells #[.slice (some ⟨W.heap.size, 0, none⟩) 2 2] 25)).heap.size) :
    OwnLL 25 w.heap.size w.heap.size w1 v' (rowsV (G ++ [[x, y]])) ∧ Below w.heap.size w w1 := by
  have b2 : Below W.heap.size W ((W.alloc (.cells #[.int .i64 x, .int .i64 y] 3)).alloc (.cells #[.slice (some ⟨W.heap.size, 0, none⟩) 2 2] 25)) := below_al2 (below_al _ _) _
  have k2 : Blk ((W.alloc (.cells #[.int .i64 x, .int .i64 y] 3)).alloc (.cells #[.slice (some ⟨W.heap.size, 0, none⟩) 2 2] 25)) W.heap.size #[.int .i64 x, .int .i64 y] 3 := Blk.alt (p := fun _ => False) (Blk.new W _ _) ((Alt.refl _ _).alloc _) id
  have ho2 := ownsRow_alt ho (Alt.of_below (p := fun _ => False) b2 (fun k hk e => by omega)) (fun _ _ => id)
  have hrow : RowV w.heap.size ((W.alloc (.cells #[.int .i64 x, .int .i64 y] 3)).alloc (.cells #[.slice (some ⟨W.heap.size, 0, none⟩) 2 2] 25)) (some ⟨W.heap.size, 0, none⟩) [.int .i64 x, .int .i64 y] := fun j u hu => by
    refine ⟨W.heap.size, 0, rfl, ?_, hB.size⟩
    match j, hu with
    | 0, hu => simp at hu; subst hu; exact k2.cell 0 rfl
    | 1, hu => simp at hu; subst hu; exact k2.cell 1 rfl
  have hr' : RowsOk w.heap.size _ v.ownBlock [[.int .i64 x, .int .i64 y]] [Value.slice (some ⟨W.heap.size, 0, none⟩) 2 2] := RowsOk.one (c := 2) hrow (fun k hk g o e => by
    cases e
    have := (ho.lt k hk).2
    omega)
  rw [rowsV_snoc]
  refine ⟨OwnLL.push (L' := [[.int .i64 x, .int .i64 y]]) ho2 (hr.lo b2) hr' hg ho' hloc, ?_⟩
  exact below_grow (below_go hB b2) hg (fun k hk => own_base ho hk)

set_option maxRecDepth 100000 in
set_option maxHeartbeats 8000000 in
theorem frames_ref (w : World) : Calls Try.prog 81 #[] w fun e w' => ∃ a c, e = .returned (.slice a framesL.length c) ∧ (∀ (p : Nat → Prop) (Wx : World), (∀ k, w.heap.size ≤ k → k < w'.heap.size → ¬ p k) → Alt p w' Wx → GAt Wx a framesL) ∧ (∀ g o, a = some ⟨g, o, none⟩ → g < w'.heap.size) ∧ Below w.heap.size w w' := by
  obtain ⟨i0, hi0, hy0, hy1, hy2⟩ := info_parts info25
  have O0 := Lib.hid (show OwnLL 25 w.heap.size w.heap.size ((w.alloc (.cells #[.int .i64 10] 3)).alloc (.cells #[.slice (some ⟨w.heap.size, 0, none⟩) 1 1] 25)) (.slice (some ⟨w.heap.size + 1, 0, none⟩) 1 1) (rowsV (frPart 0 0)) from by
    have k0 : Blk ((w.alloc (.cells #[.int .i64 10] 3)).alloc (.cells #[.slice (some ⟨w.heap.size, 0, none⟩) 1 1] 25)) w.heap.size #[.int .i64 10] 3 := Blk.alt (p := fun _ => False) (Blk.new w _ _) ((Alt.refl _ _).alloc _) id
    have k1 : Blk ((w.alloc (.cells #[.int .i64 10] 3)).alloc (.cells #[.slice (some ⟨w.heap.size, 0, none⟩) 1 1] 25)) (w.heap.size + 1) #[.slice (some ⟨w.heap.size, 0, none⟩) 1 1] 25 := by
      have := Blk.new (w.alloc (.cells #[.int .i64 10] 3)) #[.slice (some ⟨w.heap.size, 0, none⟩) 1 1] 25
      rwa [World.size_alloc] at this
    refine ⟨[.slice (some ⟨w.heap.size, 0, none⟩) 1 1], ⟨rfl, .inr ⟨w.heap.size + 1, 1, #[.slice (some ⟨w.heap.size, 0, none⟩) 1 1], rfl, by omega, k1, Nat.le_refl _, by unfold maxLen; omega, rfl, rfl⟩⟩, ?_⟩
    show RowsOk w.heap.size _ (some (w.heap.size + 1)) [[.int .i64 10]] _
    exact RowsOk.one (c := 1) (l := [.int .i64 10]) (fun j u hu => by
      refine ⟨w.heap.size, 0, rfl, ?_, Nat.le_refl _⟩
      match j, hu with
      | 0, hu => simp at hu; subst hu; exact k0.cell 0 rfl) (fun k hk g o e => by cases hk; cases e; omega))
  have B0 := Lib.hid (below_al2 (below_al w (.cells #[.int .i64 10] 3)) (.cells #[.slice (some ⟨w.heap.size, 0, none⟩) 1 1] 25))
  go_enter Try.func81, Try.ntmps81
  go_wp2_with fail
  generalize (w.alloc _).alloc _ = W0 at O0 B0 ⊢
  go_loopg [1, 2] 10 (fun g s1 s2 wx => ∃ (f : Nat) (v : Value), f ≤ 10 ∧ g = 10 - f ∧ s2 = .int .i64 (f : Int) ∧ v = s1 ∧ Hid (OwnLL 25 w.heap.size w.heap.size wx v (rowsV (frPart f 0))) ∧ Hid (Below w.heap.size w wx))
  case atStart => exact ⟨0, _, by omega, by omega, rfl, rfl, O0, B0⟩
  case round =>
    obtain ⟨f, v, hf, rfl, rfl, rfl, hO, hB⟩ := hrel
    clear O0 B0
    by_cases hlt : f < 10
    · have hz1 : (f : Int) < 10 := by omega
      have e1 : IntKind.i64.wrap ((f : Int) + 1) = (f : Int) + 1 := IntWalk.i64_in _ (by omega)
      have HF := Lib.hid hlt
      have E1 := Lib.hid e1
      clear hlt hf e1
      go_wp2_with fail
      go_loopg [1, 3] (12 - f) (fun g s1 s3 wx => ∃ (s : Nat) (v : Value), s ≤ 11 - f ∧ g = 12 - f - s ∧ s3 = .int .i64 (s : Int) ∧ v = s1 ∧ Hid (OwnLL 25 w.heap.size w.heap.size wx v (rowsV (frPart f s))) ∧ Hid (Below w.heap.size w wx))
      case atStart => exact ⟨0, _, by omega, by omega, rfl, rfl, hO, hB⟩
      case round =>
        obtain ⟨s, v, hs, rfl, rfl, rfl, hO, hB⟩ := hrel
        have e0 : IntKind.i64.wrap (10 - (f : Int)) = 10 - (f : Int) := IntWalk.i64_in _ (by have := HF.out; omega)
        by_cases hls : s < 11 - f
        · have hz2 : (s : Int) ≤ 10 - (f : Int) := by omega
          have e2 : IntKind.i64.wrap ((s : Int) + 1) = (s : Int) + 1 := IntWalk.i64_in _ (by omega)
          have HS := Lib.hid hls
          obtain ⟨hs', hown, hok⟩ := hO.out
          have HL := Lib.hid (show (rowsV (frPart f s)).length ≤ 200 by rw [rowsV_len]; exact frPart_len (by have := HF.out; omega) (by omega))
          have HNX := Lib.hid (frPart_next f s)
          have PU := Lib.hid (fun w1 v' hg ho' hloc => llpush (w1 := w1) (v' := v') (x := (f : Int)) (y := (s : Int)) hB.out hown hok hg ho' hloc)
          have SZ := Lib.hid hB.out.size
          rw [← HNX.out] at PU
          generalize (rowsV (frPart f s)).length = n at *
          clear hls hs hok hO
          go_wp2_with (at_builtin; go_must (refine wpList_append_own_at _ rfl _ _ 63 rfl w.heap.size 25 i0 _ 1 24 Try.underlying63 hi0 hy0 hy1 hy2 rfl (by decide) v n hs' rfl ((hown.alloc _).alloc _) ⟨wr.heap.size + 1, 0, none⟩ 1 1 [.slice (some ⟨wr.heap.size, 0, none⟩) 2 2] rfl (by rfl) (by first | exact World.news_of_block (cs := #[.slice (some ⟨wr.heap.size, 0, none⟩) 2 2]) (t := 25) (fr := (0, 0)) (by simpa using heap_alloc_new (wr.alloc _) _) | fail "news") (by simp [Value.oneCell']) (by unfold maxLen; have := HL.out; omega) (by have := HL.out; omega) (by have := SZ.out; simp; omega) ?_); intro v' w1 hown' hgrow hnil hloc; have KN := Lib.hid (PU.out w1 v' hgrow hown' hloc); clear hown' hgrow hnil hloc)
          clear PU hown hB
          go_roundg (12 - f - (s + 1))
          case measure => have := HS.out; omega
          case rel => exact ⟨s + 1, _, by have := HS.out; omega, rfl, by simp, rfl, Lib.hid KN.out.1, Lib.hid KN.out.2⟩
        · have hz2 : ¬ (s : Int) ≤ 10 - (f : Int) := by omega
          have hsf : s = 11 - f := by omega
          have HR := Lib.hid (frPart_row f)
          rw [hsf, HR.out] at hO
          have e1 := E1.out
          clear hsf hls hs
          go_wp2_with fail
          go_roundg (10 - (f + 1))
          case measure => have := HF.out; omega
          case rel => exact ⟨f + 1, _, by have := HF.out; omega, rfl, by simp, rfl, hO, hB⟩
    · have hz1 : ¬ (f : Int) < 10 := by omega
      have hf10 : f = 10 := by omega
      rw [hf10] at hO
      obtain ⟨a, c, rfl, h1, h2⟩ := hO.out.out
      have H1 := Lib.hid (show ∀ (p : Nat → Prop) (Wx : World), (∀ k, w.heap.size ≤ k → k < wr.heap.size → ¬ p k) → Alt p wr Wx → GAt Wx a framesL from fun p Wx hp hA i row hi => by
        obtain ⟨g, o, a', c', e, q1, q2⟩ := h1 i (row.map (Value.int .i64)) (by show (rowsV framesL)[i]? = _; unfold rowsV; rw [List.getElem?_map, hi]; rfl)
        refine ⟨g, o, a', c', e, by have := alt_cell hA q1 (hp g (h2 g o e).1 (cell_lt q1)); simpa using this, fun j x hx => ?_⟩
        obtain ⟨g', o', e', r1, r2⟩ := q2 j (.int .i64 x) (by rw [List.getElem?_map, hx]; rfl)
        exact ⟨g', o', e', alt_cell hA r1 (hp g' r2 (cell_lt r1))⟩)
      have H2 := Lib.hid (show ∀ g o, a = some ⟨g, o, none⟩ → g < wr.heap.size from fun g o e => (h2 g o e).2)
      have HL := Lib.hid (show (rowsV (frPart 10 0)).length = framesL.length by rw [rowsV_len]; rfl)
      rw [HL.out]
      clear h1 h2 hlt hf hf10 hO
      go_wp2_with fail
      go_returns
      first
      | exact ⟨a, ⟨c, rfl⟩, H1.out, H2.out, hB.out⟩
      | exact ⟨a, c, rfl, H1.out, H2.out, hB.out⟩

end Go.Proofs.Ytbbndcfnpfedpaa
