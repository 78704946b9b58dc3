/- The contracts of span, between, ranges. -/
import Derived.Test.YtbbndcfnpfedpaaSm
set_option linter.unusedVariables false
set_option linter.unusedSimpArgs false
namespace Go.Proofs.Ytbbndcfnpfedpaa
open Go.RowKit Go.Shelf

attribute [local go_sem] Oper.semAt_some

def spanStep (r : Int × Int) (n : Int) : Int × Int := (min r.1 n, max r.2 n)
/-- The least and the greatest of some numbers. -/
def spanL : List Int → Int × Int
  | [] => (0, 0)
  | n :: ns => ns.foldl spanStep (n, n)
theorem spanL_snoc {ns : List Int} (h : ns ≠ []) (x : Int) : spanL (ns ++ [x]) = spanStep (spanL ns) x := by
  cases ns with
  | nil => exact absurd rfl h
  | cons n ns => show (ns ++ [x]).foldl spanStep (n, n) = _; rw [List.foldl_append]; rfl
theorem spanL_one (x : Int) : spanL [x] = (x, x) := rfl

theorem Blk.put2 {W : World} {b : Nat} {y0 y1 : Value} {t : TypeId} (h : Blk W b #[y0, y1] t) (x0 x1 : Value) :
    Blk ((W.setCell ⟨b, 0, none⟩ x0).setCell ⟨b, 1, none⟩ x1) b #[x0, x1] t ∧ Alt (fun k => k = b) W ((W.setCell ⟨b, 0, none⟩ x0).setCell ⟨b, 1, none⟩ x1) :=
  ⟨(h.setAt 0 x0).setAt 1 x1, ((Alt.refl (fun k => k = b) W).setCell (q := ⟨b, 0, none⟩) rfl x0).setCell (q := ⟨b, 1, none⟩) rfl x1⟩

theorem own_intsAt {W : World} {base : Nat} {a : Option Addr} {n c : Nat} {xs : List Int} (h : W.ownsRow base 3 1 (.slice a n c) n (xs.map (Value.int .i64))) : IntsAt W a xs ∧ n = xs.length := by
  obtain ⟨h1, h2⟩ := h
  have hn : n = xs.length := by simpa using h1.symm
  refine ⟨?_, hn⟩
  intro i v hv
  rcases h2 with ⟨_, h0⟩ | ⟨g, cap, cur, e1, e2, e3, e4, e5, e6, e7⟩
  · subst h0
    have : xs = [] := List.length_eq_zero_iff.1 hn.symm
    subst this; simp at hv
  · cases e1
    refine ⟨g, 0, rfl, ?_⟩
    have hlt := (List.getElem?_eq_some_iff.1 hv).1
    have : cur.toList[i]? = some (.int .i64 v) := by
      have e8 : (cur.toList.take (n * 1))[i]? = some (Value.int .i64 v) := by rw [e7, List.getElem?_map, hv]; rfl
      rw [List.getElem?_take] at e8
      split at e8
      · exact e8
      · cases e8
    simp only [World.cell?, e3, Nat.zero_add]
    simpa using this

/-- What span stands on: N the result, N + 1 the range. -/
structure SPN (w W : World) (r : Int × Int) : Prop where
  b0 : Blk W w.heap.size #[.int .i64 0, .int .i64 0] 41
  b1 : Blk W (w.heap.size + 1) #[.int .i64 r.1, .int .i64 r.2] 41
  bl : Below w.heap.size w W
theorem SPN.put {w W : World} {r : Int × Int} (h : SPN w W r) (x y : Int) : SPN w ((W.setCell ⟨w.heap.size + 1, 0, none⟩ (.int .i64 x)).setCell ⟨w.heap.size + 1, 1, none⟩ (.int .i64 y)) (x, y) := by
  obtain ⟨h1, h2⟩ := h.b1.put2 (.int .i64 x) (.int .i64 y)
  exact ⟨h.b0.alt h2 (by omega), h1, ((Alt.of_below (p := fun k => w.heap.size ≤ k) h.bl (fun k _ e => e)).trans (h2.mono fun k _ e => by omega)).below (Nat.le_refl _) fun _ e => e⟩

theorem SPN.eq {w W : World} {r : Int × Int} {x0 x1 : Int} (h : SPN w W (x0, x1)) (h0 : x0 = r.1) (h1 : x1 = r.2) : SPN w W r := by
  obtain ⟨a, b⟩ := r
  simp only at h0 h1
  subst h0; subst h1; exact h

set_option maxRecDepth 100000 in
set_option maxHeartbeats 8000000 in
theorem span_any (ns : List Int) (a : Option Addr) (c : Nat) (w : World) (hX : IntsAt w a ns) (hn : ns.length ≤ 1000) :
    Calls Try.prog 80 #[.slice a ns.length c] w fun e w' => e = .returned (.agg #[.int .i64 (spanL ns).1, .int .i64 (spanL ns).2]) ∧ Below w.heap.size w w' := by
  have HX := Lib.hid hX
  obtain ⟨r, hR⟩ : ∃ r, Hid (r = spanL ns) := ⟨_, Lib.hid rfl⟩
  rw [← hR.out]
  have S0 := Lib.hid (show SPN w ((w.alloc (.cells #[.int .i64 0, .int .i64 0] 41)).alloc (.cells #[.int .i64 0, .int .i64 0] 41)) (spanL (ns.take 0)) from
    ⟨Blk.alt (p := fun _ => False) (Blk.new w _ _) ((Alt.refl _ _).alloc _) id, by
      have := Blk.new (w.alloc (.cells #[.int .i64 0, .int .i64 0] 41)) #[.int .i64 0, .int .i64 0] 41
      rwa [World.size_alloc] at this, below_al2 (below_al _ _) _⟩)
  clear hX
  go_enter Try.func80, Try.ntmps80
  go_wp2_with fail
  generalize (w.alloc _).alloc _ = W0 at S0 ⊢
  go_loopg [8] ns.length (fun g s8 wx => ∃ i : Nat, i ≤ ns.length ∧ g = ns.length - i ∧ s8 = .int .i64 (i : Int) ∧ Hid (SPN w wx (spanL (ns.take i))))
  case atStart => exact ⟨0, by omega, by omega, rfl, S0⟩
  case round =>
    obtain ⟨i, hi, rfl, rfl, hS⟩ := hrel
    clear S0
    by_cases hlt : i < ns.length
    · have hz0 : (0 : Int) ≤ (i : Int) := by omega
      have hz1 : (i : Int) < (ns.length : Int) := by omega
      obtain ⟨x, hx⟩ : ∃ x, ns[i]? = some x := ⟨ns[i]'hlt, List.getElem?_eq_getElem _⟩
      obtain ⟨g, o, rfl, k1⟩ := HX.out _ _ hx
      have c1 := cell_lo hS.out.bl k1
      have f0 := hS.out.b1.fr 0
      have f1 := hS.out.b1.fr 1
      have e2 : IntKind.i64.wrap ((i : Int) + 1) = (i : Int) + 1 := IntWalk.i64_in _ (by omega)
      by_cases h0 : i = 0
      · subst h0
        have hN : Hid (spanL (ns.take (0 + 1)) = (x, x)) := Lib.hid (by rw [take_next hx]; rfl)
        have u0 := hS.out.b1.cell 0 rfl
        have u1 := hS.out.b1.cell 1 rfl
        have q0 := (hS.out.put x x).b1.cell 0 (show _ = some (Value.int .i64 x) from rfl)
        have q1 := (hS.out.put x x).b1.cell 1 (show _ = some (Value.int .i64 x) from rfl)
        have g0 := (hS.out.put x x).b1.fr 0
        have g1 := (hS.out.put x x).b1.fr 1
        simp only [Nat.add_zero] at c1
        clear hx k1
        go_wp2_with fail
        all_goals
          go_roundg (ns.length - (0 + 1))
          case measure => omega
          case rel => exact ⟨0 + 1, by omega, rfl, by simp, by rw [hN.out]; exact Lib.hid (SPN.eq ((hS.out.put x x).put _ _) rfl rfl)⟩
      · have hN : Hid (spanL (ns.take (i + 1)) = (min (spanL (ns.take i)).1 x, max (spanL (ns.take i)).2 x)) := Lib.hid (by
          rw [take_next hx, spanL_snoc]
          · rfl
          · intro e; have h9 := congrArg List.length e; rw [List.length_take, List.length_nil] at h9; omega)
        have hi0 : ((i : Int) == 0) = false := by simpa using h0
        generalize spanL (ns.take i) = r at *
        have q0 := hS.out.b1.cell 0 (show _ = some (Value.int .i64 r.1) from rfl)
        have q1 := hS.out.b1.cell 1 (show _ = some (Value.int .i64 r.2) from rfl)
        clear hx k1 h0
        go_wp2_with fail
        all_goals
          go_roundg (ns.length - (i + 1))
          case measure => omega
          case rel => exact ⟨i + 1, by omega, rfl, by simp, by rw [hN.out]; exact Lib.hid (SPN.eq (hS.out.put _ _) (by simp only; omega) (by simp only; omega))⟩
    · have hz1 : ¬ (i : Int) < (ns.length : Int) := by omega
      have hS2 := hS.out
      rw [List.take_of_length_le (by omega), ← hR.out] at hS2
      have q0 := hS2.b1.cell 0 (show _ = some (Value.int .i64 r.1) from rfl)
      have q1 := hS2.b1.cell 1 (show _ = some (Value.int .i64 r.2) from rfl)
      have f0 := hS2.b0.fr 0
      have f1 := hS2.b0.fr 1
      have u0 := hS2.b0.cell 0 rfl
      have u1 := hS2.b0.cell 1 rfl
      have PT := Lib.hid (hS2.b0.put2 (.int .i64 r.1) (.int .i64 r.2))
      have HB := Lib.hid hS2.bl
      clear hS hS2
      go_wp2_with fail
      have pt := PT.out
      generalize World.setCell _ _ _ = X at pt ⊢
      have h0 := pt.1.cell 0 (show _ = some (Value.int .i64 r.1) from rfl)
      have h1 := pt.1.cell 1 (show _ = some (Value.int .i64 r.2) from rfl)
      refine bodyPost_ret (v := .agg #[.int .i64 r.1, .int .i64 r.2]) (by simp [results, Try.results80, go_sem, h0, h1]) rfl ⟨rfl, ?_⟩
      exact ((Alt.of_below (p := fun k => w.heap.size ≤ k) HB.out (fun k _ e => e)).trans (pt.2.mono fun k _ e => by omega)).below (Nat.le_refl _) fun _ e => e

set_option maxHeartbeats 1000000 in
theorem fell_any (a b : Int) (w : World) (h0 : 0 ≤ b) (h1 : b ≤ 10) : Calls Try.prog 59 #[.agg #[.int .i64 a, .int .i64 b]] w fun e w' => e = .returned (.int .i64 (10 - b)) ∧ Below w.heap.size w w' := by
  have B0 := Lib.hid (below_al w (.cells #[.int .i64 a, .int .i64 b] 105))
  have e2 : IntKind.i64.wrap (10 - b) = 10 - b := IntWalk.i64_in _ (by omega)
  go_enter Try.func59, Try.ntmps59
  go_wp2_with fail
  go_returns
  exact ⟨rfl, B0.out⟩

set_option maxRecDepth 100000 in
set_option maxHeartbeats 8000000 in
theorem between_88_any (gs : List (Int × Int)) (a : Option Addr) (c : Nat) (w : World) (hX : P2At w a gs) (hn : gs.length ≤ 1000) :
    Calls Try.prog 58 #[.slice a gs.length c, .func (.func 88) #[] #[]] w fun e w' => e = .returned (.agg #[.int .i64 (spanL (gs.map fun p => p.1)).1, .int .i64 (spanL (gs.map fun p => p.1)).2]) ∧ Below w.heap.size w w' := by
  have HX := Lib.hid hX
  obtain ⟨i0, hi0, hy0, hy1, hy2⟩ := info_parts info3
  have K0 := Lib.hid (Blk.new w #[.int .i64 0, .int .i64 0] 41)
  have B0 := Lib.hid (below_al w (.cells #[.int .i64 0, .int .i64 0] 41))
  obtain ⟨f, hf⟩ : ∃ f : Int × Int → Int, Hid (f = fun p => p.1) := ⟨_, Lib.hid rfl⟩
  have FC : Hid (∀ p ∈ gs, ∀ W, Calls Try.prog 88 #[.agg #[.int .i64 p.1, .int .i64 p.2]] W fun e w' => e = .returned (.int .i64 (f p)) ∧ Below W.heap.size W w') := Lib.hid (fun p hp W => by rw [hf.out]; exact behind1_any p.1 p.2 W)
  have HF := Lib.hid (show (gs.map fun p => p.1) = gs.map f by rw [hf.out])
  rw [HF.out]
  obtain ⟨r, hR⟩ : ∃ r, Hid (r = spanL (gs.map f)) := ⟨_, Lib.hid rfl⟩
  rw [← hR.out]
  clear hX 
  go_enter Try.func58, Try.ntmps58
  go_wp2_with fail
  have O0 := Lib.hid (show (w.alloc (.cells #[.int .i64 0, .int .i64 0] 41)).ownsRow (w.heap.size + 1) 3 1 (.slice none 0 0) 0 ([].map (Value.int .i64)) from ⟨rfl, .inl ⟨rfl, rfl⟩⟩)
  generalize w.alloc _ = W0 at K0 B0 O0 ⊢
  go_loopg [5, 10] gs.length (fun g s5 s10 wx => ∃ (i : Nat) (v : Value), i ≤ gs.length ∧ g = gs.length - i ∧ s10 = .int .i64 (i : Int) ∧ v = s5 ∧ Hid (Blk wx w.heap.size #[.int .i64 0, .int .i64 0] 41) ∧ Hid (Below w.heap.size w wx) ∧ Hid (wx.ownsRow (w.heap.size + 1) 3 1 v i (((gs.take i).map f).map (Value.int .i64))) ∧ Hid (w.heap.size + 1 ≤ wx.heap.size))
  case atStart => exact ⟨0, _, by omega, by omega, rfl, rfl, K0, B0, O0, Lib.hid K0.out.lt⟩
  case round =>
    obtain ⟨i, v, hi, rfl, rfl, rfl, hK, hB, hO, hZ⟩ := hrel
    clear K0 B0 O0
    by_cases hlt : i < gs.length
    · have hz0 : (0 : Int) ≤ (i : Int) := by omega
      have hz1 : (i : Int) < (gs.length : Int) := by omega
      obtain ⟨x, hx⟩ : ∃ x, gs[i]? = some x := ⟨gs[i]'hlt, List.getElem?_eq_getElem _⟩
      obtain ⟨g, o, rfl, k1, k2⟩ := HX.out _ _ hx
      have c1 := cell_lo hB.out k1
      have c2 := cell_lo hB.out k2
      have e2 : IntKind.i64.wrap ((i : Int) + 1) = (i : Int) + 1 := IntWalk.i64_in _ (by omega)
      have FX := Lib.hid (fun W => FC.out x (List.mem_of_getElem? hx) W)
      have HT := Lib.hid (show ((gs.take (i + 1)).map f).map (Value.int .i64) = ((gs.take i).map f).map (Value.int .i64) ++ [.int .i64 (f x)] by rw [take_next hx]; simp)
      have B1 := Lib.hid (below_al2 hB.out (.cells #[.int .i64 x.1, .int .i64 x.2] 105))
      have A1 := Lib.hid (show ∀ p, Alt p wr (wr.alloc (.cells #[.int .i64 x.1, .int .i64 x.2] 105)) from fun p => (Alt.refl _ _).alloc _)
      generalize f x = fx at *
      obtain ⟨p, q⟩ := x
      simp only at *
      clear hx k1 k2
      go_wp2_with fail
      refine (FX.out _).mono ?_
      rintro e w2 ⟨rfl, hb⟩
      have B2 := Lib.hid (below_go B1.out hb)
      have AL := Lib.hid (show ∀ p, Alt p wr w2 from fun p => (A1.out p).trans (Alt.of_below hb (fun k hk e => by omega)))
      have O2 := Lib.hid (ownsRow_alt hO.out (AL.out fun _ => False) (fun _ _ => id))
      have K2 := Lib.hid (Blk.alt hK.out (AL.out fun _ => False) id)
      have Z2 := Lib.hid (Nat.le_trans hZ.out (AL.out fun _ => False).size)
      have AG := Lib.hid (fun w1 (hg : (w2.alloc (.cells #[.int .i64 fx] 3)).grownBy w1 v.ownBlock) => (((Alt.refl (fun k => w.heap.size + 1 ≤ k) w2).alloc (.cells #[.int .i64 fx] 3)).grown hg (fun k e => own_base O2.out e)))
      clear hb c1 c2 hK hB hO hZ A1 B1 AL FX
      go_wp2_with (at_builtin; go_must (refine wpList_append_own_at _ rfl _ _ 25 rfl (w.heap.size + 1) 3 i0 _ 1 8 Try.underlying25 hi0 hy0 hy1 hy2 rfl (by decide) v i (((gs.take i).map f).map (Value.int .i64)) rfl (O2.out.alloc _) ⟨w2.heap.size, 0, none⟩ 1 1 [.int .i64 fx] rfl (by rfl) (cell_one_new _ _ _) (by simp [Value.oneCell']) (by unfold maxLen; omega) (by omega) (by have := Z2.out; simp; omega) ?_); intro v' w1 hown' hgrow hnil hloc; have ON := Lib.hid hown'; have AN := Lib.hid (AG.out w1 hgrow); clear hown' hgrow hnil hloc)
      rw [← HT.out] at ON
      have KN := Lib.hid (Blk.alt K2.out AN.out (by omega))
      have BN := Lib.hid (((Alt.of_below (p := fun k => w.heap.size ≤ k) B2.out (fun k _ e => e)).trans (AN.out.mono fun k _ e => by omega)).below (Nat.le_refl _) fun _ e => e)
      have ZN := Lib.hid (Nat.le_trans Z2.out AN.out.size)
      clear AG O2 K2 B2 Z2 AN
      go_roundg (gs.length - (i + 1))
      case measure => omega
      case rel => exact ⟨i + 1, _, by omega, rfl, by simp, rfl, KN, BN, ON, ZN⟩
    · have hz1 : ¬ (i : Int) < (gs.length : Int) := by omega
      have hO2 := hO.out
      have hiN : i = gs.length := by omega
      rw [hiN, List.take_length] at hO2
      obtain ⟨a, c, rfl⟩ := own_len hO2
      have HI := Lib.hid (own_intsAt hO2).1
      have HLN := Lib.hid (show gs.length = (gs.map f).length by simp)
      have SP := Lib.hid (span_any (gs.map f) a c wr HI.out (by rw [← HLN.out]; exact hn))
      rw [← HLN.out, ← hR.out] at SP
      clear hO hO2 hlt hiN
      go_wp2_with fail
      refine SP.out.mono ?_
      rintro e w2 ⟨rfl, hb⟩
      have B2 := Lib.hid (below_go hB.out hb)
      have K2 := Lib.hid (Blk.alt (p := fun _ => False) hK.out (Alt.of_below hb (fun k hk e => by omega)) id)
      clear hb SP hB hK
      have f0 := K2.out.fr 0
      have f1 := K2.out.fr 1
      have u0 := K2.out.cell 0 rfl
      have u1 := K2.out.cell 1 rfl
      have PT := Lib.hid (K2.out.put2 (.int .i64 r.1) (.int .i64 r.2))
      go_wp2_with fail
      have pt := PT.out
      generalize World.setCell _ _ _ = X at pt ⊢
      have h0 := pt.1.cell 0 (show _ = some (Value.int .i64 r.1) from rfl)
      have h1 := pt.1.cell 1 (show _ = some (Value.int .i64 r.2) from rfl)
      refine bodyPost_ret (v := .agg #[.int .i64 r.1, .int .i64 r.2]) (by simp [results, Try.results58, go_sem, h0, h1]) rfl ⟨rfl, ?_⟩
      exact ((Alt.of_below (p := fun k => w.heap.size ≤ k) B2.out (fun k _ e => e)).trans (pt.2.mono fun k _ e => by omega)).below (Nat.le_refl _) fun _ e => e

set_option maxRecDepth 100000 in
set_option maxHeartbeats 8000000 in
theorem between_89_any (gs : List (Int × Int)) (a : Option Addr) (c : Nat) (w : World) (hX : P2At w a gs) (hn : gs.length ≤ 1000) :
    Calls Try.prog 58 #[.slice a gs.length c, .func (.func 89) #[] #[]] w fun e w' => e = .returned (.agg #[.int .i64 (spanL (gs.map fun p => p.2)).1, .int .i64 (spanL (gs.map fun p => p.2)).2]) ∧ Below w.heap.size w w' := by
  have HX := Lib.hid hX
  obtain ⟨i0, hi0, hy0, hy1, hy2⟩ := info_parts info3
  have K0 := Lib.hid (Blk.new w #[.int .i64 0, .int .i64 0] 41)
  have B0 := Lib.hid (below_al w (.cells #[.int .i64 0, .int .i64 0] 41))
  obtain ⟨f, hf⟩ : ∃ f : Int × Int → Int, Hid (f = fun p => p.2) := ⟨_, Lib.hid rfl⟩
  have FC : Hid (∀ p ∈ gs, ∀ W, Calls Try.prog 89 #[.agg #[.int .i64 p.1, .int .i64 p.2]] W fun e w' => e = .returned (.int .i64 (f p)) ∧ Below W.heap.size W w') := Lib.hid (fun p hp W => by rw [hf.out]; exact behind2_any p.1 p.2 W)
  have HF := Lib.hid (show (gs.map fun p => p.2) = gs.map f by rw [hf.out])
  rw [HF.out]
  obtain ⟨r, hR⟩ : ∃ r, Hid (r = spanL (gs.map f)) := ⟨_, Lib.hid rfl⟩
  rw [← hR.out]
  clear hX 
  go_enter Try.func58, Try.ntmps58
  go_wp2_with fail
  have O0 := Lib.hid (show (w.alloc (.cells #[.int .i64 0, .int .i64 0] 41)).ownsRow (w.heap.size + 1) 3 1 (.slice none 0 0) 0 ([].map (Value.int .i64)) from ⟨rfl, .inl ⟨rfl, rfl⟩⟩)
  generalize w.alloc _ = W0 at K0 B0 O0 ⊢
  go_loopg [5, 10] gs.length (fun g s5 s10 wx => ∃ (i : Nat) (v : Value), i ≤ gs.length ∧ g = gs.length - i ∧ s10 = .int .i64 (i : Int) ∧ v = s5 ∧ Hid (Blk wx w.heap.size #[.int .i64 0, .int .i64 0] 41) ∧ Hid (Below w.heap.size w wx) ∧ Hid (wx.ownsRow (w.heap.size + 1) 3 1 v i (((gs.take i).map f).map (Value.int .i64))) ∧ Hid (w.heap.size + 1 ≤ wx.heap.size))
  case atStart => exact ⟨0, _, by omega, by omega, rfl, rfl, K0, B0, O0, Lib.hid K0.out.lt⟩
  case round =>
    obtain ⟨i, v, hi, rfl, rfl, rfl, hK, hB, hO, hZ⟩ := hrel
    clear K0 B0 O0
    by_cases hlt : i < gs.length
    · have hz0 : (0 : Int) ≤ (i : Int) := by omega
      have hz1 : (i : Int) < (gs.length : Int) := by omega
      obtain ⟨x, hx⟩ : ∃ x, gs[i]? = some x := ⟨gs[i]'hlt, List.getElem?_eq_getElem _⟩
      obtain ⟨g, o, rfl, k1, k2⟩ := HX.out _ _ hx
      have c1 := cell_lo hB.out k1
      have c2 := cell_lo hB.out k2
      have e2 : IntKind.i64.wrap ((i : Int) + 1) = (i : Int) + 1 := IntWalk.i64_in _ (by omega)
      have FX := Lib.hid (fun W => FC.out x (List.mem_of_getElem? hx) W)
      have HT := Lib.hid (show ((gs.take (i + 1)).map f).map (Value.int .i64) = ((gs.take i).map f).map (Value.int .i64) ++ [.int .i64 (f x)] by rw [take_next hx]; simp)
      have B1 := Lib.hid (below_al2 hB.out (.cells #[.int .i64 x.1, .int .i64 x.2] 105))
      have A1 := Lib.hid (show ∀ p, Alt p wr (wr.alloc (.cells #[.int .i64 x.1, .int .i64 x.2] 105)) from fun p => (Alt.refl _ _).alloc _)
      generalize f x = fx at *
      obtain ⟨p, q⟩ := x
      simp only at *
      clear hx k1 k2
      go_wp2_with fail
      refine (FX.out _).mono ?_
      rintro e w2 ⟨rfl, hb⟩
      have B2 := Lib.hid (below_go B1.out hb)
      have AL := Lib.hid (show ∀ p, Alt p wr w2 from fun p => (A1.out p).trans (Alt.of_below hb (fun k hk e => by omega)))
      have O2 := Lib.hid (ownsRow_alt hO.out (AL.out fun _ => False) (fun _ _ => id))
      have K2 := Lib.hid (Blk.alt hK.out (AL.out fun _ => False) id)
      have Z2 := Lib.hid (Nat.le_trans hZ.out (AL.out fun _ => False).size)
      have AG := Lib.hid (fun w1 (hg : (w2.alloc (.cells #[.int .i64 fx] 3)).grownBy w1 v.ownBlock) => (((Alt.refl (fun k => w.heap.size + 1 ≤ k) w2).alloc (.cells #[.int .i64 fx] 3)).grown hg (fun k e => own_base O2.out e)))
      clear hb c1 c2 hK hB hO hZ A1 B1 AL FX
      go_wp2_with (at_builtin; go_must (refine wpList_append_own_at _ rfl _ _ 25 rfl (w.heap.size + 1) 3 i0 _ 1 8 Try.underlying25 hi0 hy0 hy1 hy2 rfl (by decide) v i (((gs.take i).map f).map (Value.int .i64)) rfl (O2.out.alloc _) ⟨w2.heap.size, 0, none⟩ 1 1 [.int .i64 fx] rfl (by rfl) (cell_one_new _ _ _) (by simp [Value.oneCell']) (by unfold maxLen; omega) (by omega) (by have := Z2.out; simp; omega) ?_); intro v' w1 hown' hgrow hnil hloc; have ON := Lib.hid hown'; have AN := Lib.hid (AG.out w1 hgrow); clear hown' hgrow hnil hloc)
      rw [← HT.out] at ON
      have KN := Lib.hid (Blk.alt K2.out AN.out (by omega))
      have BN := Lib.hid (((Alt.of_below (p := fun k => w.heap.size ≤ k) B2.out (fun k _ e => e)).trans (AN.out.mono fun k _ e => by omega)).below (Nat.le_refl _) fun _ e => e)
      have ZN := Lib.hid (Nat.le_trans Z2.out AN.out.size)
      clear AG O2 K2 B2 Z2 AN
      go_roundg (gs.length - (i + 1))
      case measure => omega
      case rel => exact ⟨i + 1, _, by omega, rfl, by simp, rfl, KN, BN, ON, ZN⟩
    · have hz1 : ¬ (i : Int) < (gs.length : Int) := by omega
      have hO2 := hO.out
      have hiN : i = gs.length := by omega
      rw [hiN, List.take_length] at hO2
      obtain ⟨a, c, rfl⟩ := own_len hO2
      have HI := Lib.hid (own_intsAt hO2).1
      have HLN := Lib.hid (show gs.length = (gs.map f).length by simp)
      have SP := Lib.hid (span_any (gs.map f) a c wr HI.out (by rw [← HLN.out]; exact hn))
      rw [← HLN.out, ← hR.out] at SP
      clear hO hO2 hlt hiN
      go_wp2_with fail
      refine SP.out.mono ?_
      rintro e w2 ⟨rfl, hb⟩
      have B2 := Lib.hid (below_go hB.out hb)
      have K2 := Lib.hid (Blk.alt (p := fun _ => False) hK.out (Alt.of_below hb (fun k hk e => by omega)) id)
      clear hb SP hB hK
      have f0 := K2.out.fr 0
      have f1 := K2.out.fr 1
      have u0 := K2.out.cell 0 rfl
      have u1 := K2.out.cell 1 rfl
      have PT := Lib.hid (K2.out.put2 (.int .i64 r.1) (.int .i64 r.2))
      go_wp2_with fail
      have pt := PT.out
      generalize World.setCell _ _ _ = X at pt ⊢
      have h0 := pt.1.cell 0 (show _ = some (Value.int .i64 r.1) from rfl)
      have h1 := pt.1.cell 1 (show _ = some (Value.int .i64 r.2) from rfl)
      refine bodyPost_ret (v := .agg #[.int .i64 r.1, .int .i64 r.2]) (by simp [results, Try.results58, go_sem, h0, h1]) rfl ⟨rfl, ?_⟩
      exact ((Alt.of_below (p := fun k => w.heap.size ≤ k) B2.out (fun k _ e => e)).trans (pt.2.mono fun k _ e => by omega)).below (Nat.le_refl _) fun _ e => e

set_option maxRecDepth 100000 in
set_option maxHeartbeats 8000000 in
theorem between_59_any (gs : List (Int × Int)) (a : Option Addr) (c : Nat) (w : World) (hX : P2At w a gs) (hn : gs.length ≤ 1000) (hq : ∀ p ∈ gs, 0 ≤ p.2 ∧ p.2 ≤ 10) :
    Calls Try.prog 58 #[.slice a gs.length c, .func (.func 59) #[] #[]] w fun e w' => e = .returned (.agg #[.int .i64 (spanL (gs.map fun p => 10 - p.2)).1, .int .i64 (spanL (gs.map fun p => 10 - p.2)).2]) ∧ Below w.heap.size w w' := by
  have HX := Lib.hid hX
  obtain ⟨i0, hi0, hy0, hy1, hy2⟩ := info_parts info3
  have K0 := Lib.hid (Blk.new w #[.int .i64 0, .int .i64 0] 41)
  have B0 := Lib.hid (below_al w (.cells #[.int .i64 0, .int .i64 0] 41))
  obtain ⟨f, hf⟩ : ∃ f : Int × Int → Int, Hid (f = fun p => 10 - p.2) := ⟨_, Lib.hid rfl⟩
  have FC : Hid (∀ p ∈ gs, ∀ W, Calls Try.prog 59 #[.agg #[.int .i64 p.1, .int .i64 p.2]] W fun e w' => e = .returned (.int .i64 (f p)) ∧ Below W.heap.size W w') := Lib.hid (fun p hp W => by rw [hf.out]; exact fell_any p.1 p.2 W (hq p hp).1 (hq p hp).2)
  have HF := Lib.hid (show (gs.map fun p => 10 - p.2) = gs.map f by rw [hf.out])
  rw [HF.out]
  obtain ⟨r, hR⟩ : ∃ r, Hid (r = spanL (gs.map f)) := ⟨_, Lib.hid rfl⟩
  rw [← hR.out]
  clear hX hq
  go_enter Try.func58, Try.ntmps58
  go_wp2_with fail
  have O0 := Lib.hid (show (w.alloc (.cells #[.int .i64 0, .int .i64 0] 41)).ownsRow (w.heap.size + 1) 3 1 (.slice none 0 0) 0 ([].map (Value.int .i64)) from ⟨rfl, .inl ⟨rfl, rfl⟩⟩)
  generalize w.alloc _ = W0 at K0 B0 O0 ⊢
  go_loopg [5, 10] gs.length (fun g s5 s10 wx => ∃ (i : Nat) (v : Value), i ≤ gs.length ∧ g = gs.length - i ∧ s10 = .int .i64 (i : Int) ∧ v = s5 ∧ Hid (Blk wx w.heap.size #[.int .i64 0, .int .i64 0] 41) ∧ Hid (Below w.heap.size w wx) ∧ Hid (wx.ownsRow (w.heap.size + 1) 3 1 v i (((gs.take i).map f).map (Value.int .i64))) ∧ Hid (w.heap.size + 1 ≤ wx.heap.size))
  case atStart => exact ⟨0, _, by omega, by omega, rfl, rfl, K0, B0, O0, Lib.hid K0.out.lt⟩
  case round =>
    obtain ⟨i, v, hi, rfl, rfl, rfl, hK, hB, hO, hZ⟩ := hrel
    clear K0 B0 O0
    by_cases hlt : i < gs.length
    · have hz0 : (0 : Int) ≤ (i : Int) := by omega
      have hz1 : (i : Int) < (gs.length : Int) := by omega
      obtain ⟨x, hx⟩ : ∃ x, gs[i]? = some x := ⟨gs[i]'hlt, List.getElem?_eq_getElem _⟩
      obtain ⟨g, o, rfl, k1, k2⟩ := HX.out _ _ hx
      have c1 := cell_lo hB.out k1
      have c2 := cell_lo hB.out k2
      have e2 : IntKind.i64.wrap ((i : Int) + 1) = (i : Int) + 1 := IntWalk.i64_in _ (by omega)
      have FX := Lib.hid (fun W => FC.out x (List.mem_of_getElem? hx) W)
      have HT := Lib.hid (show ((gs.take (i + 1)).map f).map (Value.int .i64) = ((gs.take i).map f).map (Value.int .i64) ++ [.int .i64 (f x)] by rw [take_next hx]; simp)
      have B1 := Lib.hid (below_al2 hB.out (.cells #[.int .i64 x.1, .int .i64 x.2] 105))
      have A1 := Lib.hid (show ∀ p, Alt p wr (wr.alloc (.cells #[.int .i64 x.1, .int .i64 x.2] 105)) from fun p => (Alt.refl _ _).alloc _)
      generalize f x = fx at *
      obtain ⟨p, q⟩ := x
      simp only at *
      clear hx k1 k2
      go_wp2_with fail
      refine (FX.out _).mono ?_
      rintro e w2 ⟨rfl, hb⟩
      have B2 := Lib.hid (below_go B1.out hb)
      have AL := Lib.hid (show ∀ p, Alt p wr w2 from fun p => (A1.out p).trans (Alt.of_below hb (fun k hk e => by omega)))
      have O2 := Lib.hid (ownsRow_alt hO.out (AL.out fun _ => False) (fun _ _ => id))
      have K2 := Lib.hid (Blk.alt hK.out (AL.out fun _ => False) id)
      have Z2 := Lib.hid (Nat.le_trans hZ.out (AL.out fun _ => False).size)
      have AG := Lib.hid (fun w1 (hg : (w2.alloc (.cells #[.int .i64 fx] 3)).grownBy w1 v.ownBlock) => (((Alt.refl (fun k => w.heap.size + 1 ≤ k) w2).alloc (.cells #[.int .i64 fx] 3)).grown hg (fun k e => own_base O2.out e)))
      clear hb c1 c2 hK hB hO hZ A1 B1 AL FX
      go_wp2_with (at_builtin; go_must (refine wpList_append_own_at _ rfl _ _ 25 rfl (w.heap.size + 1) 3 i0 _ 1 8 Try.underlying25 hi0 hy0 hy1 hy2 rfl (by decide) v i (((gs.take i).map f).map (Value.int .i64)) rfl (O2.out.alloc _) ⟨w2.heap.size, 0, none⟩ 1 1 [.int .i64 fx] rfl (by rfl) (cell_one_new _ _ _) (by simp [Value.oneCell']) (by unfold maxLen; omega) (by omega) (by have := Z2.out; simp; omega) ?_); intro v' w1 hown' hgrow hnil hloc; have ON := Lib.hid hown'; have AN := Lib.hid (AG.out w1 hgrow); clear hown' hgrow hnil hloc)
      rw [← HT.out] at ON
      have KN := Lib.hid (Blk.alt K2.out AN.out (by omega))
      have BN := Lib.hid (((Alt.of_below (p := fun k => w.heap.size ≤ k) B2.out (fun k _ e => e)).trans (AN.out.mono fun k _ e => by omega)).below (Nat.le_refl _) fun _ e => e)
      have ZN := Lib.hid (Nat.le_trans Z2.out AN.out.size)
      clear AG O2 K2 B2 Z2 AN
      go_roundg (gs.length - (i + 1))
      case measure => omega
      case rel => exact ⟨i + 1, _, by omega, rfl, by simp, rfl, KN, BN, ON, ZN⟩
    · have hz1 : ¬ (i : Int) < (gs.length : Int) := by omega
      have hO2 := hO.out
      have hiN : i = gs.length := by omega
      rw [hiN, List.take_length] at hO2
      obtain ⟨a, c, rfl⟩ := own_len hO2
      have HI := Lib.hid (own_intsAt hO2).1
      have HLN := Lib.hid (show gs.length = (gs.map f).length by simp)
      have SP := Lib.hid (span_any (gs.map f) a c wr HI.out (by rw [← HLN.out]; exact hn))
      rw [← HLN.out, ← hR.out] at SP
      clear hO hO2 hlt hiN
      go_wp2_with fail
      refine SP.out.mono ?_
      rintro e w2 ⟨rfl, hb⟩
      have B2 := Lib.hid (below_go hB.out hb)
      have K2 := Lib.hid (Blk.alt (p := fun _ => False) hK.out (Alt.of_below hb (fun k hk e => by omega)) id)
      clear hb SP hB hK
      have f0 := K2.out.fr 0
      have f1 := K2.out.fr 1
      have u0 := K2.out.cell 0 rfl
      have u1 := K2.out.cell 1 rfl
      have PT := Lib.hid (K2.out.put2 (.int .i64 r.1) (.int .i64 r.2))
      go_wp2_with fail
      have pt := PT.out
      generalize World.setCell _ _ _ = X at pt ⊢
      have h0 := pt.1.cell 0 (show _ = some (Value.int .i64 r.1) from rfl)
      have h1 := pt.1.cell 1 (show _ = some (Value.int .i64 r.2) from rfl)
      refine bodyPost_ret (v := .agg #[.int .i64 r.1, .int .i64 r.2]) (by simp [results, Try.results58, go_sem, h0, h1]) rfl ⟨rfl, ?_⟩
      exact ((Alt.of_below (p := fun k => w.heap.size ≤ k) B2.out (fun k _ e => e)).trans (pt.2.mono fun k _ e => by omega)).below (Nat.le_refl _) fun _ e => e

end Go.Proofs.Ytbbndcfnpfedpaa
