/- The contracts of span, between, ranges. The contract of the iterator over the ranges of places. What is known of the games of a lane; the contract of Many. The contract of Ranges. -/
import Derived.Test.YtbbndcfnpfedpaaGc
set_option linter.unusedVariables false
set_option linter.unusedSimpArgs false

namespace Go.Proofs.Ytbbndcfnpfedpaa
open Go.RowKit Go.Shelf

attribute [local go_sem] Oper.semAt_some

def spanStep (r : Int × Int) (n : Int) : Int × Int := (min r.1 n, max r.2 n)
/-- The least and the greatest of some numbers. -/
def spanL : List Int → Int × Int
  | [] => (0, 0)
  | n :: ns => ns.foldl spanStep (n, n)
theorem spanL_snoc {ns : List Int} (h : ns ≠ []) (x : Int) : spanL (ns ++ [x]) = spanStep (spanL ns) x := by
  cases ns with
  | nil => exact absurd rfl h
  | cons n ns => show (ns ++ [x]).foldl spanStep (n, n) = _; rw [List.foldl_append]; rfl
theorem spanL_one (x : Int) : spanL [x] = (x, x) := rfl

theorem Blk.put2 {W : World} {b : Nat} {y0 y1 : Value} {t : TypeId} (h : Blk W b #[y0, y1] t) (x0 x1 : Value) :
    Blk ((W.setCell ⟨b, 0, none⟩ x0).setCell ⟨b, 1, none⟩ x1) b #[x0, x1] t ∧ Alt (fun k => k = b) W ((W.setCell ⟨b, 0, none⟩ x0).setCell ⟨b, 1, none⟩ x1) :=
  ⟨(h.setAt 0 x0).setAt 1 x1, ((Alt.refl (fun k => k = b) W).setCell (q := ⟨b, 0, none⟩) rfl x0).setCell (q := ⟨b, 1, none⟩) rfl x1⟩

theorem own_intsAt {W : World} {base : Nat} {a : Option Addr} {n c : Nat} {xs : List Int} (h : W.ownsRow base 3 1 (.slice a n c) n (xs.map (Value.int .i64))) : IntsAt W a xs ∧ n = xs.length := by
  obtain ⟨h1, h2⟩ := h
  have hn : n = xs.length := by simpa using h1.symm
  refine ⟨?_, hn⟩
  intro i v hv
  rcases h2 with ⟨_, h0⟩ | ⟨g, cap, cur, e1, e2, e3, e4, e5, e6, e7⟩
  · subst h0
    have : xs = [] := List.length_eq_zero_iff.1 hn.symm
    subst this; simp at hv
  · cases e1
    refine ⟨g, 0, rfl, ?_⟩
    have hlt := (List.getElem?_eq_some_iff.1 hv).1
    have : cur.toList[i]? = some (.int .i64 v) := by
      have e8 : (cur.toList.take (n * 1))[i]? = some (Value.int .i64 v) := by rw [e7, List.getElem?_map, hv]; rfl
      rw [List.getElem?_take] at e8
      split at e8
      · exact e8
      · cases e8
    simp only [World.cell?, e3, Nat.zero_add]
    simpa using this

/-- What span stands on: N the result, N + 1 the range. -/
structure SPN (w W : World) (r : Int × Int) : Prop where
  b0 : Blk W w.heap.size #[.int .i64 0, .int .i64 0] 41
  b1 : Blk W (w.heap.size + 1) #[.int .i64 r.1, .int .i64 r.2] 41
  bl : Below w.heap.size w W
theorem SPN.put {w W : World} {r : Int × Int} (h : SPN w W r) (x y : Int) : SPN w ((W.setCell ⟨w.heap.size + 1, 0, none⟩ (.int .i64 x)).setCell ⟨w.heap.size + 1, 1, none⟩ (.int .i64 y)) (x, y) := by
  obtain ⟨h1, h2⟩ := h.b1.put2 (.int .i64 x) (.int .i64 y)
  exact ⟨h.b0.alt h2 (by omega), h1, ((Alt.of_below (p := fun k => w.heap.size ≤ k) h.bl (fun k _ e => e)).trans (h2.mono fun k _ e => by omega)).below (Nat.le_refl _) fun _ e => e⟩

theorem SPN.eq {w W : World} {r : Int × Int} {x0 x1 : Int} (h : SPN w W (x0, x1)) (h0 : x0 = r.1) (h1 : x1 = r.2) : SPN w W r := by
  obtain ⟨a, b⟩ := r
  simp only at h0 h1
  subst h0; subst h1; exact h

set_option maxRecDepth 100000 in
set_option maxHeartbeats 8000000 in
theorem span_any (ns : List Int) (a : Option Addr) (c : Nat) (w : World) (hX : IntsAt w a ns) (hn : ns.length ≤ 1000) :
    Calls Try.prog 80 #[.slice a ns.length c] w fun e w' => e = .returned (.agg #[.int .i64 (spanL ns).1, .int .i64 (spanL ns).2]) ∧ Below w.heap.size w w' := by
  have HX := Lib.hid hX
  obtain ⟨r, hR⟩ : ∃ r, Hid (r = spanL ns) := ⟨_, Lib.hid rfl⟩
  rw [← hR.out]
  have S0 := Lib.hid (show SPN w ((w.alloc (.cells #[.int .i64 0, .int .i64 0] 41)).alloc (.cells #[.int .i64 0, .int .i64 0] 41)) (spanL (ns.take 0)) from
    ⟨Blk.alt (p := fun _ => False) (Blk.new w _ _) ((Alt.refl _ _).alloc _) id, by
      have := Blk.new (w.alloc (.cells #[.int .i64 0, .int .i64 0] 41)) #[.int .i64 0, .int .i64 0] 41
      rwa [World.size_alloc] at this, below_al2 (below_al _ _) _⟩)
  clear hX
  go_enter Try.func80, Try.ntmps80
  go_wp2_with fail
  generalize (w.alloc _).alloc _ = W0 at S0 ⊢
  go_loopg [8] ns.length (fun g s8 wx => ∃ i : Nat, i ≤ ns.length ∧ g = ns.length - i ∧ s8 = .int .i64 (i : Int) ∧ Hid (SPN w wx (spanL (ns.take i))))
  case atStart => exact ⟨0, by omega, by omega, rfl, S0⟩
  case round =>
    obtain ⟨i, hi, rfl, rfl, hS⟩ := hrel
    clear S0
    by_cases hlt : i < ns.length
    · have hz0 : (0 : Int) ≤ (i : Int) := by omega
      have hz1 : (i : Int) < (ns.length : Int) := by omega
      obtain ⟨x, hx⟩ : ∃ x, ns[i]? = some x := ⟨ns[i]'hlt, List.getElem?_eq_getElem _⟩
      obtain ⟨g, o, rfl, k1⟩ := HX.out _ _ hx
      have c1 := cell_lo hS.out.bl k1
      have f0 := hS.out.b1.fr 0
      have f1 := hS.out.b1.fr 1
      have e2 : IntKind.i64.wrap ((i : Int) + 1) = (i : Int) + 1 := IntWalk.i64_in _ (by omega)
      by_cases h0 : i = 0
      · subst h0
        have hN : Hid (spanL (ns.take (0 + 1)) = (x, x)) := Lib.hid (by rw [take_next hx]; rfl)
        have u0 := hS.out.b1.cell 0 rfl
        have u1 := hS.out.b1.cell 1 rfl
        have q0 := (hS.out.put x x).b1.cell 0 (show _ = some (Value.int .i64 x) from rfl)
        have q1 := (hS.out.put x x).b1.cell 1 (show _ = some (Value.int .i64 x) from rfl)
        have g0 := (hS.out.put x x).b1.fr 0
        have g1 := (hS.out.put x x).b1.fr 1
        simp only [Nat.add_zero] at c1
        clear hx k1
        go_wp2_with fail
        all_goals
          go_roundg (ns.length - (0 + 1))
          case measure => omega
          case rel => exact ⟨0 + 1, by omega, rfl, by simp, by rw [hN.out]; exact Lib.hid (SPN.eq ((hS.out.put x x).put _ _) rfl rfl)⟩
      · have hN : Hid (spanL (ns.take (i + 1)) = (min (spanL (ns.take i)).1 x, max (spanL (ns.take i)).2 x)) := Lib.hid (by
          rw [take_next hx, spanL_snoc]
          · rfl
          · intro e; have h9 := congrArg List.length e; rw [List.length_take, List.length_nil] at h9; omega)
        have hi0 : ((i : Int) == 0) = false := by simpa using h0
        generalize spanL (ns.take i) = r at *
        have q0 := hS.out.b1.cell 0 (show _ = some (Value.int .i64 r.1) from rfl)
        have q1 := hS.out.b1.cell 1 (show _ = some (Value.int .i64 r.2) from rfl)
        clear hx k1 h0
        go_wp2_with fail
        all_goals
          go_roundg (ns.length - (i + 1))
          case measure => omega
          case rel => exact ⟨i + 1, by omega, rfl, by simp, by rw [hN.out]; exact Lib.hid (SPN.eq (hS.out.put _ _) (by simp only; omega) (by simp only; omega))⟩
    · have hz1 : ¬ (i : Int) < (ns.length : Int) := by omega
      have hS2 := hS.out
      rw [List.take_of_length_le (by omega), ← hR.out] at hS2
      have q0 := hS2.b1.cell 0 (show _ = some (Value.int .i64 r.1) from rfl)
      have q1 := hS2.b1.cell 1 (show _ = some (Value.int .i64 r.2) from rfl)
      have f0 := hS2.b0.fr 0
      have f1 := hS2.b0.fr 1
      have u0 := hS2.b0.cell 0 rfl
      have u1 := hS2.b0.cell 1 rfl
      have PT := Lib.hid (hS2.b0.put2 (.int .i64 r.1) (.int .i64 r.2))
      have HB := Lib.hid hS2.bl
      clear hS hS2
      go_wp2_with fail
      have pt := PT.out
      generalize World.setCell _ _ _ = X at pt ⊢
      have h0 := pt.1.cell 0 (show _ = some (Value.int .i64 r.1) from rfl)
      have h1 := pt.1.cell 1 (show _ = some (Value.int .i64 r.2) from rfl)
      refine bodyPost_ret (v := .agg #[.int .i64 r.1, .int .i64 r.2]) (by simp [results, Try.results80, go_sem, h0, h1]) rfl ⟨rfl, ?_⟩
      exact ((Alt.of_below (p := fun k => w.heap.size ≤ k) HB.out (fun k _ e => e)).trans (pt.2.mono fun k _ e => by omega)).below (Nat.le_refl _) fun _ e => e

set_option maxHeartbeats 1000000 in
theorem fell_any (a b : Int) (w : World) (h0 : 0 ≤ b) (h1 : b ≤ 10) : Calls Try.prog 59 #[.agg #[.int .i64 a, .int .i64 b]] w fun e w' => e = .returned (.int .i64 (10 - b)) ∧ Below w.heap.size w w' := by
  have B0 := Lib.hid (below_al w (.cells #[.int .i64 a, .int .i64 b] 105))
  have e2 : IntKind.i64.wrap (10 - b) = 10 - b := IntWalk.i64_in _ (by omega)
  go_enter Try.func59, Try.ntmps59
  go_wp2_with fail
  go_returns
  exact ⟨rfl, B0.out⟩

set_option maxRecDepth 100000 in
set_option maxHeartbeats 8000000 in
theorem between_88_any (gs : List (Int × Int)) (a : Option Addr) (c : Nat) (w : World) (hX : P2At w a gs) (hn : gs.length ≤ 1000) :
    Calls Try.prog 58 #[.slice a gs.length c, .func (.func 88) #[] #[]] w fun e w' => e = .returned (.agg #[.int .i64 (spanL (gs.map fun p => p.1)).1, .int .i64 (spanL (gs.map fun p => p.1)).2]) ∧ Below w.heap.size w w' := by
  have HX := Lib.hid hX
  obtain ⟨i0, hi0, hy0, hy1, hy2⟩ := info_parts info3
  have K0 := Lib.hid (Blk.new w #[.int .i64 0, .int .i64 0] 41)
  have B0 := Lib.hid (below_al w (.cells #[.int .i64 0, .int .i64 0] 41))
  obtain ⟨f, hf⟩ : ∃ f : Int × Int → Int, Hid (f = fun p => p.1) := ⟨_, Lib.hid rfl⟩
  have FC : Hid (∀ p ∈ gs, ∀ W, Calls Try.prog 88 #[.agg #[.int .i64 p.1, .int .i64 p.2]] W fun e w' => e = .returned (.int .i64 (f p)) ∧ Below W.heap.size W w') := Lib.hid (fun p hp W => by rw [hf.out]; exact behind1_any p.1 p.2 W)
  have HF := Lib.hid (show (gs.map fun p => p.1) = gs.map f by rw [hf.out])
  rw [HF.out]
  obtain ⟨r, hR⟩ : ∃ r, Hid (r = spanL (gs.map f)) := ⟨_, Lib.hid rfl⟩
  rw [← hR.out]
  clear hX 
  go_enter Try.func58, Try.ntmps58
  go_wp2_with fail
  have O0 := Lib.hid (show (w.alloc (.cells #[.int .i64 0, .int .i64 0] 41)).ownsRow (w.heap.size + 1) 3 1 (.slice none 0 0) 0 ([].map (Value.int .i64)) from ⟨rfl, .inl ⟨rfl, rfl⟩⟩)
  generalize w.alloc _ = W0 at K0 B0 O0 ⊢
  go_loopg [5, 10] gs.length (fun g s5 s10 wx => ∃ (i : Nat) (v : Value), i ≤ gs.length ∧ g = gs.length - i ∧ s10 = .int .i64 (i : Int) ∧ v = s5 ∧ Hid (Blk wx w.heap.size #[.int .i64 0, .int .i64 0] 41) ∧ Hid (Below w.heap.size w wx) ∧ Hid (wx.ownsRow (w.heap.size + 1) 3 1 v i (((gs.take i).map f).map (Value.int .i64))) ∧ Hid (w.heap.size + 1 ≤ wx.heap.size))
  case atStart => exact ⟨0, _, by omega, by omega, rfl, rfl, K0, B0, O0, Lib.hid K0.out.lt⟩
  case round =>
    obtain ⟨i, v, hi, rfl, rfl, rfl, hK, hB, hO, hZ⟩ := hrel
    clear K0 B0 O0
    by_cases hlt : i < gs.length
    · have hz0 : (0 : Int) ≤ (i : Int) := by omega
      have hz1 : (i : Int) < (gs.length : Int) := by omega
      obtain ⟨x, hx⟩ : ∃ x, gs[i]? = some x := ⟨gs[i]'hlt, List.getElem?_eq_getElem _⟩
      obtain ⟨g, o, rfl, k1, k2⟩ := HX.out _ _ hx
      have c1 := cell_lo hB.out k1
      have c2 := cell_lo hB.out k2
      have e2 : IntKind.i64.wrap ((i : Int) + 1) = (i : Int) + 1 := IntWalk.i64_in _ (by omega)
      have FX := Lib.hid (fun W => FC.out x (List.mem_of_getElem? hx) W)
      have HT := Lib.hid (show ((gs.take (i + 1)).map f).map (Value.int .i64) = ((gs.take i).map f).map (Value.int .i64) ++ [.int .i64 (f x)] by rw [take_next hx]; simp)
      have B1 := Lib.hid (below_al2 hB.out (.cells #[.int .i64 x.1, .int .i64 x.2] 105))
      have A1 := Lib.hid (show ∀ p, Alt p wr (wr.alloc (.cells #[.int .i64 x.1, .int .i64 x.2] 105)) from fun p => (Alt.refl _ _).alloc _)
      generalize f x = fx at *
      obtain ⟨p, q⟩ := x
      simp only at *
      clear hx k1 k2
      go_wp2_with fail
      refine (FX.out _).mono ?_
      rintro e w2 ⟨rfl, hb⟩
      have B2 := Lib.hid (below_go B1.out hb)
      have AL := Lib.hid (show ∀ p, Alt p wr w2 from fun p => (A1.out p).trans (Alt.of_below hb (fun k hk e => by omega)))
      have O2 := Lib.hid (ownsRow_alt hO.out (AL.out fun _ => False) (fun _ _ => id))
      have K2 := Lib.hid (Blk.alt hK.out (AL.out fun _ => False) id)
      have Z2 := Lib.hid (Nat.le_trans hZ.out (AL.out fun _ => False).size)
      have AG := Lib.hid (fun w1 (hg : (w2.alloc (.cells #[.int .i64 fx] 3)).grownBy w1 v.ownBlock) => (((Alt.refl (fun k => w.heap.size + 1 ≤ k) w2).alloc (.cells #[.int .i64 fx] 3)).grown hg (fun k e => own_base O2.out e)))
      clear hb c1 c2 hK hB hO hZ A1 B1 AL FX
      go_wp2_with (at_builtin; go_must (refine wpList_append_own_at _ rfl _ _ 25 rfl (w.heap.size + 1) 3 i0 _ 1 8 Try.underlying25 hi0 hy0 hy1 hy2 rfl (by decide) v i (((gs.take i).map f).map (Value.int .i64)) rfl (O2.out.alloc _) ⟨w2.heap.size, 0, none⟩ 1 1 [.int .i64 fx] rfl (by rfl) (cell_one_new _ _ _) (by simp [Value.oneCell']) (by unfold maxLen; omega) (by omega) (by have := Z2.out; simp; omega) ?_); intro v' w1 hown' hgrow hnil hloc; have ON := Lib.hid hown'; have AN := Lib.hid (AG.out w1 hgrow); clear hown' hgrow hnil hloc)
      rw [← HT.out] at ON
      have KN := Lib.hid (Blk.alt K2.out AN.out (by omega))
      have BN := Lib.hid (((Alt.of_below (p := fun k => w.heap.size ≤ k) B2.out (fun k _ e => e)).trans (AN.out.mono fun k _ e => by omega)).below (Nat.le_refl _) fun _ e => e)
      have ZN := Lib.hid (Nat.le_trans Z2.out AN.out.size)
      clear AG O2 K2 B2 Z2 AN
      go_roundg (gs.length - (i + 1))
      case measure => omega
      case rel => exact ⟨i + 1, _, by omega, rfl, by simp, rfl, KN, BN, ON, ZN⟩
    · have hz1 : ¬ (i : Int) < (gs.length : Int) := by omega
      have hO2 := hO.out
      have hiN : i = gs.length := by omega
      rw [hiN, List.take_length] at hO2
      obtain ⟨a, c, rfl⟩ := own_len hO2
      have HI := Lib.hid (own_intsAt hO2).1
      have HLN := Lib.hid (show gs.length = (gs.map f).length by simp)
      have SP := Lib.hid (span_any (gs.map f) a c wr HI.out (by rw [← HLN.out]; exact hn))
      rw [← HLN.out, ← hR.out] at SP
      clear hO hO2 hlt hiN
      go_wp2_with fail
      refine SP.out.mono ?_
      rintro e w2 ⟨rfl, hb⟩
      have B2 := Lib.hid (below_go hB.out hb)
      have K2 := Lib.hid (Blk.alt (p := fun _ => False) hK.out (Alt.of_below hb (fun k hk e => by omega)) id)
      clear hb SP hB hK
      have f0 := K2.out.fr 0
      have f1 := K2.out.fr 1
      have u0 := K2.out.cell 0 rfl
      have u1 := K2.out.cell 1 rfl
      have PT := Lib.hid (K2.out.put2 (.int .i64 r.1) (.int .i64 r.2))
      go_wp2_with fail
      have pt := PT.out
      generalize World.setCell _ _ _ = X at pt ⊢
      have h0 := pt.1.cell 0 (show _ = some (Value.int .i64 r.1) from rfl)
      have h1 := pt.1.cell 1 (show _ = some (Value.int .i64 r.2) from rfl)
      refine bodyPost_ret (v := .agg #[.int .i64 r.1, .int .i64 r.2]) (by simp [results, Try.results58, go_sem, h0, h1]) rfl ⟨rfl, ?_⟩
      exact ((Alt.of_below (p := fun k => w.heap.size ≤ k) B2.out (fun k _ e => e)).trans (pt.2.mono fun k _ e => by omega)).below (Nat.le_refl _) fun _ e => e

set_option maxRecDepth 100000 in
set_option maxHeartbeats 8000000 in
theorem between_89_any (gs : List (Int × Int)) (a : Option Addr) (c : Nat) (w : World) (hX : P2At w a gs) (hn : gs.length ≤ 1000) :
    Calls Try.prog 58 #[.slice a gs.length c, .func (.func 89) #[] #[]] w fun e w' => e = .returned (.agg #[.int .i64 (spanL (gs.map fun p => p.2)).1, .int .i64 (spanL (gs.map fun p => p.2)).2]) ∧ Below w.heap.size w w' := by
  have HX := Lib.hid hX
  obtain ⟨i0, hi0, hy0, hy1, hy2⟩ := info_parts info3
  have K0 := Lib.hid (Blk.new w #[.int .i64 0, .int .i64 0] 41)
  have B0 := Lib.hid (below_al w (.cells #[.int .i64 0, .int .i64 0] 41))
  obtain ⟨f, hf⟩ : ∃ f : Int × Int → Int, Hid (f = fun p => p.2) := ⟨_, Lib.hid rfl⟩
  have FC : Hid (∀ p ∈ gs, ∀ W, Calls Try.prog 89 #[.agg #[.int .i64 p.1, .int .i64 p.2]] W fun e w' => e = .returned (.int .i64 (f p)) ∧ Below W.heap.size W w') := Lib.hid (fun p hp W => by rw [hf.out]; exact behind2_any p.1 p.2 W)
  have HF := Lib.hid (show (gs.map fun p => p.2) = gs.map f by rw [hf.out])
  rw [HF.out]
  obtain ⟨r, hR⟩ : ∃ r, Hid (r = spanL (gs.map f)) := ⟨_, Lib.hid rfl⟩
  rw [← hR.out]
  clear hX 
  go_enter Try.func58, Try.ntmps58
  go_wp2_with fail
  have O0 := Lib.hid (show (w.alloc (.cells #[.int .i64 0, .int .i64 0] 41)).ownsRow (w.heap.size + 1) 3 1 (.slice none 0 0) 0 ([].map (Value.int .i64)) from ⟨rfl, .inl ⟨rfl, rfl⟩⟩)
  generalize w.alloc _ = W0 at K0 B0 O0 ⊢
  go_loopg [5, 10] gs.length (fun g s5 s10 wx => ∃ (i : Nat) (v : Value), i ≤ gs.length ∧ g = gs.length - i ∧ s10 = .int .i64 (i : Int) ∧ v = s5 ∧ Hid (Blk wx w.heap.size #[.int .i64 0, .int .i64 0] 41) ∧ Hid (Below w.heap.size w wx) ∧ Hid (wx.ownsRow (w.heap.size + 1) 3 1 v i (((gs.take i).map f).map (Value.int .i64))) ∧ Hid (w.heap.size + 1 ≤ wx.heap.size))
  case atStart => exact ⟨0, _, by omega, by omega, rfl, rfl, K0, B0, O0, Lib.hid K0.out.lt⟩
  case round =>
    obtain ⟨i, v, hi, rfl, rfl, rfl, hK, hB, hO, hZ⟩ := hrel
    clear K0 B0 O0
    by_cases hlt : i < gs.length
    · have hz0 : (0 : Int) ≤ (i : Int) := by omega
      have hz1 : (i : Int) < (gs.length : Int) := by omega
      obtain ⟨x, hx⟩ : ∃ x, gs[i]? = some x := ⟨gs[i]'hlt, List.getElem?_eq_getElem _⟩
      obtain ⟨g, o, rfl, k1, k2⟩ := HX.out _ _ hx
      have c1 := cell_lo hB.out k1
      have c2 := cell_lo hB.out k2
      have e2 : IntKind.i64.wrap ((i : Int) + 1) = (i : Int) + 1 := IntWalk.i64_in _ (by omega)
      have FX := Lib.hid (fun W => FC.out x (List.mem_of_getElem? hx) W)
      have HT := Lib.hid (show ((gs.take (i + 1)).map f).map (Value.int .i64) = ((gs.take i).map f).map (Value.int .i64) ++ [.int .i64 (f x)] by rw [take_next hx]; simp)
      have B1 := Lib.hid (below_al2 hB.out (.cells #[.int .i64 x.1, .int .i64 x.2] 105))
      have A1 := Lib.hid (show ∀ p, Alt p wr (wr.alloc (.cells #[.int .i64 x.1, .int .i64 x.2] 105)) from fun p => (Alt.refl _ _).alloc _)
      generalize f x = fx at *
      obtain ⟨p, q⟩ := x
      simp only at *
      clear hx k1 k2
      go_wp2_with fail
      refine (FX.out _).mono ?_
      rintro e w2 ⟨rfl, hb⟩
      have B2 := Lib.hid (below_go B1.out hb)
      have AL := Lib.hid (show ∀ p, Alt p wr w2 from fun p => (A1.out p).trans (Alt.of_below hb (fun k hk e => by omega)))
      have O2 := Lib.hid (ownsRow_alt hO.out (AL.out fun _ => False) (fun _ _ => id))
      have K2 := Lib.hid (Blk.alt hK.out (AL.out fun _ => False) id)
      have Z2 := Lib.hid (Nat.le_trans hZ.out (AL.out fun _ => False).size)
      have AG := Lib.hid (fun w1 (hg : (w2.alloc (.cells #[.int .i64 fx] 3)).grownBy w1 v.ownBlock) => (((Alt.refl (fun k => w.heap.size + 1 ≤ k) w2).alloc (.cells #[.int .i64 fx] 3)).grown hg (fun k e => own_base O2.out e)))
      clear hb c1 c2 hK hB hO hZ A1 B1 AL FX
      go_wp2_with (at_builtin; go_must (refine wpList_append_own_at _ rfl _ _ 25 rfl (w.heap.size + 1) 3 i0 _ 1 8 Try.underlying25 hi0 hy0 hy1 hy2 rfl (by decide) v i (((gs.take i).map f).map (Value.int .i64)) rfl (O2.out.alloc _) ⟨w2.heap.size, 0, none⟩ 1 1 [.int .i64 fx] rfl (by rfl) (cell_one_new _ _ _) (by simp [Value.oneCell']) (by unfold maxLen; omega) (by omega) (by have := Z2.out; simp; omega) ?_); intro v' w1 hown' hgrow hnil hloc; have ON := Lib.hid hown'; have AN := Lib.hid (AG.out w1 hgrow); clear hown' hgrow hnil hloc)
      rw [← HT.out] at ON
      have KN := Lib.hid (Blk.alt K2.out AN.out (by omega))
      have BN := Lib.hid (((Alt.of_below (p := fun k => w.heap.size ≤ k) B2.out (fun k _ e => e)).trans (AN.out.mono fun k _ e => by omega)).below (Nat.le_refl _) fun _ e => e)
      have ZN := Lib.hid (Nat.le_trans Z2.out AN.out.size)
      clear AG O2 K2 B2 Z2 AN
      go_roundg (gs.length - (i + 1))
      case measure => omega
      case rel => exact ⟨i + 1, _, by omega, rfl, by simp, rfl, KN, BN, ON, ZN⟩
    · have hz1 : ¬ (i : Int) < (gs.length : Int) := by omega
      have hO2 := hO.out
      have hiN : i = gs.length := by omega
      rw [hiN, List.take_length] at hO2
      obtain ⟨a, c, rfl⟩ := own_len hO2
      have HI := Lib.hid (own_intsAt hO2).1
      have HLN := Lib.hid (show gs.length = (gs.map f).length by simp)
      have SP := Lib.hid (span_any (gs.map f) a c wr HI.out (by rw [← HLN.out]; exact hn))
      rw [← HLN.out, ← hR.out] at SP
      clear hO hO2 hlt hiN
      go_wp2_with fail
      refine SP.out.mono ?_
      rintro e w2 ⟨rfl, hb⟩
      have B2 := Lib.hid (below_go hB.out hb)
      have K2 := Lib.hid (Blk.alt (p := fun _ => False) hK.out (Alt.of_below hb (fun k hk e => by omega)) id)
      clear hb SP hB hK
      have f0 := K2.out.fr 0
      have f1 := K2.out.fr 1
      have u0 := K2.out.cell 0 rfl
      have u1 := K2.out.cell 1 rfl
      have PT := Lib.hid (K2.out.put2 (.int .i64 r.1) (.int .i64 r.2))
      go_wp2_with fail
      have pt := PT.out
      generalize World.setCell _ _ _ = X at pt ⊢
      have h0 := pt.1.cell 0 (show _ = some (Value.int .i64 r.1) from rfl)
      have h1 := pt.1.cell 1 (show _ = some (Value.int .i64 r.2) from rfl)
      refine bodyPost_ret (v := .agg #[.int .i64 r.1, .int .i64 r.2]) (by simp [results, Try.results58, go_sem, h0, h1]) rfl ⟨rfl, ?_⟩
      exact ((Alt.of_below (p := fun k => w.heap.size ≤ k) B2.out (fun k _ e => e)).trans (pt.2.mono fun k _ e => by omega)).below (Nat.le_refl _) fun _ e => e

set_option maxRecDepth 100000 in
set_option maxHeartbeats 8000000 in
theorem between_59_any (gs : List (Int × Int)) (a : Option Addr) (c : Nat) (w : World) (hX : P2At w a gs) (hn : gs.length ≤ 1000) (hq : ∀ p ∈ gs, 0 ≤ p.2 ∧ p.2 ≤ 10) :
    Calls Try.prog 58 #[.slice a gs.length c, .func (.func 59) #[] #[]] w fun e w' => e = .returned (.agg #[.int .i64 (spanL (gs.map fun p => 10 - p.2)).1, .int .i64 (spanL (gs.map fun p => 10 - p.2)).2]) ∧ Below w.heap.size w w' := by
  have HX := Lib.hid hX
  obtain ⟨i0, hi0, hy0, hy1, hy2⟩ := info_parts info3
  have K0 := Lib.hid (Blk.new w #[.int .i64 0, .int .i64 0] 41)
  have B0 := Lib.hid (below_al w (.cells #[.int .i64 0, .int .i64 0] 41))
  obtain ⟨f, hf⟩ : ∃ f : Int × Int → Int, Hid (f = fun p => 10 - p.2) := ⟨_, Lib.hid rfl⟩
  have FC : Hid (∀ p ∈ gs, ∀ W, Calls Try.prog 59 #[.agg #[.int .i64 p.1, .int .i64 p.2]] W fun e w' => e = .returned (.int .i64 (f p)) ∧ Below W.heap.size W w') := Lib.hid (fun p hp W => by rw [hf.out]; exact fell_any p.1 p.2 W (hq p hp).1 (hq p hp).2)
  have HF := Lib.hid (show (gs.map fun p => 10 - p.2) = gs.map f by rw [hf.out])
  rw [HF.out]
  obtain ⟨r, hR⟩ : ∃ r, Hid (r = spanL (gs.map f)) := ⟨_, Lib.hid rfl⟩
  rw [← hR.out]
  clear hX hq
  go_enter Try.func58, Try.ntmps58
  go_wp2_with fail
  have O0 := Lib.hid (show (w.alloc (.cells #[.int .i64 0, .int .i64 0] 41)).ownsRow (w.heap.size + 1) 3 1 (.slice none 0 0) 0 ([].map (Value.int .i64)) from ⟨rfl, .inl ⟨rfl, rfl⟩⟩)
  generalize w.alloc _ = W0 at K0 B0 O0 ⊢
  go_loopg [5, 10] gs.length (fun g s5 s10 wx => ∃ (i : Nat) (v : Value), i ≤ gs.length ∧ g = gs.length - i ∧ s10 = .int .i64 (i : Int) ∧ v = s5 ∧ Hid (Blk wx w.heap.size #[.int .i64 0, .int .i64 0] 41) ∧ Hid (Below w.heap.size w wx) ∧ Hid (wx.ownsRow (w.heap.size + 1) 3 1 v i (((gs.take i).map f).map (Value.int .i64))) ∧ Hid (w.heap.size + 1 ≤ wx.heap.size))
  case atStart => exact ⟨0, _, by omega, by omega, rfl, rfl, K0, B0, O0, Lib.hid K0.out.lt⟩
  case round =>
    obtain ⟨i, v, hi, rfl, rfl, rfl, hK, hB, hO, hZ⟩ := hrel
    clear K0 B0 O0
    by_cases hlt : i < gs.length
    · have hz0 : (0 : Int) ≤ (i : Int) := by omega
      have hz1 : (i : Int) < (gs.length : Int) := by omega
      obtain ⟨x, hx⟩ : ∃ x, gs[i]? = some x := ⟨gs[i]'hlt, List.getElem?_eq_getElem _⟩
      obtain ⟨g, o, rfl, k1, k2⟩ := HX.out _ _ hx
      have c1 := cell_lo hB.out k1
      have c2 := cell_lo hB.out k2
      have e2 : IntKind.i64.wrap ((i : Int) + 1) = (i : Int) + 1 := IntWalk.i64_in _ (by omega)
      have FX := Lib.hid (fun W => FC.out x (List.mem_of_getElem? hx) W)
      have HT := Lib.hid (show ((gs.take (i + 1)).map f).map (Value.int .i64) = ((gs.take i).map f).map (Value.int .i64) ++ [.int .i64 (f x)] by rw [take_next hx]; simp)
      have B1 := Lib.hid (below_al2 hB.out (.cells #[.int .i64 x.1, .int .i64 x.2] 105))
      have A1 := Lib.hid (show ∀ p, Alt p wr (wr.alloc (.cells #[.int .i64 x.1, .int .i64 x.2] 105)) from fun p => (Alt.refl _ _).alloc _)
      generalize f x = fx at *
      obtain ⟨p, q⟩ := x
      simp only at *
      clear hx k1 k2
      go_wp2_with fail
      refine (FX.out _).mono ?_
      rintro e w2 ⟨rfl, hb⟩
      have B2 := Lib.hid (below_go B1.out hb)
      have AL := Lib.hid (show ∀ p, Alt p wr w2 from fun p => (A1.out p).trans (Alt.of_below hb (fun k hk e => by omega)))
      have O2 := Lib.hid (ownsRow_alt hO.out (AL.out fun _ => False) (fun _ _ => id))
      have K2 := Lib.hid (Blk.alt hK.out (AL.out fun _ => False) id)
      have Z2 := Lib.hid (Nat.le_trans hZ.out (AL.out fun _ => False).size)
      have AG := Lib.hid (fun w1 (hg : (w2.alloc (.cells #[.int .i64 fx] 3)).grownBy w1 v.ownBlock) => (((Alt.refl (fun k => w.heap.size + 1 ≤ k) w2).alloc (.cells #[.int .i64 fx] 3)).grown hg (fun k e => own_base O2.out e)))
      clear hb c1 c2 hK hB hO hZ A1 B1 AL FX
      go_wp2_with (at_builtin; go_must (refine wpList_append_own_at _ rfl _ _ 25 rfl (w.heap.size + 1) 3 i0 _ 1 8 Try.underlying25 hi0 hy0 hy1 hy2 rfl (by decide) v i (((gs.take i).map f).map (Value.int .i64)) rfl (O2.out.alloc _) ⟨w2.heap.size, 0, none⟩ 1 1 [.int .i64 fx] rfl (by rfl) (cell_one_new _ _ _) (by simp [Value.oneCell']) (by unfold maxLen; omega) (by omega) (by have := Z2.out; simp; omega) ?_); intro v' w1 hown' hgrow hnil hloc; have ON := Lib.hid hown'; have AN := Lib.hid (AG.out w1 hgrow); clear hown' hgrow hnil hloc)
      rw [← HT.out] at ON
      have KN := Lib.hid (Blk.alt K2.out AN.out (by omega))
      have BN := Lib.hid (((Alt.of_below (p := fun k => w.heap.size ≤ k) B2.out (fun k _ e => e)).trans (AN.out.mono fun k _ e => by omega)).below (Nat.le_refl _) fun _ e => e)
      have ZN := Lib.hid (Nat.le_trans Z2.out AN.out.size)
      clear AG O2 K2 B2 Z2 AN
      go_roundg (gs.length - (i + 1))
      case measure => omega
      case rel => exact ⟨i + 1, _, by omega, rfl, by simp, rfl, KN, BN, ON, ZN⟩
    · have hz1 : ¬ (i : Int) < (gs.length : Int) := by omega
      have hO2 := hO.out
      have hiN : i = gs.length := by omega
      rw [hiN, List.take_length] at hO2
      obtain ⟨a, c, rfl⟩ := own_len hO2
      have HI := Lib.hid (own_intsAt hO2).1
      have HLN := Lib.hid (show gs.length = (gs.map f).length by simp)
      have SP := Lib.hid (span_any (gs.map f) a c wr HI.out (by rw [← HLN.out]; exact hn))
      rw [← HLN.out, ← hR.out] at SP
      clear hO hO2 hlt hiN
      go_wp2_with fail
      refine SP.out.mono ?_
      rintro e w2 ⟨rfl, hb⟩
      have B2 := Lib.hid (below_go hB.out hb)
      have K2 := Lib.hid (Blk.alt (p := fun _ => False) hK.out (Alt.of_below hb (fun k hk e => by omega)) id)
      clear hb SP hB hK
      have f0 := K2.out.fr 0
      have f1 := K2.out.fr 1
      have u0 := K2.out.cell 0 rfl
      have u1 := K2.out.cell 1 rfl
      have PT := Lib.hid (K2.out.put2 (.int .i64 r.1) (.int .i64 r.2))
      go_wp2_with fail
      have pt := PT.out
      generalize World.setCell _ _ _ = X at pt ⊢
      have h0 := pt.1.cell 0 (show _ = some (Value.int .i64 r.1) from rfl)
      have h1 := pt.1.cell 1 (show _ = some (Value.int .i64 r.2) from rfl)
      refine bodyPost_ret (v := .agg #[.int .i64 r.1, .int .i64 r.2]) (by simp [results, Try.results58, go_sem, h0, h1]) rfl ⟨rfl, ?_⟩
      exact ((Alt.of_below (p := fun k => w.heap.size ≤ k) B2.out (fun k _ e => e)).trans (pt.2.mono fun k _ e => by omega)).below (Nat.le_refl _) fun _ e => e

end Go.Proofs.Ytbbndcfnpfedpaa

namespace Go.Proofs.Ytbbndcfnpfedpaa
open Go.RowKit Go.Shelf

attribute [local go_sem] Oper.semAt_some

def rngF (L : List (List (Int × Int))) (i : Nat) : List ((Int × Int) × (Int × Int)) := [(((i : Int), 0), spanL ((L.getD i []).map fun p => p.1)), (((i : Int), 1), spanL ((L.getD i []).map fun p => p.2))]
/-- The ranges of all places, frame by frame. -/
def rngL (L : List (List (Int × Int))) : List ((Int × Int) × (Int × Int)) := (List.range L.length).flatMap (rngF L)
def rgEnc (x : (Int × Int) × (Int × Int)) : Array Value := #[.agg #[.int .i64 x.1.1, .int .i64 x.1.2], .agg #[.int .i64 x.2.1, .int .i64 x.2.2]]
def RdG (lo up bB : Nat) (k : Nat) : Prop := k = bB ∨ (lo ≤ k ∧ k < up)

set_option maxRecDepth 100000 in
set_option maxHeartbeats 8000000 in
theorem ranges1_iter (L : List (List (Int × Int))) (a : Option Addr) (c lo up bB : Nat) (w : World) (hB : Boxed w bB 94 (.slice a L.length c)) (hF : FrAt lo up w a L) (hhi : up ≤ w.heap.size) (hn : L.length ≤ 1000) (hg : ∀ gs ∈ L, gs.length ≤ 1000) :
    IterT Try.prog 78 #[.pointer (some ⟨bB, 0, none⟩)] rgEnc (rngL L) 0 (RdG lo up bB) w := by
  intro l J W hW hJ hY h0
  have hBW := Boxed.alt hB hW (by unfold RdG; simp)
  have hFW := hF.alt hW (fun k h1 h2 h => h (.inr ⟨h1, h2⟩))
  have HY := Lib.hid hY
  have HJS := Lib.hid hJ
  have HF := Lib.hid hFW
  have HG := Lib.hid hg
  have H0 := Lib.hid h0
  have cB := hBW.cell
  have HHI := Lib.hid (Nat.le_trans hhi hW.size)
  have HBL := Lib.hid hBW.lt
  clear hB hF hhi hg hW hJ hY h0 hBW hFW
  refine callsIn_of_wp Try.func78 rfl trivial ?_ rfl
  simp only [Try.ntmps78, List.size_toArray, List.length_cons, List.length_nil, Nat.reduceAdd, Nat.reduceSub, Array.replicate_succ, Array.replicate_zero, List.push_toArray, List.append_toArray, List.nil_append, List.cons_append]
  gi_wp2
  gi_loopw [9] (fun s wr => ∃ i : Nat, i ≤ L.length ∧ s = .int .i64 (i : Int) ∧ Hid (J ((List.range i).flatMap (rngF L)) wr) ∧ Hid (Alt (fun k => ¬ RdG lo up bB k) W wr)) (fun s wr => ((L.length : Int) - intOf s).toNat)
  case atStart => exact ⟨0, by omega, rfl, Lib.hid (by simpa using H0.out), Lib.hid (Alt.refl _ _)⟩
  case round =>
    obtain ⟨i, hi, rfl, hJi, hA⟩ := hrel
    clear H0
    by_cases hlt : i < L.length
    · have hz0 : (0 : Int) ≤ (i : Int) := by omega
      have hz1 : (i : Int) < (L.length : Int) := by omega
      have HU := Lib.hid (flat_split (rngF L) hlt)
      have HLT := Lib.hid hlt
      obtain ⟨gs, hgs⟩ : ∃ gs, L[i]? = some gs := ⟨L[i]'hlt, List.getElem?_eq_getElem _⟩
      have HGD : Hid (rngF L i = [(((i : Int), 0), spanL (gs.map fun p => p.1)), (((i : Int), 1), spanL (gs.map fun p => p.2))]) := Lib.hid (by unfold rngF; rw [List.getD_eq_getElem?_getD, hgs]; rfl)
      have HGL := Lib.hid (HG.out gs (List.mem_of_getElem? hgs))
      obtain ⟨g, o, a', c', rfl, hgb, k0, k2, k3⟩ := HF.out i gs hgs
      have k1 := alt_cell hA.out k0 (fun h => h (.inr hgb))
      have HP := Lib.hid k2
      have HB3 := Lib.hid k3
      have BA := Lib.hid (fun W => callsIn_wide (n := 0).2 (balls_any W))
      have HNW := Lib.hid (show ∀ wx, Alt (fun k => ¬ RdG lo up bB k) W wx → P2At wx a' gs from fun wx h => HP.out.alt h (fun g o e h => h (.inr (HB3.out g o e))))
      clear hi hgs k0 k2 k3 hgb hlt
      gi_wp2
      refine ⟨trivial, rfl, ?_⟩
      refine (BA.out _).mono ?_
      rintro e w1 ⟨rfl, hb1⟩
      have J1 := Lib.hid (HJS.out _ _ _ hJi.out (Alt.of_below hb1 (fun k hk h => by omega)))
      have A1 := Lib.hid (hA.out.trans (show Alt (fun k => ¬ RdG lo up bB k) wr w1 from Alt.of_below hb1 (fun k hk h => by omega)))
      clear hb1 k1 hJi BA hA
      unfold ballsV
      gi_wp2
      gi_loopw [15] (fun s wx => ∃ b : Nat, b ≤ 2 ∧ s = .int .i64 (b : Int) ∧ Hid (J ((List.range i).flatMap (rngF L) ++ (rngF L i).take b) wx) ∧ Hid (Alt (fun k => ¬ RdG lo up bB k) W wx)) (fun s wx => (2 - intOf s).toNat)
      case atStart => exact ⟨0, by omega, rfl, Lib.hid (by simpa using J1.out), A1⟩
      case round =>
        obtain ⟨b, hb2, rfl, hJj, hAj⟩ := hrel
        clear J1 A1
        obtain rfl | rfl | rfl : b = 0 ∨ b = 1 ∨ b = 2 := by omega
        · obtain ⟨T, hxs⟩ : ∃ T, rngL L = ((List.range i).flatMap (rngF L) ++ (rngF L i).take 0) ++ (((i : Int), 0), spanL (gs.map fun p => p.1)) :: T := by
            obtain ⟨T, u1, _⟩ := HU.out
            exact ⟨[(((i : Int), 1), spanL (gs.map fun p => p.2))] ++ T, by unfold rngL; rw [u1, HGD.out]; simp⟩
          have BT := Lib.hid (fun W4 (hA : Alt (fun k => ¬ RdG lo up bB k) W W4) => callsIn_wide (n := 0).2 (between_88_any gs a' c' W4 (HNW.out W4 hA) HGL.out))
          have hsz := hAj.out.size
          have YY := Lib.hid (fun A hz hj => HY.out _ _ _ A hxs hz hj)
          have HPR : Hid (((List.range i).flatMap (rngF L) ++ (rngF L i).take 0) ++ [(((i : Int), 0), spanL (gs.map fun p => p.1))] = (List.range i).flatMap (rngF L) ++ (rngF L i).take (0 + 1)) := Lib.hid (by rw [HGD.out]; simp)
          unfold rgEnc at YY
          generalize spanL (gs.map fun p => p.1) = r at *
          have KB := Lib.hid (Blk.new wr #[.int .i64 0, .func (.func 88) #[] #[]] 132)
          have JB := Lib.hid (HJS.out _ _ _ hJj.out ((Alt.refl _ wr).alloc (.cells #[.int .i64 0, .func (.func 88) #[] #[]] 132)))
          have AB := Lib.hid ((hAj.out).alloc (.cells #[.int .i64 0, .func (.func 88) #[] #[]] 132))
          have ZB := Lib.hid (show W.heap.size + 0 ≤ (wr.alloc (.cells #[.int .i64 0, .func (.func 88) #[] #[]] 132)).heap.size by simp; omega)
          clear hxs hJj hAj hsz
          gi_wp2
          rw [idx0]
          gi_wp2
          generalize wr.alloc _ = wb at KB JB AB ZB ⊢
          generalize wr.heap.size = NB at *
          have k0 := KB.out.cell 0 (show _ = some (Value.int .i64 0) from rfl)
          have k1 := KB.out.cell 1 (show _ = some (Value.func (.func 88) #[] #[]) from rfl)
          have UA := Lib.hid (fun w4 (h : Below wb.heap.size wb w4) => (AB.out.trans (Alt.of_below h (fun k hk e => by omega))))
          have UY := Lib.hid (fun w4 (h : Below wb.heap.size wb w4) => YY.out w4 (Nat.le_trans ZB.out h.size) (HJS.out _ _ _ JB.out (Alt.of_below h (fun k hk e => by omega))))
          have UK := Lib.hid (fun w4 (h : Below wb.heap.size wb w4) => Blk.alt (p := fun _ => False) KB.out (Alt.of_below h (fun k hk e => by omega)) id)
          have hmx : Try.prog.follows .mixedOrders = true := by kernel_rfl
          have BTD := Lib.hid (BT.out wb.drew AB.out.drew)
          clear YY BT
          first
          | (gi_region_with_o (first
              | ((refine ⟨trivial, rfl, ?_⟩); (with_reducible refine BTD.out.mono ?_); rintro e w4 ⟨rfl, hb4⟩; have U4 : Hid (Below wb.heap.size wb w4) := Lib.hid (below_go (Below.refl _ wb).drew hb4); have k0 := (UK.out w4 U4.out).cell 0 (show _ = some (Value.int .i64 0) from rfl); have k1 := (UK.out w4 U4.out).cell 1 (show _ = some (Value.func (.func 88) #[] #[]) from rfl); clear hb4; have hyy := UY.out w4 U4.out; obtain ⟨fn, tmps, assign, body, hy, hR⟩ := hyy; (try simp only at hy))
              | ((refine ⟨rfl, ?_⟩); (with_reducible refine hR.mono ?_); rintro e w6 ⟨rfl, hJ6, hk6⟩)))
          | fail "region"
          all_goals
            gi_wp2
            go_roundw
            case rel =>
              refine ⟨0 + 1, by omega, by go_num, Lib.hid (by rw [← HPR.out]; exact hJ6), Lib.hid ((UA.out w4 U4.out).trans (hk6.mono fun k _ h e => h (.inl e)))⟩
            case measure => simp [intOf]
        · obtain ⟨T, hxs⟩ : ∃ T, rngL L = ((List.range i).flatMap (rngF L) ++ (rngF L i).take 1) ++ (((i : Int), 1), spanL (gs.map fun p => p.2)) :: T := by
            obtain ⟨T, u1, _⟩ := HU.out
            exact ⟨[] ++ T, by unfold rngL; rw [u1, HGD.out]; simp⟩
          have BT := Lib.hid (fun W4 (hA : Alt (fun k => ¬ RdG lo up bB k) W W4) => callsIn_wide (n := 0).2 (between_89_any gs a' c' W4 (HNW.out W4 hA) HGL.out))
          have hsz := hAj.out.size
          have YY := Lib.hid (fun A hz hj => HY.out _ _ _ A hxs hz hj)
          have HPR : Hid (((List.range i).flatMap (rngF L) ++ (rngF L i).take 1) ++ [(((i : Int), 1), spanL (gs.map fun p => p.2))] = (List.range i).flatMap (rngF L) ++ (rngF L i).take (1 + 1)) := Lib.hid (by rw [HGD.out]; simp)
          unfold rgEnc at YY
          generalize spanL (gs.map fun p => p.2) = r at *
          have KB := Lib.hid (Blk.new wr #[.int .i64 1, .func (.func 89) #[] #[]] 132)
          have JB := Lib.hid (HJS.out _ _ _ hJj.out ((Alt.refl _ wr).alloc (.cells #[.int .i64 1, .func (.func 89) #[] #[]] 132)))
          have AB := Lib.hid ((hAj.out).alloc (.cells #[.int .i64 1, .func (.func 89) #[] #[]] 132))
          have ZB := Lib.hid (show W.heap.size + 0 ≤ (wr.alloc (.cells #[.int .i64 1, .func (.func 89) #[] #[]] 132)).heap.size by simp; omega)
          clear hxs hJj hAj hsz
          gi_wp2
          rw [idx1]
          gi_wp2
          generalize wr.alloc _ = wb at KB JB AB ZB ⊢
          generalize wr.heap.size = NB at *
          have k0 := KB.out.cell 0 (show _ = some (Value.int .i64 1) from rfl)
          have k1 := KB.out.cell 1 (show _ = some (Value.func (.func 89) #[] #[]) from rfl)
          have UA := Lib.hid (fun w4 (h : Below wb.heap.size wb w4) => (AB.out.trans (Alt.of_below h (fun k hk e => by omega))))
          have UY := Lib.hid (fun w4 (h : Below wb.heap.size wb w4) => YY.out w4 (Nat.le_trans ZB.out h.size) (HJS.out _ _ _ JB.out (Alt.of_below h (fun k hk e => by omega))))
          have UK := Lib.hid (fun w4 (h : Below wb.heap.size wb w4) => Blk.alt (p := fun _ => False) KB.out (Alt.of_below h (fun k hk e => by omega)) id)
          have hmx : Try.prog.follows .mixedOrders = true := by kernel_rfl
          have BTD := Lib.hid (BT.out wb.drew AB.out.drew)
          clear YY BT
          first
          | (gi_region_with_o (first
              | ((refine ⟨trivial, rfl, ?_⟩); (with_reducible refine BTD.out.mono ?_); rintro e w4 ⟨rfl, hb4⟩; have U4 : Hid (Below wb.heap.size wb w4) := Lib.hid (below_go (Below.refl _ wb).drew hb4); have k0 := (UK.out w4 U4.out).cell 0 (show _ = some (Value.int .i64 1) from rfl); have k1 := (UK.out w4 U4.out).cell 1 (show _ = some (Value.func (.func 89) #[] #[]) from rfl); clear hb4; have hyy := UY.out w4 U4.out; obtain ⟨fn, tmps, assign, body, hy, hR⟩ := hyy; (try simp only at hy))
              | ((refine ⟨rfl, ?_⟩); (with_reducible refine hR.mono ?_); rintro e w6 ⟨rfl, hJ6, hk6⟩)))
          | fail "region"
          all_goals
            gi_wp2
            go_roundw
            case rel =>
              refine ⟨1 + 1, by omega, by go_num, Lib.hid (by rw [← HPR.out]; exact hJ6), Lib.hid ((UA.out w4 U4.out).trans (hk6.mono fun k _ h e => h (.inl e)))⟩
            case measure => simp [intOf]
        · have hj := hJj.out
          have JN : Hid (J ((List.range (i + 1)).flatMap (rngF L)) wr) := Lib.hid (by
            obtain ⟨T, u1, u2⟩ := HU.out
            rw [u2]
            have e : (rngF L i).take 2 = rngF L i := by rw [HGD.out]; rfl
            rwa [e] at hj)
          have AN := hAj
          clear hj hJj hAj
          gi_wp2
          go_roundw
          case rel => exact ⟨i + 1, by have := HLT.out; omega, by go_num, JN, AN⟩
          case measure => have := HLT.out; simp [intOf]; omega
    · have hz1 : ¬ (i : Int) < (L.length : Int) := by omega
      have hiN : i = L.length := by omega
      have JN : Hid (J (rngL L) wr) := Lib.hid (by have := hJi.out; rw [hiN] at this; exact this)
      clear hiN hlt hi
      gi_wp2
      go_end0
      exact ⟨⟨_, rfl⟩, JN.out⟩

theorem eg78 : ∀ args w, (callFunc 78 args).run Try.prog w = .ok (.enter 78 args) w := enters_of Try.func78 (by kernel_rfl) rfl

theorem ranges_any (a : Option Addr) (n c : Nat) (w : World) :
    Calls Try.prog 57 #[.slice a n c] w fun e w' => e = .returned (.func (.func 78) #[] #[.pointer (some ⟨w.heap.size, 0, none⟩)]) ∧ w' = w.alloc (.cells #[.slice a n c] 94) := by
  go_enter Try.func57, Try.ntmps57
  go_wp2_with fail
  go_ret
  exact ⟨rfl, rfl⟩

end Go.Proofs.Ytbbndcfnpfedpaa

namespace Go.Proofs.Ytbbndcfnpfedpaa
open Go.RowKit Go.Shelf

attribute [local go_sem] Oper.semAt_some

theorem rolls_all : rolls.all (fun p => decide (0 ≤ p.1) && decide (p.1 ≤ 10) && decide (0 ≤ p.2) && decide (p.2 ≤ p.1)) = true := by kernel_rfl
theorem rolls_in {p : Int × Int} (h : p ∈ rolls) : 0 ≤ p.1 ∧ p.1 ≤ 10 ∧ 0 ≤ p.2 ∧ p.2 ≤ p.1 := by
  have := List.all_eq_true.1 rolls_all p h
  simp only [Bool.and_eq_true, decide_eq_true_eq] at this
  exact ⟨this.1.1.1, this.1.1.2, this.1.2, this.2⟩
theorem games_in {ws : List Wd} {s : Int → Bool} {fr : Int} {p : Int × Int} (h : p ∈ gamesL ws s fr) : p ∈ rolls ∧ fitsB ws s fr p.1 p.2 = true := by
  unfold gamesL at h
  exact List.mem_filter.1 h

theorem gofE_zero {l : Lan} {ts : List Int} (h : gofE l ts = 0) : chkE l ts = 0 ∧ possB l (offS ts) = true := by
  unfold gofE at h
  split at h
  · next h0 =>
    refine ⟨h0, ?_⟩
    split at h
    · next h1 => exact h1
    · omega
  · next h0 => exact absurd h h0
theorem gofL_ok {l : Lan} {ts : List Int} (h : gofE l ts = 0) : gofL l ts = frmL l (offS ts) := by unfold gofL; rw [if_pos h]
theorem gofL_no {l : Lan} {ts : List Int} (h : gofE l ts ≠ 0) : gofL l ts = [] := by unfold gofL; rw [if_neg h]
theorem gofL_mem {l : Lan} {ts : List Int} {gs : List (Int × Int)} (h : gs ∈ gofL l ts) : gs.length ≤ 66 ∧ ∀ p ∈ gs, 0 ≤ p.1 ∧ p.1 ≤ 10 ∧ 0 ≤ p.2 ∧ p.2 ≤ p.1 := by
  unfold gofL at h
  split at h
  · unfold frmL at h
    obtain ⟨f, _, rfl⟩ := List.mem_map.1 h
    exact ⟨games_len _ _ _, fun p hp => rolls_in (games_in hp).1⟩
  · simp at h
theorem gofL_len (l : Lan) (ts : List Int) : (gofL l ts).length ≤ 5 := by
  unfold gofL
  split
  · next h =>
    have := (fault0 (chkE_zero (gofE_zero h).1).1).2.2.2.1
    unfold frmL; simp; omega
  · simp

def prodN (L : List (List (Int × Int))) : Nat := L.foldl (fun n g => n * g.length) 1
theorem prodN_snoc (L : List (List (Int × Int))) (g : List (Int × Int)) : prodN (L ++ [g]) = prodN L * g.length := by unfold prodN; rw [List.foldl_append]; rfl
theorem prodN_le (L : List (List (Int × Int))) (h : ∀ g ∈ L, g.length ≤ 66) : prodN L ≤ 66 ^ L.length := by
  have key : ∀ (L : List (List (Int × Int))) (n : Nat), (∀ g ∈ L, g.length ≤ 66) → L.foldl (fun n g => n * g.length) n ≤ n * 66 ^ L.length := by
    intro L
    induction L with
    | nil => intro n _; simp
    | cons g L ih =>
      intro n h
      refine Nat.le_trans (ih (n * g.length) (fun x hx => h x (by simp [hx]))) ?_
      rw [List.length_cons, Nat.pow_succ, Nat.mul_comm (66 ^ L.length) 66, ← Nat.mul_assoc]
      exact Nat.mul_le_mul_right _ (Nat.mul_le_mul_left _ (h g (by simp)))
  have := key L 1 h
  rw [Nat.one_mul] at this
  exact this
def manyN (l : Lan) (ts : List Int) : Nat := if gofE l ts = 0 then prodN (gofL l ts) else 0

set_option maxRecDepth 100000 in
set_option maxHeartbeats 8000000 in
theorem many_any (l : Lan) (ts : List Int) (a : Option Addr) (c : Nat) (w : World) (hL : WdsAt w l.wa l.ws) (hX : IntsAt w a ts) (hn : l.ws.length ≤ 1000) (hm : ts.length ≤ 1000) (hga : ∀ g o, l.wa = some ⟨g, o, none⟩ → g < w.heap.size) :
    Calls Try.prog 30 #[l.val, .slice a ts.length c] w fun e w' => e = .returned (.tuple #[.int .i64 (manyN l ts : Nat), .int .i64 (gofE l ts)]) ∧ Below w.heap.size w w' := by
  have GO := Lib.hid (fun W (hb : Below w.heap.size w W) => gamesOf_any l ts a c W (hL.lo hb) (hX.lo hb) hn hm (fun g o e => Nat.lt_of_lt_of_le (hga g o e) hb.size))
  have HM : Hid (manyN l ts = if gofE l ts = 0 then prodN (gofL l ts) else 0) := Lib.hid rfl
  have HLe : Hid (∀ gs ∈ gofL l ts, gs.length ≤ 66) := Lib.hid fun gs h => (gofL_mem h).1
  have HL5 := Lib.hid (gofL_len l ts)
  have B0 := Lib.hid (below_al w (.cells #[.int .i64 l.fs, .slice l.wa l.ws.length l.wc] 32))
  unfold GofR at GO
  generalize manyN l ts = MN at *
  generalize gofE l ts = E at *
  generalize gofL l ts = L at *
  unfold Lan.val at *
  clear hL hX hn hm hga
  go_enter Try.func30, Try.ntmps30
  go_wp2_with fail
  refine (GO.out _ B0.out).mono ?_
  rintro e w1 ⟨aL, cL, rfl, hfr, hb1⟩
  have B1 := Lib.hid (below_go B0.out hb1)
  have HFR := Lib.hid hfr
  clear hb1 hfr B0 GO
  by_cases hE : E = 0
  · have HMN : Hid (MN = prodN L) := Lib.hid (by rw [HM.out, if_pos hE])
    subst hE
    have hl5 : L.length ≤ 5 := HL5.out
    go_wp2_with fail
    go_loopg [8, 22] L.length (fun g s8 s22 wx => ∃ i : Nat, i ≤ L.length ∧ g = L.length - i ∧ s22 = .int .i64 (i : Int) ∧ s8 = .int .i64 (prodN (L.take i) : Nat) ∧ wx = w1)
    case atStart => exact ⟨0, by omega, by omega, rfl, rfl, rfl⟩
    case round =>
      obtain ⟨i, hi, rfl, rfl, rfl, rfl⟩ := hrel
      by_cases hlt : i < L.length
      · have hz0 : (0 : Int) ≤ (i : Int) := by omega
        have hz1 : (i : Int) < (L.length : Int) := by omega
        obtain ⟨gs, hgs⟩ : ∃ gs, L[i]? = some gs := ⟨L[i]'hlt, List.getElem?_eq_getElem _⟩
        obtain ⟨g, o, a', c', rfl, hgb, k1, k2, k3⟩ := HFR.out i gs hgs
        have e2 : IntKind.i64.wrap ((i : Int) + 1) = (i : Int) + 1 := IntWalk.i64_in _ (by omega)
        have hg6 := HLe.out gs (List.mem_of_getElem? hgs)
        have HT := Lib.hid (show prodN (L.take (i + 1)) = prodN (L.take i) * gs.length by rw [take_next hgs, prodN_snoc])
        have hpl : prodN (L.take i) ≤ 66 ^ 4 := by
          refine Nat.le_trans (prodN_le _ (fun g hg => HLe.out g (List.mem_of_mem_take hg))) ?_
          rw [List.length_take]
          exact Nat.pow_le_pow_right (by omega) (by omega)
        have e3 : IntKind.i64.wrap ((prodN (L.take i) : Int) * (gs.length : Int)) = (prodN (L.take i) : Int) * (gs.length : Int) := IntWalk.i64_in _ (by
          have h1 : prodN (L.take i) * gs.length ≤ 66 ^ 4 * 66 := Nat.mul_le_mul hpl hg6
          have h2 : ((prodN (L.take i) * gs.length : Nat) : Int) = (prodN (L.take i) : Int) * (gs.length : Int) := by simp
          omega)
        clear hgs hgb k2 k3 hg6 hpl
        go_wp2_with fail
        go_roundg (L.length - (i + 1))
        case measure => omega
        case rel => exact ⟨i + 1, by omega, rfl, by simp, by rw [HT.out]; simp, rfl⟩
      · have hz1 : ¬ (i : Int) < (L.length : Int) := by omega
        have HR := Lib.hid (show prodN (L.take i) = MN by rw [HMN.out, List.take_of_length_le (by omega)])
        clear hlt
        go_wp2_with fail
        go_returns
        exact ⟨by rw [HR.out]; first | done | rfl, B1.out⟩
  · have HMN : Hid (MN = 0) := Lib.hid (by rw [HM.out, if_neg hE])
    have hE2 : (E == 0) = false := by simpa using hE
    go_wp2_with fail
    go_returns
    exact ⟨by rw [HMN.out]; first | done | rfl, B1.out⟩

end Go.Proofs.Ytbbndcfnpfedpaa

namespace Go.Proofs.Ytbbndcfnpfedpaa
open Go.RowKit Go.Shelf

attribute [local go_sem] Oper.semAt_some

theorem info41 : (Try.prog.info? 41).map (fun i => (i.zero, i.size, i.bytes)) = some (some (.agg #[.int .i64 0, .int .i64 0]), 2, 16) := by kernel_rfl

def rngsL (l : Lan) (ts : List Int) : List (Int × Int) := (rngL (gofL l ts)).map fun x => x.2
def fellL (gs : List (Int × Int)) : Int × Int := spanL (gs.map fun p => 10 - p.2)
def cntStep (c : Int × Int) (gs : List (Int × Int)) : Int × Int := (c.1 + (fellL gs).1, c.2 + (fellL gs).2)
def cntL (L : List (List (Int × Int))) : Int × Int := L.foldl cntStep (0, 0)
theorem cntL_snoc (L : List (List (Int × Int))) (gs : List (Int × Int)) : cntL (L ++ [gs]) = cntStep (cntL L) gs := by unfold cntL; rw [List.foldl_append]; rfl

theorem spanL_in {ns : List Int} (h : ∀ n ∈ ns, 0 ≤ n ∧ n ≤ 10) : 0 ≤ (spanL ns).1 ∧ (spanL ns).1 ≤ 10 ∧ 0 ≤ (spanL ns).2 ∧ (spanL ns).2 ≤ 10 := by
  cases ns with
  | nil => simp [spanL]
  | cons n ns =>
    have h0 := h n (by simp)
    refine fold_inv (fun r : Int × Int => 0 ≤ r.1 ∧ r.1 ≤ 10 ∧ 0 ≤ r.2 ∧ r.2 ≤ 10) spanStep ns (n, n) ⟨h0.1, h0.2, h0.1, h0.2⟩ fun r x hx hr => ?_
    have h1 := h x (by simp [hx])
    unfold spanStep
    simp only
    omega
theorem fellL_in {gs : List (Int × Int)} (h : ∀ p ∈ gs, 0 ≤ p.2 ∧ p.2 ≤ 10) : 0 ≤ (fellL gs).1 ∧ (fellL gs).1 ≤ 10 ∧ 0 ≤ (fellL gs).2 ∧ (fellL gs).2 ≤ 10 := by
  refine spanL_in fun n hn => ?_
  obtain ⟨p, hp, rfl⟩ := List.mem_map.1 hn
  have := h p hp
  omega
theorem cntL_in {L : List (List (Int × Int))} (h : ∀ gs ∈ L, ∀ p ∈ gs, 0 ≤ p.2 ∧ p.2 ≤ 10) : 0 ≤ (cntL L).1 ∧ (cntL L).1 ≤ 10 * (L.length : Int) ∧ 0 ≤ (cntL L).2 ∧ (cntL L).2 ≤ 10 * (L.length : Int) := by
  have key : ∀ (L : List (List (Int × Int))) (c : Int × Int) (k : Int), (∀ gs ∈ L, ∀ p ∈ gs, 0 ≤ p.2 ∧ p.2 ≤ 10) → (0 ≤ c.1 ∧ c.1 ≤ k ∧ 0 ≤ c.2 ∧ c.2 ≤ k) → 0 ≤ (L.foldl cntStep c).1 ∧ (L.foldl cntStep c).1 ≤ k + 10 * (L.length : Int) ∧ 0 ≤ (L.foldl cntStep c).2 ∧ (L.foldl cntStep c).2 ≤ k + 10 * (L.length : Int) := by
    intro L
    induction L with
    | nil => intro c k _ hc; simpa using hc
    | cons g L ih =>
      intro c k h hc
      have hg := fellL_in (h g (by simp))
      have := ih (cntStep c g) (k + 10) (fun gs hgs => h gs (by simp [hgs])) (by unfold cntStep; simp only; omega)
      rw [List.length_cons]
      simp only [List.foldl_cons]
      omega
  have := key L (0, 0) 0 h (by simp)
  simpa [cntL] using this

/-- What Ranges stands on: N + 1 the ranges of places, N + 2 that of the count. -/
structure RG (L : List (List (Int × Int))) (aF : Option Addr) (lo up base : Nat) (w W : World) (v : Value) (xs : List (Int × Int)) (cn : Int × Int) : Prop where
  b4 : Boxed W (w.heap.size + 1) 39 v
  ow : W.ownsRow base 41 2 v xs.length (p2Cells xs)
  b5 : Blk W (w.heap.size + 1 + 1) #[.int .i64 cn.1, .int .i64 cn.2] 41
  fr : FrAt lo up W aF L
  al : Alt (fun k => w.heap.size ≤ k) w W
theorem RG.far {L : List (List (Int × Int))} {aF : Option Addr} {lo up base : Nat} {w W W' : World} {v : Value} {xs : List (Int × Int)} {cn : Int × Int} {p : Nat → Prop} (h : RG L aF lo up base w W v xs cn) (ha : Alt p W W')
    (h1 : ¬ p (w.heap.size + 1)) (h2 : ¬ p (w.heap.size + 1 + 1)) (h3 : ∀ k, base ≤ k → ¬ p k) (h4 : ∀ k, lo ≤ k → k < up → ¬ p k) (h5 : ∀ k, k < W.heap.size → p k → w.heap.size ≤ k) : RG L aF lo up base w W' v xs cn :=
  ⟨Boxed.alt h.b4 ha h1, ownsRow_alt h.ow ha h3, Blk.alt h.b5 ha h2, h.fr.alt ha h4, h.al.trans (ha.mono h5)⟩
theorem RG.lo {L : List (List (Int × Int))} {aF : Option Addr} {lo up base : Nat} {w W W' : World} {v : Value} {xs : List (Int × Int)} {cn : Int × Int} (h : RG L aF lo up base w W v xs cn) (hb : Below W.heap.size W W') : RG L aF lo up base w W' v xs cn :=
  h.far (p := fun _ => False) (Alt.of_below hb (fun k hk e => by omega)) id id (fun _ _ => id) (fun _ _ _ => id) (fun _ _ h => h.elim)

theorem RG.push {L : List (List (Int × Int))} {aF : Option Addr} {lo up base : Nat} {w W w1 : World} {v v' : Value} {xs ys : List (Int × Int)} {y : Int × Int} {cn : Int × Int} {tmp : Obj} (h : RG L aF lo up base w W v xs cn)
    (h1 : w.heap.size + 3 ≤ lo) (h2 : lo ≤ up) (h3 : up ≤ base) (hown' : w1.ownsRow base 41 2 v' (xs.length + 1) (p2Cells xs ++ p2C y)) (hgrow : (W.alloc tmp).grownBy w1 v.ownBlock) (hys : ys = xs ++ [y]) :
    Boxed w1 (w.heap.size + 1) 39 v ∧ RG L aF lo up base w (w1.setCell ⟨w.heap.size + 1, 0, none⟩ v') v' ys cn ∧ Alt (fun k => k = w.heap.size + 1 ∨ base ≤ k) W (w1.setCell ⟨w.heap.size + 1, 0, none⟩ v') := by
  obtain ⟨g1, g2, g3, g4⟩ := boxed_app h.b4 (by decide) h.ow hown' hgrow
  subst hys
  refine ⟨g1, ⟨g2, ?_, Blk.alt h.b5 g4 (by omega), h.fr.alt g4 (fun k a b c => by omega), h.al.trans (g4.mono fun k _ e => by omega)⟩, g4⟩
  rw [p2Cells_snoc, List.length_append]
  exact g3
theorem RG.cnt {L : List (List (Int × Int))} {aF : Option Addr} {lo up base : Nat} {w W : World} {v : Value} {xs : List (Int × Int)} {cn : Int × Int} (h : RG L aF lo up base w W v xs cn) (h1 : w.heap.size + 3 ≤ lo) (h2 : lo ≤ up) (h3 : up ≤ base) (x y : Int) :
    RG L aF lo up base w ((W.setCell ⟨w.heap.size + 1 + 1, 0, none⟩ (.int .i64 x)).setCell ⟨w.heap.size + 1 + 1, 1, none⟩ (.int .i64 y)) v xs (x, y) := by
  obtain ⟨g1, g2⟩ := h.b5.put2 (.int .i64 x) (.int .i64 y)
  exact ⟨Boxed.alt h.b4 g2 (by omega), ownsRow_alt h.ow g2 (fun k hk => by omega), g1, h.fr.alt g2 (fun k a b c => by omega), h.al.trans (g2.mono fun k _ e => by omega)⟩

/-- To store what lies there is to do nothing. -/
theorem setCell_eq {W : World} {b i : Nat} {cs : Array Value} {t : TypeId} {v : Value} (h : Blk W b cs t) (hv : cs[i]? = some v) : W.setCell ⟨b, i, none⟩ v = W := by
  have hlt := h.lt
  have hb := (Array.getElem?_eq_some_iff.1 (show W.heap[b]? = _ from h)).2
  have e : (W.setCell ⟨b, i, none⟩ v).heap = W.heap := by
    apply Array.ext_getElem?
    intro j
    by_cases hj : j = b
    · subst hj
      have h1 := Blk.setAt h i v
      have e2 : cs.setIfInBounds i v = cs := by
        apply Array.ext_getElem?
        intro m
        rw [Array.getElem?_setIfInBounds]
        split
        · next hm => subst hm; split
                     · exact hv.symm
                     · next hm2 => rw [Array.getElem?_eq_none (by omega)]
        · rfl
      rw [e2] at h1
      exact (show _ = some (Obj.cells cs t (0, 0)) from h1).trans (show W.heap[j]? = some (Obj.cells cs t (0, 0)) from h).symm
    · exact Below.heap_setCell _ _ _ _ hj
  calc W.setCell ⟨b, i, none⟩ v = { W with heap := (W.setCell ⟨b, i, none⟩ v).heap } := rfl
    _ = W := by rw [e]

theorem rngL_len (L : List (List (Int × Int))) : (rngL L).length = 2 * L.length := by
  have key : ∀ n, ((List.range n).flatMap (rngF L)).length = 2 * n := fun n => by
    induction n with
    | zero => rfl
    | succ n ih => rw [flat_take, List.length_append, ih]; rfl
  exact key _

def RngR (l : Lan) (ts : List Int) (w : World) (e : Ending) (w' : World) : Prop := ∃ a c, e = .returned (.tuple #[.slice a (rngsL l ts).length c, .agg #[.int .i64 (cntL (gofL l ts)).1, .int .i64 (cntL (gofL l ts)).2], .int .i64 (gofE l ts)]) ∧ P2At w' a (rngsL l ts) ∧ (∀ g o, a = some ⟨g, o, none⟩ → w.heap.size ≤ g ∧ g < w'.heap.size) ∧ Below w.heap.size w w'

set_option maxRecDepth 100000 in
set_option maxHeartbeats 8000000 in
theorem rangesP_any (l : Lan) (ts : List Int) (a : Option Addr) (c : Nat) (w : World) (hL : WdsAt w l.wa l.ws) (hX : IntsAt w a ts) (hn : l.ws.length ≤ 1000) (hm : ts.length ≤ 1000) (hga : ∀ g o, l.wa = some ⟨g, o, none⟩ → g < w.heap.size) :
    Calls Try.prog 26 #[l.val, .slice a ts.length c] w (RngR l ts w) := by
  have GO := Lib.hid (fun W (hb : Below w.heap.size w W) => gamesOf_any l ts a c W (hL.lo hb) (hX.lo hb) hn hm (fun g o e => Nat.lt_of_lt_of_le (hga g o e) hb.size))
  have HRL : Hid (rngsL l ts = (rngL (gofL l ts)).map fun x => x.2) := Lib.hid rfl
  have HLe : Hid (∀ gs ∈ gofL l ts, gs.length ≤ 66) := Lib.hid fun gs h => (gofL_mem h).1
  have HLq : Hid (∀ gs ∈ gofL l ts, ∀ p ∈ gs, 0 ≤ p.2 ∧ p.2 ≤ 10) := Lib.hid fun gs h p hp => by have := (gofL_mem h).2 p hp; omega
  have HL5 := Lib.hid (gofL_len l ts)
  have HNO : Hid (gofE l ts ≠ 0 → gofL l ts = []) := Lib.hid gofL_no
  have R0 := Lib.hid (fun lo up base (wx : World) (h : wx = ((w.alloc (.cells #[.int .i64 l.fs, .slice l.wa l.ws.length l.wc] 32)).alloc (.cells #[.slice none 0 0] 39)).alloc (.cells #[.int .i64 0, .int .i64 0] 41)) => (show RG [] none lo up base w wx (.slice none 0 0) [] (0, 0) from by
    subst h
    refine ⟨?_, ⟨rfl, .inl ⟨rfl, rfl⟩⟩, ?_, fun i gs h => by simp at h, (((Alt.refl _ _).alloc _).alloc _).alloc _⟩
    · have := Boxed.alt (p := fun _ => False) (Boxed.new (w.alloc (.cells #[.int .i64 l.fs, .slice l.wa l.ws.length l.wc] 32)) 39 (.slice none 0 0)) ((Alt.refl _ _).alloc (.cells #[.int .i64 0, .int .i64 0] 41)) id
      rwa [World.size_alloc] at this
    · have := Blk.new ((w.alloc (.cells #[.int .i64 l.fs, .slice l.wa l.ws.length l.wc] 32)).alloc (.cells #[.slice none 0 0] 39)) #[.int .i64 0, .int .i64 0] 41
      rwa [World.size_alloc, World.size_alloc] at this))
  unfold RngR
  unfold GofR at GO
  generalize rngsL l ts = RL at *
  generalize gofE l ts = E at *
  generalize gofL l ts = L at *
  unfold Lan.val at *
  clear hL hX hn hm hga
  refine (callsIn_wide (n := 0)).1 ?_
  refine callsIn_of_wp_marks Try.func26 rfl trivial ?_ rfl
  simp only [Try.ntmps26, List.size_toArray, List.length_cons, List.length_nil, Nat.reduceAdd, Nat.reduceSub, Array.replicate_succ, Array.replicate_zero, List.push_toArray, List.append_toArray, List.nil_append, List.cons_append]
  gi_wp2
  have hz3 : (((w.alloc (.cells #[.int .i64 l.fs, .slice l.wa l.ws.length l.wc] 32)).alloc (.cells #[.slice none 0 0] 39)).alloc (.cells #[.int .i64 0, .int .i64 0] 41)).heap.size = w.heap.size + 3 := by simp
  generalize hW3 : (World.alloc (World.alloc (World.alloc _ _) _) _) = W3
  have R3 := Lib.hid (fun lo up base => R0.out lo up base W3 hW3.symm)
  have B3 := Lib.hid (show Below w.heap.size w W3 from by rw [← hW3]; exact below_al2 (below_al2 (below_al _ _) _) _)
  rw [hW3] at hz3
  have HZ3 := Lib.hid hz3
  clear hW3 R0 hz3
  refine ⟨trivial, rfl, ?_⟩
  refine (callsIn_wide (n := 0).2 (GO.out _ B3.out)).mono ?_
  rintro e w1 ⟨aL, cL, rfl, hfr, hb1⟩
  have HFR := Lib.hid hfr
  have R1 := Lib.hid (fun lo up base => (R3.out lo up base).lo hb1)
  have HZ1 := Lib.hid hb1.size
  clear hfr GO hb1
  by_cases hE : E = 0
  · subst hE
    obtain ⟨i0, hi, hy0, hy1, hy2⟩ := info_parts info41
    gi_wp2
    refine ⟨trivial, rfl, ?_⟩
    refine (callsIn_wide (n := 0).2 (ranges_any aL L.length cL w1)).mono ?_
    rintro e W0 ⟨rfl, hW0⟩
    have hz0 : W0.heap.size = w1.heap.size + 1 := by rw [hW0]; simp
    have X0 : ∀ p, Alt p w1 W0 := fun p => by rw [hW0]; exact (Alt.refl _ _).alloc _
    have FR0 := HFR.out.alt (X0 fun _ => False) (fun _ _ _ => id)
    have IT := Lib.hid (ranges1_iter L aL cL W3.heap.size w1.heap.size w1.heap.size W0 (by rw [hW0]; exact Boxed.new _ _ _) FR0 (by omega) (by have := HL5.out; omega) (fun gs h => by have := HLe.out gs h; omega))
    have RI := Lib.hid (show RG L aL W3.heap.size w1.heap.size (W0.heap.size + (2 + 0)) w W0 (.slice none 0 0) [] (0, 0) from by
      have r := (R1.out W3.heap.size w1.heap.size (W0.heap.size + (2 + 0))).far (X0 fun _ => False) id id (fun _ _ => id) (fun _ _ _ => id) (fun _ _ h => h.elim)
      exact ⟨r.b4, r.ow, r.b5, FR0, r.al⟩)
    have HZ0 := Lib.hid hz0
    clear hW0 X0 FR0 R1 R3 HFR hz0
    generalize w1.heap.size = up at *
    have H12 := Lib.hid (show w.heap.size + 3 ≤ W3.heap.size by have := HZ3.out; omega)
    clear HZ3 B3
    generalize W3.heap.size = lo at *
    obtain ⟨base, hbase⟩ : ∃ base, base = W0.heap.size + (2 + 0) := ⟨_, rfl⟩
    rw [← hbase] at RI
    have HBS := Lib.hid hbase
    have HBU := Lib.hid (show up ≤ base by have := HZ0.out; omega)
    clear hbase
    gi_wp2
    refine wp_iterT (gf := 78) (lb := #[.pointer (some ⟨up, 0, none⟩)]) rfl eg78 IT.out (fun k h => ?rd) (fun _ => rfl)
      (fun k => k = w.heap.size + 1 ∨ base ≤ k) (fun k h => ?hM)
      (fun pre A => ∃ v, RG L aL lo up base w A v (pre.map fun x => x.2) (0, 0))
      (fun pre x a1 A => (∃ v, RG L aL lo up base w A v (pre.map fun x => x.2) (0, 0)) ∧ ∃ b9, base ≤ b9 ∧ Blk A b9 #[.int .i64 x.2.1, .int .i64 x.2.2] 41 ∧ a1 = { tmps := #[.agg #[.int .i64 l.fs, .slice l.wa l.ws.length l.wc], .slice a ts.length c, .pointer (some ⟨w.heap.size, 0, none⟩), undef, .pointer (some ⟨w.heap.size + 1, 0, none⟩), .pointer (some ⟨w.heap.size + 1 + 1, 0, none⟩), .int .i64 0, .slice aL L.length cL, undef, .pointer (some ⟨b9, 0, none⟩), undef, undef, undef, .tuple #[.slice aL L.length cL, .int .i64 0], .agg #[.int .i64 l.fs, .slice l.wa l.ws.length l.wc], .slice a ts.length c, .tuple #[.slice aL L.length cL, .int .i64 0], .slice aL L.length cL, .int .i64 0, .int .i64 0, .bool false, undef, undef, .slice aL L.length cL, .func (.func 78) #[] #[.pointer (some ⟨up, 0, none⟩)], .agg #[.int .i64 x.1.1, .int .i64 x.1.2], .agg #[.int .i64 x.2.1, .int .i64 x.2.2], undef, undef, undef, undef, undef, undef, undef, undef, undef, undef, undef, undef, undef, undef, undef, undef, undef, undef, undef, undef, undef, undef, undef, undef, undef, undef, undef], defers := [] })
      (fun pre A B h hAB => ?stI) (fun pre x a A B h hAB => ?stM) ⟨_, RI.out⟩ ?assign ?body ?done
    case rd =>
      have := HZ0.out; have := H12.out; have := HZ1.out
      rcases h with rfl | ⟨h1, h2⟩ <;> omega
    case hM =>
      have := HZ0.out; have := H12.out; have := HZ1.out; have := HBS.out
      refine ⟨fun h2 => ?_, fun h2 => ?_⟩
      · rcases h2 with rfl | ⟨h1, h2⟩ <;> omega
      · unfold Rng at h2; omega
    case stI =>
      have := HZ0.out; have := H12.out; have := HZ1.out; have := HBS.out
      obtain ⟨v, hG⟩ := h
      exact ⟨v, hG.far hAB (fun e => by unfold Rng at e; omega) (fun e => by unfold Rng at e; omega) (fun k hk e => by unfold Rng at e; omega) (fun k h1 h2 e => by unfold Rng at e; omega) (fun k _ e => by unfold Rng at e; omega)⟩
    case stM =>
      have := HZ0.out; have := H12.out; have := HZ1.out; have := HBS.out
      obtain ⟨⟨v, hG⟩, b9, hb9, k9, e⟩ := h
      exact ⟨⟨v, hG.far hAB (fun e => by unfold Rng at e; omega) (fun e => by unfold Rng at e; omega) (fun k hk e => by unfold Rng at e; omega) (fun k h1 h2 e => by unfold Rng at e; omega) (fun k _ e => by unfold Rng at e; omega)⟩, b9, hb9, Blk.alt k9 hAB (fun e => by unfold Rng at e; omega), e⟩
    case assign =>
      intro l2 pre x post A hx hzA hl hr h
      have HX := Lib.hid (show base ≤ A.heap.size by have := HBS.out; omega)
      have HH := Lib.hid h
      unfold rgEnc
      clear hx hzA hl hr h
      gi_wp2
      obtain ⟨v, hG⟩ := HH.out
      exact ⟨(Alt.refl _ _).alloc _, ⟨v, hG.far (p := fun _ => False) ((Alt.refl _ _).alloc _) id id (fun _ _ => id) (fun _ _ _ => id) (fun _ _ h => h.elim)⟩, A.heap.size, HX.out, Blk.new _ _ _, rfl⟩
    case body =>
      rintro l2 pre x post a1 A hx hzA hl hr ⟨⟨v, hG⟩, b9, hb9, k9, rfl⟩
      have HPL := Lib.hid (show pre.length + 1 ≤ 10 by have h9 := congrArg List.length hx; rw [rngL_len] at h9; simp at h9; have := HL5.out; omega)
      have HBZ := Lib.hid (show base ≤ A.heap.size by have := HBS.out; omega)
      have c4 := hG.b4.cell
      obtain ⟨x1, p, q⟩ := x
      simp only at k9
      have c1 := k9.cell 0 (show _ = some (Value.int .i64 p) from rfl)
      have c2 := k9.cell 1 (show _ = some (Value.int .i64 q) from rfl)
      have HML := Lib.hid (show (pre.map fun x => x.2).length = pre.length by simp)
      have HMS := Lib.hid (show (pre ++ [(x1, p, q)]).map (fun x => x.2) = (pre.map fun x => x.2) ++ [(p, q)] by simp)
      generalize pre.map (fun x => x.2) = xs at *
      have PU := Lib.hid (fun w1 v' ho hg => RG.push (w1 := w1) (v' := v') (ys := xs ++ [(p, q)]) (y := (p, q)) (tmp := .cells #[.int .i64 p, .int .i64 q] 41) hG H12.out HZ1.out HBU.out ho hg rfl)
      rw [HML.out] at PU
      have OW := hG.ow
      rw [HML.out] at OW
      clear hx hzA hl hr k9 hG
      gi_wp2_with (gi_at_builtin; refine wpListIn_append_own _ rfl _ _ 39 rfl base 41 i0 _ 2 16 Try.underlying39 hi hy0 hy1 hy2 rfl (by decide) _ _ _ rfl (OW.alloc _) ⟨A.heap.size, 0, none⟩ 1 1 (p2C (p, q)) rfl rfl (World.news_of_block (cs := #[.int .i64 p, .int .i64 q]) (t := 41) (fr := (0, 0)) (heap_alloc_new A _)) (by simp [Value.oneCell', p2C]) (by unfold maxLen; have := HPL.out; omega) (by have := HPL.out; omega) (by have := HBZ.out; simp; omega) ?_; intro v' w1 hown' hgrow _; obtain ⟨g', cap', rfl, _, _⟩ := hown'.form (by omega); obtain ⟨hv1, hr2, ha2⟩ := PU.out _ _ hown' hgrow; have hc1 := hv1.cell; have hf1 := hv1.frozen)
      exact ⟨ha2, _, by rw [HMS.out]; exact hr2⟩
    case done =>
      rintro B ⟨v, hG⟩ hzB hK
      have HK := Lib.hid hK
      have HG0 := Lib.hid hG
      rw [← HRL.out] at HG0
      clear hK hG hzB
      gi_wp2
      gi_loopw [33] (fun s wx => ∃ i : Nat, i ≤ L.length ∧ s = .int .i64 (i : Int) ∧ Hid (RG L aL lo up base w wx v RL (cntL (L.take i))) ∧ Hid (wx.heap[W0.heap.size]? = some (.deferred (some [])))) (fun s wx => ((L.length : Int) - intOf s).toNat)
      case atStart => exact ⟨0, by omega, rfl, HG0, HK⟩
      case round =>
        obtain ⟨i, hi2, rfl, hR, hD⟩ := hrel
        clear HG0 HK
        by_cases hlt : i < L.length
        · have hz0 : (0 : Int) ≤ (i : Int) := by omega
          have hz1 : (i : Int) < (L.length : Int) := by omega
          obtain ⟨gs, hgs⟩ : ∃ gs, L[i]? = some gs := ⟨L[i]'hlt, List.getElem?_eq_getElem _⟩
          obtain ⟨g, o, a', c', rfl, hgb, k1, k2, k3⟩ := hR.out.fr i gs hgs
          have hmem := List.mem_of_getElem? hgs
          have BT := Lib.hid (callsIn_wide (n := 0).2 (between_59_any gs a' c' wr k2 (by have := HLe.out gs hmem; omega) (HLq.out gs hmem)))
          have HCN := Lib.hid (show cntL (L.take (i + 1)) = ((cntL (L.take i)).1 + (fellL gs).1, (cntL (L.take i)).2 + (fellL gs).2) by rw [take_next hgs, cntL_snoc]; rfl)
          have hF := fellL_in (HLq.out gs hmem)
          have hC := cntL_in (L := L.take i) (fun gs h => HLq.out gs (List.mem_of_mem_take h))
          have hln : ((L.take i).length : Int) ≤ 5 := by have := HL5.out; rw [List.length_take]; omega
          unfold fellL at HCN hF
          generalize spanL (gs.map fun p => 10 - p.2) = f at *
          generalize cntL (L.take i) = cn at *
          have e1 : IntKind.i64.wrap (cn.1 + f.1) = cn.1 + f.1 := IntWalk.i64_in _ (by omega)
          have e2 : IntKind.i64.wrap (cn.2 + f.2) = cn.2 + f.2 := IntWalk.i64_in _ (by omega)
          have e3 : IntKind.i64.wrap ((i : Int) + 1) = (i : Int) + 1 := IntWalk.i64_in _ (by have := HL5.out; omega)
          have HI := Lib.hid hlt
          clear hgs hgb k2 k3 hmem hF hC hln hlt hi2
          gi_wp2
          refine ⟨trivial, rfl, ?_⟩
          refine BT.out.mono ?_
          rintro e w4 ⟨rfl, hb4⟩
          have AL := Lib.hid (show ∀ p, Alt p wr (w4.alloc (.cells #[.int .i64 f.1, .int .i64 f.2] 41)) from fun p => (Alt.of_below hb4 (fun k hk e => by omega)).alloc _)
          have RN := Lib.hid (hR.out.far (AL.out fun _ => False) id id (fun _ _ => id) (fun _ _ _ => id) (fun _ _ h => h.elim))
          have DN := Lib.hid ((AL.out fun _ => False).obj hD.out id)
          have SZ4 := Lib.hid (show w.heap.size + 3 ≤ w4.heap.size by have := H12.out; have := HZ1.out; have h9 := hR.out.al.size; have h8 := hR.out.b5.lt; have := hb4.size; omega)
          have KF := Lib.hid (Blk.new w4 #[.int .i64 f.1, .int .i64 f.2] 41)
          have r0 := RN.out.b5.cell 0 (show _ = some (Value.int .i64 cn.1) from rfl)
          have r1 := RN.out.b5.cell 1 (show _ = some (Value.int .i64 cn.2) from rfl)
          have f0 := RN.out.b5.fr 0
          have f1 := RN.out.b5.fr 1
          have q0 := KF.out.cell 0 (show _ = some (Value.int .i64 f.1) from rfl)
          have q1 := KF.out.cell 1 (show _ = some (Value.int .i64 f.2) from rfl)
          have NE := Lib.hid (show w4.heap.size ≠ w.heap.size + 1 + 1 by have := SZ4.out; omega)
          have ne := NE.out
          have RC := Lib.hid (RN.out.cnt H12.out HZ1.out HBU.out (cn.1 + f.1) (cn.2 + f.2))
          have DC := Lib.hid (((Alt.refl (fun k => k = w.heap.size + 1 + 1) (w4.alloc (.cells #[.int .i64 f.1, .int .i64 f.2] 41))).setCell (q := ⟨w.heap.size + 1 + 1, 0, none⟩) rfl (.int .i64 (cn.1 + f.1))).setCell (q := ⟨w.heap.size + 1 + 1, 1, none⟩) rfl (.int .i64 (cn.2 + f.2)) |>.obj DN.out (by have := HZ0.out; have := H12.out; have := HZ1.out; omega))
          clear hb4 k1 hR hD BT
          gi_wp2
          generalize World.setCell _ _ _ = X at RC DC ⊢
          go_roundw
          case rel => exact ⟨i + 1, by have := HI.out; omega, by go_num, by rw [HCN.out]; exact RC, DC⟩
          case measure => have := HI.out; simp [intOf]; omega
        · have hz1 : ¬ (i : Int) < (L.length : Int) := by omega
          have hR2 := hR.out
          rw [List.take_of_length_le (by omega)] at hR2
          have RD := hR2.far (p := fun _ => False) (Alt.refl _ _).drew id id (fun _ _ => id) (fun _ _ _ => id) (fun _ _ h => h.elim)
          obtain ⟨aR, cR, rfl, hP, hB⟩ := own_p2 RD.ow
          have HP2 := Lib.hid hP
          have HB2 := Lib.hid hB
          have RDH := Lib.hid RD
          have hmx : Try.prog.follows .mixedOrders = true := by kernel_rfl
          have DD := Lib.hid ((Alt.refl (fun _ => False) wr).drew.obj hD.out id)
          have c4 := RD.b4.cell
          have f4 := RD.b4.frozen
          have c50 := RD.b5.cell 0 (show _ = some (Value.int .i64 (cntL L).1) from rfl)
          have c51 := RD.b5.cell 1 (show _ = some (Value.int .i64 (cntL L).2) from rfl)
          have f50 := RD.b5.fr 0
          have f51 := RD.b5.fr 1
          have s4 : wr.drew.setCell ⟨w.heap.size + 1, 0, none⟩ (.slice aR RL.length cR) = wr.drew := setCell_eq (cs := #[.slice aR RL.length cR]) RD.b4 rfl
          have s50 : wr.drew.setCell ⟨w.heap.size + 1 + 1, 0, none⟩ (.int .i64 (cntL L).1) = wr.drew := setCell_eq RD.b5 rfl
          have s51 : wr.drew.setCell ⟨w.heap.size + 1 + 1, 1, none⟩ (.int .i64 (cntL L).2) = wr.drew := setCell_eq RD.b5 rfl
          clear hR hR2 RD hlt hi2 hD hP hB
          gi_wp2
          first
          | (gi_region_with_o (fail))
          | fail "region"
          all_goals
            gi_wp2
            have r4 := (Boxed.alt RDH.out.b4 (Alt.put (p := fun k => k = W0.heap.size) (w := wr.drew) rfl (.deferred none)) (by have := HZ0.out; have := H12.out; have := HZ1.out; omega)).cell
            have rb := Blk.alt RDH.out.b5 (Alt.put (p := fun k => k = W0.heap.size) (w := wr.drew) rfl (.deferred none)) (by have := HZ0.out; have := H12.out; have := HZ1.out; omega)
            have r50 := rb.cell 0 (show _ = some (Value.int .i64 (cntL L).1) from rfl)
            have r51 := rb.cell 1 (show _ = some (Value.int .i64 (cntL L).2) from rfl)
            have hput : Alt (fun k => w.heap.size ≤ k) wr.drew (wr.drew.putObj W0.heap.size (.deferred none)) := Alt.put (by have := HZ0.out; have := H12.out; have := HZ1.out; omega) _
            refine leave_ret (v := .tuple #[.slice aR RL.length cR, .agg #[.int .i64 (cntL L).1, .int .i64 (cntL L).2], .int .i64 0]) DD.out (by simp [results, Try.results26, go_sem, r4, r50, r51]) ⟨aR, cR, rfl, ?_, fun g o e => ?_, (RDH.out.al.trans hput).below (Nat.le_refl _) fun _ h => h⟩
            · exact HP2.out.alt (Alt.put (p := fun k => k = W0.heap.size) (w := wr.drew) rfl (.deferred none)) (fun g o e => by have := HB2.out g o e; have := HBS.out; omega)
            · have h1 := HB2.out g o e
              have h2 := hput.size
              have := HBS.out; have := HZ0.out; have := H12.out; have := HZ1.out
              exact ⟨by omega, by omega⟩
  · have hE2 : (E == 0) = false := by simpa using hE
    have HN0 := HNO.out hE
    subst HN0
    have R1' := R1.out 0 0 0
    have c4 := R1'.b4.cell
    have f4 := R1'.b4.frozen
    have c50 := R1'.b5.cell 0 (show _ = some (Value.int .i64 0) from rfl)
    have c51 := R1'.b5.cell 1 (show _ = some (Value.int .i64 0) from rfl)
    have f50 := R1'.b5.fr 0
    have f51 := R1'.b5.fr 1
    have s4 : w1.setCell ⟨w.heap.size + 1, 0, none⟩ (.slice none 0 0) = w1 := setCell_eq (cs := #[.slice none 0 0]) R1'.b4 rfl
    have s50 : w1.setCell ⟨w.heap.size + 1 + 1, 0, none⟩ (.int .i64 0) = w1 := setCell_eq R1'.b5 rfl
    have s51 : w1.setCell ⟨w.heap.size + 1 + 1, 1, none⟩ (.int .i64 0) = w1 := setCell_eq R1'.b5 rfl
    have HB := Lib.hid (R1'.al.below (Nat.le_refl _) fun _ h => h)
    clear R1' R1 R3
    gi_wp2
    refine bodyPostM_ret0 (v := .tuple #[.slice none 0 0, .agg #[.int .i64 0, .int .i64 0], .int .i64 E]) (by simp [results, Try.results26, go_sem, c4, c50, c51]) ⟨none, 0, ?_, ?_, ?_, HB.out⟩
    · rw [HRL.out]; rfl
    · rw [HRL.out]; exact P2At.nil _ _
    · intro g o e; cases e

end Go.Proofs.Ytbbndcfnpfedpaa
