/- The contracts of games, at, some, possible. -/
import Derived.Test.YtbbndcfnpfedpaaSi
set_option linter.unusedVariables false
set_option linter.unusedSimpArgs false
namespace Go.Proofs.Ytbbndcfnpfedpaa
open Go.RowKit Go.Shelf

attribute [local go_sem] Oper.semAt_some

theorem allRolled_any (w : World) : Calls Try.prog 86 #[] w fun e w' => e = .returned (.func (.func 91) #[] #[]) ∧ w' = w := by
  go_enter Try.func86, Try.ntmps86
  go_wp2_with fail
  go_ret
  exact ⟨rfl, rfl⟩
theorem only_any (r : Value) (w : World) : Calls Try.prog 85 #[.func (.func 91) #[] #[], .func (.func 69) #[r] #[]] w fun e w' => e = .returned (.func (.func 90) #[] #[.pointer (some ⟨w.heap.size, 0, none⟩), .pointer (some ⟨w.heap.size + 1, 0, none⟩)]) ∧ w' = (w.alloc (.cells #[.func (.func 91) #[] #[]] 127)).alloc (.cells #[.func (.func 69) #[r] #[]] 120) := by
  go_enter Try.func85, Try.ntmps85
  go_wp2_with fail
  go_ret
  exact ⟨rfl, rfl⟩

structure GA (l : Lan) (s : Int → Bool) (fr : Int) (bL bF : Nat) (w W : World) : Prop where
  li : Boxed W bL 127 (.func (.func 91) #[] #[])
  is : Boxed W bF 120 (.func (.func 69) #[.agg (lookCells l s fr)] #[])
  bl : Below w.heap.size w W

theorem GA.mk' {l : Lan} {s : Int → Bool} {fr : Int} {w W : World} {N : Nat} (hN : W.heap.size = N) (h : Below w.heap.size w W) : GA l s fr N (N + 1) w ((W.alloc (.cells #[.func (.func 91) #[] #[]] 127)).alloc (.cells #[.func (.func 69) #[.agg (lookCells l s fr)] #[]] 120)) :=
  hN ▸ ⟨Boxed.alt (p := fun _ => False) (Boxed.new W 127 _) ((Alt.refl _ _).alloc _) id, by
    have := Boxed.new (W.alloc (.cells #[.func (.func 91) #[] #[]] 127)) 120 (.func (.func 69) #[.agg (lookCells l s fr)] #[])
    rwa [World.size_alloc] at this, below_al2 (below_al2 h _) _⟩
theorem GA.dr {l : Lan} {s : Int → Bool} {fr : Int} {bL bF : Nat} {w W : World} (h : GA l s fr bL bF w W) : GA l s fr bL bF w W.drew :=
  ⟨Boxed.alt (p := fun _ => False) h.li (Alt.refl _ _).drew id, Boxed.alt (p := fun _ => False) h.is (Alt.refl _ _).drew id, h.bl.drew⟩

set_option maxRecDepth 100000 in
set_option maxHeartbeats 4000000 in
theorem games_any (l : Lan) (s : Int → Bool) (fr : Int) (w : World) : Calls Try.prog 76 #[.agg (lookCells l s fr)] w fun e w' => ∃ bL bF, e = .returned (.func (.func 90) #[] #[.pointer (some ⟨bL, 0, none⟩), .pointer (some ⟨bF, 0, none⟩)]) ∧ GA l s fr bL bF w w' := by
  have GM := Lib.hid (fun W N (hN : W.heap.size = N) h => @GA.mk' l s fr w W N hN h)
  have B0 := Lib.hid (below_al w (.cells (lookCells l s fr) 118))
  have OA := Lib.hid (fun r W => only_any r W)
  have AR := Lib.hid (fun W => allRolled_any W)
  unfold lookCells at GM B0 ⊢
  go_enter Try.func76, Try.ntmps76
  go_wp2_with fail
  go_region_with (first
    | (go_at_call 86; (with_reducible refine (AR.out _).mono ?_); rintro e wA ⟨rfl, rfl⟩)
    | (go_at_call 85; (with_reducible refine (OA.out _ _).mono ?_); rintro e wB ⟨rfl, rfl⟩))
  all_goals
    go_wp2_with fail
    go_returns
    first
      | exact ⟨_, _, rfl, (GM.out _ _ (by simp) B0.out).dr⟩
      | exact ⟨_, _, rfl, GM.out _ _ (by simp) B0.out.drew⟩
      | exact ⟨_, _, rfl, GM.out _ _ (by simp) B0.out⟩

def wtCells (l : Lan) (s : Int → Bool) : Array Value := #[.int .i64 l.fs, .slice l.wa l.ws.length l.wc, .bool (s 0), .bool (s 1), .bool (s 2), .bool (s 3)]

set_option maxHeartbeats 2000000 in
theorem at_any (l : Lan) (s : Int → Bool) (fr : Int) (w : World) : Calls Try.prog 68 #[.agg (wtCells l s), .int .i64 fr] w fun e w' => e = .returned (.agg (lookCells l s fr)) ∧ Below w.heap.size w w' := by
  have B0 := Lib.hid (below_al2 (below_al w (.cells (wtCells l s) 90)) (.cells (lookCells l s fr) 118))
  unfold wtCells lookCells at *
  go_enter Try.func68, Try.ntmps68
  go_wp2_with fail
  go_returns
  exact ⟨rfl, by first | exact B0.out | skip⟩

def someB (ws : List Wd) (s : Int → Bool) (fr : Int) : Bool := !(gamesL ws s fr).isEmpty

set_option maxRecDepth 100000 in
set_option maxHeartbeats 4000000 in
theorem some_any (l : Lan) (s : Int → Bool) (fr : Int) (bL bF : Nat) (w : World) (hO : ONc l s fr bL bF w) (hT : ∀ x ∈ l.ws, 0 ≤ x.te ∧ x.te ≤ 3) (hn : l.ws.length ≤ 1000) (hga : ∀ g o, l.wa = some ⟨g, o, none⟩ → g < w.heap.size) :
    Calls Try.prog 75 #[.func (.func 90) #[] #[.pointer (some ⟨bL, 0, none⟩), .pointer (some ⟨bF, 0, none⟩)]] w fun e w' => e = .returned (.bool (someB l.ws s fr)) ∧ Below w.heap.size w w' := by
  have hRd : ∀ k, RdO l bL bF k → k < w.heap.size := fun k h => by
    rcases h with rfl | rfl | ⟨o, e⟩
    · exact hO.li.lt
    · exact hO.is.lt
    · exact hga _ _ e
  have HG : Hid (someB l.ws s fr = !(gamesL l.ws s fr).isEmpty) := Lib.hid rfl
  have IT := only1_iter l s fr bL bF (w.alloc (.cells #[.bool false] 4)) (hO.far (p := fun _ => False) ((Alt.refl _ _).alloc _) (fun _ _ => id)) hT hn (fun g o e => by have := hga g o e; simp; omega)
  have HRd := Lib.hid hRd
  have K0 := Lib.hid (Boxed.new w 4 (.bool false))
  have A0 := Lib.hid ((Alt.refl (fun k => w.heap.size ≤ k) w).alloc (.cells #[.bool false] 4))
  generalize gamesL l.ws s fr = xs at *
  generalize someB l.ws s fr = R at *
  have HIT := Lib.hid IT
  clear hO hT hn hga hRd IT
  refine (callsIn_wide (n := 0)).1 ?_
  refine callsIn_of_wp_marks Try.func75 rfl trivial ?_ rfl
  simp only [Try.ntmps75, List.size_toArray, List.length_cons, List.length_nil, Nat.reduceAdd, Nat.reduceSub, Array.replicate_succ, Array.replicate_zero, List.push_toArray, List.append_toArray, List.nil_append, List.cons_append]
  gi_wp2
  have hz0 : (w.alloc (.cells #[.bool false] 4)).heap.size = w.heap.size + 1 := by simp
  have HZ0 := Lib.hid hz0
  clear hz0
  generalize w.alloc _ = W0 at *
  refine wp_iterA (gf := 90) (lb := #[.pointer (some ⟨bL, 0, none⟩), .pointer (some ⟨bF, 0, none⟩)]) rfl eg90 HIT.out (fun k h => by have := HRd.out k h; have := HZ0.out; omega) (fun _ => rfl)
    (fun k => k = w.heap.size) (fun k h => ⟨fun h2 => by have := HRd.out k h2; omega, fun h2 => by have := HZ0.out; unfold Rng at h2; omega⟩)
    (fun pre A => pre = [] ∧ Boxed A w.heap.size 4 (.bool false) ∧ Alt (fun k => w.heap.size ≤ k) w A)
    (fun pre x a1 A => (pre = [] ∧ Boxed A w.heap.size 4 (.bool false) ∧ Alt (fun k => w.heap.size ≤ k) w A) ∧ a1 = { tmps := #[.func (.func 90) #[] #[.pointer (some ⟨bL, 0, none⟩), .pointer (some ⟨bF, 0, none⟩)], undef, .pointer (some ⟨w.heap.size, 0, none⟩), .func (.func 90) #[] #[.pointer (some ⟨bL, 0, none⟩), .pointer (some ⟨bF, 0, none⟩)], rVal x], defers := [] })
    (fun cd pre A => cd = Code.ret ∧ Boxed A w.heap.size 4 (.bool true) ∧ Alt (fun k => w.heap.size ≤ k) w A)
    (fun pre A B h hAB => ?stI) (fun pre x a A B h hAB => ?stM) (fun cd pre A B h hAB => ?stX) ⟨rfl, K0.out, A0.out⟩ ?assign ?body ?done ?stop
  case stI =>
    have := HZ0.out
    exact ⟨h.1, Boxed.alt h.2.1 hAB (fun e => by unfold Rng at e; omega), h.2.2.trans (hAB.mono fun k _ e => by unfold Rng at e; omega)⟩
  case stM =>
    have := HZ0.out
    exact ⟨⟨h.1.1, Boxed.alt h.1.2.1 hAB (fun e => by unfold Rng at e; omega), h.1.2.2.trans (hAB.mono fun k _ e => by unfold Rng at e; omega)⟩, h.2⟩
  case stX =>
    have := HZ0.out
    exact ⟨h.1, Boxed.alt h.2.1 hAB (fun e => by unfold Rng at e; omega), h.2.2.trans (hAB.mono fun k _ e => by unfold Rng at e; omega)⟩
  case assign =>
    intro l2 pre x post A hx hz hl hr h
    have HH := Lib.hid h
    clear hx hz hl hr h
    gi_wp2
    exact ⟨Alt.refl _ _, HH.out, by simp⟩
  case body =>
    rintro l2 pre x post a1 A hx hz hl hr ⟨⟨_, hb, hA⟩, rfl⟩
    have cb := hb.cell
    have fb := hb.frozen
    have HB := Lib.hid (hb.set (.bool true))
    have AS := Lib.hid ((Alt.refl (fun k => k = w.heap.size) A).setCell (q := ⟨w.heap.size, 0, none⟩) rfl (.bool true))
    have AT := Lib.hid hA
    clear hx hz hl hr hb hA
    gi_wp2
    exact ⟨AS.out, rfl, HB.out, AT.out.trans (AS.out.mono fun k _ e => by omega)⟩
  case done =>
    rintro B ⟨h1, h2, h3⟩ hz hK
    have HR : Hid (R = false) := Lib.hid (by rw [HG.out, h1]; rfl)
    have cb := h2.cell
    have fb := h2.frozen
    have HB := Lib.hid (h2.set (.bool false))
    have HA := Lib.hid ((h3.setCell (q := ⟨w.heap.size, 0, none⟩) (Nat.le_refl _) (.bool false)))
    have HK := Lib.hid (show (B.setCell ⟨w.heap.size, 0, none⟩ (.bool false)).heap[W0.heap.size]? = some (.deferred (some [])) from ((Alt.refl (fun k => k = w.heap.size) B).setCell (q := ⟨w.heap.size, 0, none⟩) rfl (.bool false)).obj hK (by have := HZ0.out; omega))
    clear h1 h2 h3 hK
    gi_wp2
    have c9 := (Boxed.alt HB.out (Alt.put (p := fun k => k = W0.heap.size) (w := B.setCell ⟨w.heap.size, 0, none⟩ (.bool false)) rfl (.deferred none)) (by have := HZ0.out; omega)).cell
    refine leave_ret (v := .bool false) HK.out (by simp [results, Try.results75, go_sem, c9]) ⟨by rw [HR.out], ?_⟩
    exact (HA.out.putObj (l := W0.heap.size) (by have := HZ0.out; show w.heap.size ≤ W0.heap.size; omega) _).below (Nat.le_refl _) (fun k h => h)
  case stop =>
    rintro c pre x post B hx ⟨rfl, h2, h3⟩ hz hK
    have HR : Hid (R = true) := Lib.hid (by rw [HG.out, hx]; simp)
    have HB := Lib.hid h2
    have HA := Lib.hid h3
    have HK := Lib.hid hK
    clear h2 h3 hK hx
    gi_wp2
    have c9 := (Boxed.alt HB.out (Alt.put (p := fun k => k = W0.heap.size) (w := B) rfl (.deferred none)) (by have := HZ0.out; omega)).cell
    refine leave_ret (v := .bool true) HK.out (by simp [results, Try.results75, go_sem, c9]) ⟨by rw [HR.out], ?_⟩
    exact (HA.out.putObj (l := W0.heap.size) (by have := HZ0.out; show w.heap.size ≤ W0.heap.size; omega) _).below (Nat.le_refl _) (fun k h => h)

def possB (l : Lan) (s : Int → Bool) : Bool := (List.range l.fs.toNat).all fun f => someB l.ws s (f : Int)

set_option maxRecDepth 100000 in
set_option maxHeartbeats 4000000 in
theorem possible_any (l : Lan) (s : Int → Bool) (w : World) (hL : WdsAt w l.wa l.ws) (hT : ∀ x ∈ l.ws, 0 ≤ x.te ∧ x.te ≤ 3) (hn : l.ws.length ≤ 1000) (h0 : 0 ≤ l.fs) (h5 : l.fs ≤ 5) (hga : ∀ g o, l.wa = some ⟨g, o, none⟩ → g < w.heap.size) :
    Calls Try.prog 53 #[.agg (wtCells l s)] w fun e w' => e = .returned (.bool (possB l s)) ∧ Below w.heap.size w w' := by
  have AT := Lib.hid (fun fr W => at_any l s fr W)
  have GG := Lib.hid (fun fr W => games_any l s fr W)
  have SO := Lib.hid (fun fr bL bF W (hO : ONc l s fr bL bF W) (hb : Below w.heap.size w W) => some_any l s fr bL bF W hO hT hn (fun g o e => Nat.lt_of_lt_of_le (hga g o e) hb.size))
  have HL := Lib.hid hL
  have HP : Hid (possB l s = (List.range l.fs.toNat).all fun f => someB l.ws s (f : Int)) := Lib.hid rfl
  have B0 := Lib.hid (below_al w (.cells (wtCells l s) 90))
  have K0 := Lib.hid (Blk.new w (wtCells l s) 90)
  generalize possB l s = R at *
  obtain ⟨f, hf⟩ : ∃ f : Nat → Bool, Hid (f = fun f : Nat => someB l.ws s (f : Int)) := ⟨_, Lib.hid rfl⟩
  rw [← hf.out] at HP
  have HS := Lib.hid (fun k : Nat => (show someB l.ws s (k : Int) = f k by rw [hf.out]))
  unfold wtCells at *
  obtain ⟨N, hN⟩ : ∃ N : Nat, l.fs = (N : Int) := ⟨l.fs.toNat, by omega⟩
  have HN5 := Lib.hid (show N ≤ 5 by omega)
  rw [hN] at HP B0 K0 AT ⊢
  rw [Int.toNat_natCast] at HP
  clear hL hT hn h0 h5 hga hN hf
  go_enter Try.func53, Try.ntmps53
  go_wp2_with fail
  generalize w.alloc _ = W0 at K0 B0 ⊢
  go_loopg [7] N (fun g s7 wx => ∃ i : Nat, i ≤ N ∧ g = N - i ∧ s7 = .int .i64 (i : Int) ∧ Hid ((List.range i).all f = true) ∧ Hid (Below w.heap.size w wx) ∧ Hid (Blk wx w.heap.size #[.int .i64 (N : Int), .slice l.wa l.ws.length l.wc, .bool (s 0), .bool (s 1), .bool (s 2), .bool (s 3)] 90))
  case atStart => exact ⟨0, by omega, by omega, rfl, Lib.hid rfl, B0, K0⟩
  case round =>
    obtain ⟨i, hi, rfl, rfl, hA, hB, hK⟩ := hrel
    clear K0 B0
    have k0 := hK.out.cell 0 (show _ = some (Value.int .i64 (N : Int)) from rfl)
    have k1 := hK.out.cell 1 (show _ = some (Value.slice l.wa l.ws.length l.wc) from rfl)
    have k2 := hK.out.cell 2 (show _ = some (Value.bool (s 0)) from rfl)
    have k3 := hK.out.cell 3 (show _ = some (Value.bool (s 1)) from rfl)
    have k4 := hK.out.cell 4 (show _ = some (Value.bool (s 2)) from rfl)
    have k5 := hK.out.cell 5 (show _ = some (Value.bool (s 3)) from rfl)
    by_cases hlt : i < N
    · have hz1 : (i : Int) < (N : Int) := by omega
      have HI := Lib.hid hlt
      have E2 := Lib.hid (show IntKind.i64.wrap ((i : Int) + 1) = (i : Int) + 1 from IntWalk.i64_in _ (by have := HN5.out; omega))
      clear hlt hi
      go_wp2_with fail
      refine (AT.out (i : Int) wr).mono ?_
      rintro e w1 ⟨rfl, hb1⟩
      have B1 := Lib.hid (below_go hB.out hb1)
      have K1 := Lib.hid (Blk.alt (p := fun _ => False) hK.out (Alt.of_below hb1 (fun k hk e => by omega)) id)
      clear hb1 k0 k1 k2 k3 k4 k5 hB hK
      have G1 := Lib.hid (GG.out (i : Int) w1)
      unfold lookCells at G1 ⊢
      go_wp2_with fail
      refine G1.out.mono ?_
      rintro e w2 ⟨bL, bF, rfl, hg⟩
      have B2 := Lib.hid (below_go B1.out hg.bl)
      have K2 := Lib.hid (Blk.alt (p := fun _ => False) K1.out (Alt.of_below hg.bl (fun k hk e => by omega)) id)
      have S2 := Lib.hid (SO.out (i : Int) bL bF w2 ⟨hg.li, hg.is, HL.out.lo B2.out⟩ B2.out)
      rw [HS.out i] at S2
      clear hg B1 K1 G1
      have HFI : Hid (f i = true → (List.range (i + 1)).all f = true) := Lib.hid fun h => by rw [List.range_succ, List.all_append, hA.out]; simp [h]
      have HFN : Hid (f i = false → R = false) := Lib.hid fun h => by rw [HP.out]; exact List.all_eq_false.2 ⟨i, List.mem_range.2 HI.out, by simp [h]⟩
      go_wp2_with fail
      generalize f i = FI at *
      refine S2.out.mono ?_
      rintro e w3 ⟨rfl, hb3⟩
      have B3 := Lib.hid (below_go B2.out hb3)
      have K3 := Lib.hid (Blk.alt (p := fun _ => False) K2.out (Alt.of_below hb3 (fun k hk e => by omega)) id)
      clear hb3 S2 B2 K2
      cases FI
      · have HR := Lib.hid (HFN.out rfl)
        go_wp2_with fail
        go_returns
        exact ⟨by rw [HR.out]; first | done | rfl, B3.out⟩
      · have HR := Lib.hid (HFI.out rfl)
        have e2 := E2.out
        go_wp2_with fail
        go_roundg (N - (i + 1))
        case measure => have := HI.out; omega
        case rel => exact ⟨i + 1, by have := HI.out; omega, rfl, by simp, HR, B3, K3⟩
    · have hz1 : ¬ (i : Int) < (N : Int) := by omega
      have HR : Hid (R = true) := Lib.hid (by rw [HP.out, ← hA.out]; congr 1; rw [show i = N by omega])
      clear hA hlt hi
      go_wp2_with fail
      go_returns
      exact ⟨by rw [HR.out]; first | done | rfl, hB.out⟩

end Go.Proofs.Ytbbndcfnpfedpaa
