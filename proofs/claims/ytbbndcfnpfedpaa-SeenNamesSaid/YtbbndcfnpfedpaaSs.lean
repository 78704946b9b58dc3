/- What the explainer remembers: its keys and its elements; its contract. -/
import Derived.Test.YtbbndcfnpfedpaaGd
import Derived.Maps.OwnIn
import Derived.Maps.OwnSet
import Derived.DeepKeys4
import Derived.WideKeyMaps
set_option linter.unusedVariables false
set_option linter.unusedSimpArgs false
namespace Go.Proofs.Ytbbndcfnpfedpaa
open Go.RowKit Go.Shelf Go.Maps

attribute [local go_sem] Oper.semAt_some

set_option maxRecDepth 100000 in
theorem laidOut : laidOutB Try.prog = true := by kernel_rfl
theorem row88 : (88 : TypeId) < Try.prog.types.size := of_decide_eq_true (by kernel_rfl)
set_option maxRecDepth 100000 in
theorem wide88 : (match Try.prog.underlying 88 with | some (.array _ _) | some (.struct _) => true | _ => false) = true := by rw [Try.underlying88]
set_option maxRecDepth 100000 in
theorem law88 : Keyed Try.prog 88 := Keyed.of_law (deep_law_laid laidOut (m := 4) (by omega) row88 (by kernel_rfl) wide88)
theorem deep88 : Try.prog.keyTypeAt (Try.prog.types.size + 1) 88 = true := by kernel_rfl
theorem cells88 : Try.prog.cellsOf 88 = 4 := by kernel_rfl
theorem cells4 : Try.prog.cellsOf 4 = 1 := by kernel_rfl

def litsF (s : Int → Bool) : List Lit := [.bool (s 0), .bool (s 1), .bool (s 2), .bool (s 3)]
def kF (s : Int → Bool) : Lit := .string (keyBytes (litsF s))
theorem keyLits88 (s : Int → Bool) (d : Nat) : Try.prog.keyLits (d + 3) 88 (fVal s).cells.toList = some (litsF s) := by
  have hr : List.range 4 = [0, 1, 2, 3] := rfl
  simp [Program.keyLits, Try.underlying88, Try.underlying4, cells88, cells4, fVal, fCells, Value.cells, litsF, Lit.wf, hr]
theorem key88 (s : Int → Bool) : keyOf Try.prog 88 (fVal s) = some (kF s) := by
  have e : Try.prog.underlying 88 = _ := Try.underlying88
  unfold keyOf
  rw [e]
  have hk : Try.prog.keyType 88 = true := deep88
  have hf : (fVal s).formed Try.prog 88 = true := by simp [Value.formed, fVal, fCells, Try.underlying88, cells88]
  obtain ⟨n, hn⟩ : ∃ n, Try.prog.types.size = n + 2 := ⟨Try.prog.types.size - 2, by have := (show 88 < Try.prog.types.size from row88); omega⟩
  simp only [hk, hf, Bool.and_self, if_true, hn]
  rw [keyLits88 s n]
  rfl

def Same4 (s s' : Int → Bool) : Prop := s 0 = s' 0 ∧ s 1 = s' 1 ∧ s 2 = s' 2 ∧ s 3 = s' 3
theorem kF_inj {s s' : Int → Bool} (e : kF s = kF s') : Same4 s s' := by
  have h1 := key88 s
  rw [e] at h1
  have h2 := law88.inj h1 (key88 s')
  simp only [fVal, fCells, Value.agg.injEq, Array.mk.injEq, List.cons.injEq, Value.bool.injEq, true_and, and_true] at h2
  exact h2

def breadB : Value → Option (DataW Unit × List MemPlace)
  | .bool a => some (.lit (.bool a), [])
  | _ => none
def bdatB (b : Bool) : DataW Unit := .lit (.bool b)
theorem breadB_val (b : Bool) : breadB (.bool b) = some (bdatB b, []) := rfl
theorem breadB_inv {v : Value} {b : Bool} {ps : List MemPlace} (h : breadB v = some (bdatB b, ps)) : v = .bool b := by
  unfold breadB at h
  split at h
  · simp only [bdatB, Option.some.injEq, Prod.mk.injEq, DataW.lit.injEq, Lit.bool.injEq] at h
    rw [h.1]
  · cases h
theorem zero4 (w : World) : (zeroValue 4).run Try.prog w = .ok (.bool false) w := by kernel_rfl

/-- What the memory holds is so. -/
structure GoodF (f : (Int → Bool) → Bool) (D : DataW Unit) : Prop where
  tidy : Tidy D
  els : ∀ s, Maps.has D (kF s) = true → ∀ z, D.atKey (kF s) z = bdatB (f s)
theorem goodF_empty (f : (Int → Bool) → Bool) : GoodF f (.map []) := ⟨tidy_empty, fun T h => (by cases h)⟩
theorem GoodF.put {f : (Int → Bool) → Bool} (hf : ∀ s s', Same4 s s' → f s = f s') {D : DataW Unit} {s : Int → Bool} (h : GoodF f D) : GoodF f (D.put (kF s) (bdatB (f s))) where
  tidy := h.tidy.put (law88.key (key88 s)) _
  els s' hh z := by
    by_cases e : kF s' = kF s
    · rw [e, atKey_put_same h.tidy.isMap (law88.key (key88 s)), hf _ _ (kF_inj e)]
    · rw [atKey_put_other e]
      rw [has_put_other e] at hh
      exact h.els s' hh z
theorem owns_alt {W W' : World} {b n : Nat} {D : DataW Unit} {p : Nat → Prop} (h : W.ownsMap Try.prog 88 breadB b n D) (ha : Alt p W W') (hp : ¬ p b) : W'.ownsMap Try.prog 88 breadB b n D := by
  obtain ⟨es, clock, hb, F, hs, hD⟩ := h
  exact ⟨es, clock, ha.obj hb hp, F, hs, hD⟩

/-- What the explainer stands on: its map, its lane. -/
structure EX (l : Lan) (f : (Int → Bool) → Bool) (bM bMap bLn n : Nat) (W : World) : Prop where
  m : Boxed W bM 138 (.map (some bMap))
  mem : ∃ D, W.ownsMap Try.prog 88 breadB bMap n D ∧ GoodF f D
  ln : Blk W bLn #[.int .i64 l.fs, .slice l.wa l.ws.length l.wc] 32
  ws : WdsAt W l.wa l.ws
def RdE (l : Lan) (bM bMap bLn k : Nat) : Prop := k = bM ∨ k = bMap ∨ k = bLn ∨ ∃ o, l.wa = some ⟨k, o, none⟩
theorem EX.far {l : Lan} {f : (Int → Bool) → Bool} {bM bMap bLn n : Nat} {W W' : World} {p : Nat → Prop} (h : EX l f bM bMap bLn n W) (ha : Alt p W W') (hp : ∀ k, RdE l bM bMap bLn k → ¬ p k) : EX l f bM bMap bLn n W' := by
  obtain ⟨D, hD, hg⟩ := h.mem
  exact ⟨Boxed.alt h.m ha (hp _ (by unfold RdE; simp)), ⟨D, owns_alt hD ha (hp _ (by unfold RdE; simp)), hg⟩, Blk.alt h.ln ha (hp _ (by unfold RdE; simp)), h.ws.alt ha (fun g o e => hp _ (by unfold RdE; exact .inr (.inr (.inr ⟨o, e⟩))))⟩
theorem EX.lo {l : Lan} {f : (Int → Bool) → Bool} {bM bMap bLn n : Nat} {W W' : World} (h : EX l f bM bMap bLn n W) (hb : Below W.heap.size W W') : EX l f bM bMap bLn n W' :=
  h.far (p := fun _ => False) (Alt.of_below hb (fun k hk e => by omega)) (fun _ _ => id)
theorem EX.up {l : Lan} {f : (Int → Bool) → Bool} {bM bMap bLn n : Nat} {W : World} (h : EX l f bM bMap bLn n W) : EX l f bM bMap bLn (n + 1) W := by
  obtain ⟨D, hD, hg⟩ := h.mem
  exact ⟨h.m, ⟨D, hD.mono (Nat.le_succ _), hg⟩, h.ln, h.ws⟩

theorem possB_same {l : Lan} (hT : ∀ x ∈ l.ws, 0 ≤ x.te ∧ x.te ≤ 3) {s s' : Int → Bool} (h : Same4 s s') : possB l s = possB l s' := by
  have h4 : ∀ t, 0 ≤ t ∧ t ≤ 3 → s t = s' t := fun t ht => by
    obtain ⟨h0, h1, h2, h3⟩ := h
    obtain rfl | rfl | rfl | rfl : t = 0 ∨ t = 1 ∨ t = 2 ∨ t = 3 := by omega
    all_goals assumption
  have hok : ∀ fr b z, l.ws.all (okW s fr b z) = l.ws.all (okW s' fr b z) := fun fr b z => by
    rw [Bool.eq_iff_iff, List.all_eq_true, List.all_eq_true]
    constructor
    · intro hh x hx; have := hh x hx; unfold okW toldB at *; rw [← h4 _ (hT x hx)]; exact this
    · intro hh x hx; have := hh x hx; unfold okW toldB at *; rw [h4 _ (hT x hx)]; exact this
  have hf : ∀ fr p q, fitsB l.ws s fr p q = fitsB l.ws s' fr p q := fun fr p q => by unfold fitsB; rw [hok, hok]
  have hg : ∀ fr, gamesL l.ws s fr = gamesL l.ws s' fr := fun fr => by unfold gamesL; simp only [hf]
  unfold possB someB
  simp only [hg]

set_option maxRecDepth 100000 in
set_option maxHeartbeats 8000000 in
theorem explain1_any (l : Lan) (s : Int → Bool) (bM bMap bLn n : Nat) (w : World) (hE : EX l (possB l) bM bMap bLn n w) (hT : ∀ x ∈ l.ws, 0 ≤ x.te ∧ x.te ≤ 3) (hn : l.ws.length ≤ 1000) (h0 : 0 ≤ l.fs) (h5 : l.fs ≤ 5) (hga : ∀ g o, l.wa = some ⟨g, o, none⟩ → g < w.heap.size) (hnn : n ≤ 100000)
    (hne : bMap ≠ bM ∧ bMap ≠ bLn ∧ ∀ g o, l.wa = some ⟨g, o, none⟩ → bMap ≠ g) :
    Calls Try.prog 83 #[fVal s, .pointer (some ⟨bM, 0, none⟩), .pointer (some ⟨bLn, 0, none⟩)] w fun e w' => e = .returned (.bool (possB l s)) ∧ EX l (possB l) bM bMap bLn (n + 1) w' ∧ Alt (fun k => k = bMap) w w' := by
  have hkey := key88 s
  have PO := Lib.hid (fun W (hb : Below w.heap.size w W) => possible_any l s W (hE.ws.lo hb) hT hn h0 h5 (fun g o e => Nat.lt_of_lt_of_le (hga g o e) hb.size))
  obtain ⟨W1, hW1⟩ : ∃ W1, Hid (W1 = w.alloc (.cells (fCells s) 88)) := ⟨_, Lib.hid rfl⟩
  have B1 := Lib.hid (show Below w.heap.size w W1 from by rw [hW1.out]; exact below_al w _)
  have E1 := Lib.hid (hE.lo B1.out)
  have K1 := Lib.hid (show Blk W1 w.heap.size (fCells s) 88 from by rw [hW1.out]; exact Blk.new _ _ _)
  obtain ⟨D, hown, hgood⟩ := E1.out.mem
  obtain ⟨v1, ps, hrun, hv⟩ := World.ownsMap.look_ok hown law88 Try.underlying138 (zero4 W1) (breadB_val false) hkey
  have HG := Lib.hid hgood
  have HK := Lib.hid hkey
  have HSM := Lib.hid (fun s s' h => possB_same (l := l) hT (s := s) (s' := s') h)
  have lts : bM < w.heap.size ∧ bLn < w.heap.size ∧ bMap < w.heap.size := by
    refine ⟨hE.m.lt, hE.ln.lt, ?_⟩
    obtain ⟨D', ⟨es, clock, hb, _⟩, _⟩ := hE.mem
    exact (Array.getElem?_eq_some_iff.1 hb).1
  have LT := Lib.hid lts
  have HGA := Lib.hid hga
  have HNE := Lib.hid hne
  have HNN := Lib.hid hnn
  unfold fVal at *
  unfold fCells at *
  unfold wtCells at PO
  clear hkey hE hT hn h0 h5 hga hne hnn lts
  have cm : W1.cell? ⟨bM, 0, none⟩ = some (.map (some bMap)) := E1.out.m.cell
  cases hh : Maps.has D (kF s)
  · rw [hh] at hrun
    clear hv hh hgood hown
    have l0 := E1.out.ln.cell 0 (show _ = some (Value.int .i64 l.fs) from rfl)
    have l1 := E1.out.ln.cell 1 (show _ = some (Value.slice l.wa l.ws.length l.wc) from rfl)
    have k0 := K1.out.cell 0 (show _ = some (Value.bool (s 0)) from rfl)
    have k1 := K1.out.cell 1 (show _ = some (Value.bool (s 1)) from rfl)
    have k2 := K1.out.cell 2 (show _ = some (Value.bool (s 2)) from rfl)
    have k3 := K1.out.cell 3 (show _ = some (Value.bool (s 3)) from rfl)
    have hWo := hW1.out
    subst hWo
    clear hW1
    go_enter Try.func83, Try.ntmps83
    go_wp2_with fail
    refine (PO.out _ B1.out).mono ?_
    rintro e w2 ⟨rfl, hb2⟩
    have E2 := Lib.hid (E1.out.lo hb2)
    have K2 := Lib.hid (Blk.alt (p := fun _ => False) K1.out (Alt.of_below hb2 (fun k hk e => by omega)) id)
    have B2 := Lib.hid (below_go B1.out hb2)
    clear hb2 PO hrun cm l0 l1 k0 k1 k2 k3 E1 K1 B1
    obtain ⟨D6, hown6, hgood6⟩ := E2.out.mem
    obtain ⟨w7, hrun7, hown7, hgr7⟩ := World.ownsMap.update hown6 law88 Try.underlying138 (by unfold maxLen; have := HNN.out; omega) HK.out (breadB_val (possB l s))
    have cm6 : w2.cell? ⟨bM, 0, none⟩ = some (.map (some bMap)) := E2.out.m.cell
    have k0 := K2.out.cell 0 (show _ = some (Value.bool (s 0)) from rfl)
    have k1 := K2.out.cell 1 (show _ = some (Value.bool (s 1)) from rfl)
    have k2 := K2.out.cell 2 (show _ = some (Value.bool (s 2)) from rfl)
    have k3 := K2.out.cell 3 (show _ = some (Value.bool (s 3)) from rfl)
    have g7 := (Alt.refl (fun k => k = bMap) w2).grown hgr7 (fun k h => (Option.some.inj h).symm)
    have A7 := Lib.hid ((Alt.of_below (p := fun k => k = bMap) B2.out (fun k hk e => by omega)).trans g7)
    have E7 := Lib.hid (show EX l (possB l) bM bMap bLn (n + 1) w7 from ⟨Boxed.alt E2.out.m g7 (fun e => HNE.out.1 e.symm), ⟨_, hown7, hgood6.put HSM.out⟩, Blk.alt E2.out.ln g7 (fun e => HNE.out.2.1 e.symm), E2.out.ws.alt g7 (fun g o e h => HNE.out.2.2 g o e h.symm)⟩)
    clear hgr7 hown7 hown6 hgood6 g7 HG
    go_wp2_with fail
    go_returns
    exact ⟨by first | done | rfl, E7.out, A7.out⟩
  · rw [hh] at hrun
    have hv1 : v1 = .bool (possB l s) := breadB_inv (ps := ps) (by rw [hv, hgood.els s hh])
    subst hv1
    have EU := Lib.hid E1.out.up
    clear hv hh hgood hown PO
    have k0 := K1.out.cell 0 (show _ = some (Value.bool (s 0)) from rfl)
    have k1 := K1.out.cell 1 (show _ = some (Value.bool (s 1)) from rfl)
    have k2 := K1.out.cell 2 (show _ = some (Value.bool (s 2)) from rfl)
    have k3 := K1.out.cell 3 (show _ = some (Value.bool (s 3)) from rfl)
    generalize possB l s = R at *
    have hWo := hW1.out
    subst hWo
    clear hW1
    go_enter Try.func83, Try.ntmps83
    go_wp2_with fail
    go_returns
    exact ⟨rfl, EU.out, Alt.of_below B1.out (fun k hk e => by omega)⟩

set_option maxHeartbeats 2000000 in
theorem explainer_any (l : Lan) (w : World) (hL : WdsAt w l.wa l.ws) : Calls Try.prog 62 #[l.val] w fun e w' => e = .returned (.func (.func 83) #[] #[.pointer (some ⟨w.heap.size + 2, 0, none⟩), .pointer (some ⟨w.heap.size, 0, none⟩)]) ∧
    EX l (possB l) (w.heap.size + 2) (w.heap.size + 1) w.heap.size 0 w' ∧ Below w.heap.size w w' ∧ w'.heap.size = w.heap.size + 3 := by
  have hmm := @run_makeMap Try.prog
  have EV := Lib.hid (show EX l (possB l) (w.heap.size + 2) (w.heap.size + 1) w.heap.size 0 (((w.alloc (.cells #[.int .i64 l.fs, .slice l.wa l.ws.length l.wc] 32)).alloc (.map #[] 0)).alloc (.cells #[.map (some (w.heap.size + 1))] 138)) from by
    refine ⟨?_, ⟨_, ?_, goodF_empty _⟩, Blk.alt (p := fun _ => False) (Blk.new w _ _) (((Alt.refl _ _).alloc _).alloc _) id, hL.lo (below_al2 (below_al2 (below_al w _) _) _)⟩
    · have := Boxed.new ((w.alloc (.cells #[.int .i64 l.fs, .slice l.wa l.ws.length l.wc] 32)).alloc (.map #[] 0)) 138 (.map (some (w.heap.size + 1)))
      rwa [World.size_alloc, World.size_alloc] at this
    · have := World.ownsMap_made (w.alloc (.cells #[.int .i64 l.fs, .slice l.wa l.ws.length l.wc] 32)) Try.prog 88 breadB
      rw [World.size_alloc] at this
      exact owns_alt (p := fun _ => False) this ((Alt.refl _ _).alloc _) id)
  have BV := Lib.hid (below_al2 (below_al2 (below_al w (.cells #[.int .i64 l.fs, .slice l.wa l.ws.length l.wc] 32)) (.map #[] 0)) (.cells #[.map (some (w.heap.size + 1))] 138))
  unfold Lan.val
  clear hL
  go_enter Try.func62, Try.ntmps62
  go_wp2_with fail
  go_returns
  exact ⟨rfl, EV.out, BV.out, by simp⟩

end Go.Proofs.Ytbbndcfnpfedpaa
