/- The contract of the search for the fewest tellers. -/
import Derived.Test.YtbbndcfnpfedpaaSs
set_option linter.unusedVariables false
set_option linter.unusedSimpArgs false
namespace Go.Proofs.Ytbbndcfnpfedpaa
open Go.RowKit Go.Shelf Go.Maps

attribute [local go_sem] Oper.semAt_some

def addS (out : Int → Bool) (t : Int) : Int → Bool := withS out [t]
def firstF (f : (Int → Bool) → Bool) : Nat → (Int → Bool) → Nat → Option (Int → Bool)
  | 0, out, _ => if f out = true then some out else none
  | m + 1, out, next => (List.range (4 - next)).findSome? fun (j : Nat) => firstF f m (addS out ((next + j : Nat) : Int)) (next + j + 1)

/-- What the search stands on: the explainer's function and the search's own, in their boxes. -/
structure FX (l : Lan) (bM bMap bLn bE bS n : Nat) (W : World) : Prop where
  ex : EX l (possB l) bM bMap bLn n W
  be : Boxed W bE 109 (.func (.func 83) #[] #[.pointer (some ⟨bM, 0, none⟩), .pointer (some ⟨bLn, 0, none⟩)])
  bs : Boxed W bS 136 (.func (.func 82) #[] #[.pointer (some ⟨bE, 0, none⟩), .pointer (some ⟨bS, 0, none⟩)])
theorem FX.lo {l : Lan} {bM bMap bLn bE bS n : Nat} {W W' : World} (h : FX l bM bMap bLn bE bS n W) (hb : Below W.heap.size W W') : FX l bM bMap bLn bE bS n W' :=
  ⟨h.ex.lo hb, Boxed.alt h.be (Alt.of_below (p := fun _ => False) hb (fun k hk e => by omega)) id, Boxed.alt h.bs (Alt.of_below (p := fun _ => False) hb (fun k hk e => by omega)) id⟩
theorem EX.map_lt {l : Lan} {f : (Int → Bool) → Bool} {bM bMap bLn n : Nat} {W : World} (h : EX l f bM bMap bLn n W) : bMap < W.heap.size := by
  obtain ⟨D', ⟨es, clock, hb, _⟩, _⟩ := h.mem
  exact (Array.getElem?_eq_some_iff.1 hb).1

theorem Blk.put4 {W : World} {b : Nat} {y0 y1 y2 y3 : Value} {t : TypeId} (h : Blk W b #[y0, y1, y2, y3] t) (x0 x1 x2 x3 : Value) :
    Blk ((((W.setCell ⟨b, 0, none⟩ x0).setCell ⟨b, 1, none⟩ x1).setCell ⟨b, 2, none⟩ x2).setCell ⟨b, 3, none⟩ x3) b #[x0, x1, x2, x3] t ∧
    Alt (fun k => k = b) W ((((W.setCell ⟨b, 0, none⟩ x0).setCell ⟨b, 1, none⟩ x1).setCell ⟨b, 2, none⟩ x2).setCell ⟨b, 3, none⟩ x3) :=
  ⟨((((h.setAt 0 x0).setAt 1 x1).setAt 2 x2).setAt 3 x3), ((((Alt.refl (fun k => k = b) W).setCell (q := ⟨b, 0, none⟩) rfl x0).setCell (q := ⟨b, 1, none⟩) rfl x1).setCell (q := ⟨b, 2, none⟩) rfl x2).setCell (q := ⟨b, 3, none⟩) rfl x3⟩

/-- What stands the same from call to call. -/
structure FK (l : Lan) (bM bMap bLn bE bS N : Nat) : Prop where
  te : ∀ x ∈ l.ws, 0 ≤ x.te ∧ x.te ≤ 3
  nn : l.ws.length ≤ 1000
  f0 : 0 ≤ l.fs
  f5 : l.fs ≤ 5
  ga : ∀ g o, l.wa = some ⟨g, o, none⟩ → g < N
  ne : bMap ≠ bM ∧ bMap ≠ bLn ∧ ∀ g o, l.wa = some ⟨g, o, none⟩ → bMap ≠ g
  ne2 : bMap ≠ bE ∧ bMap ≠ bS
  lm : bMap < N
theorem FK.up {l : Lan} {bM bMap bLn bE bS N N' : Nat} (h : FK l bM bMap bLn bE bS N) (hN : N ≤ N') : FK l bM bMap bLn bE bS N' :=
  ⟨h.te, h.nn, h.f0, h.f5, fun g o e => Nat.lt_of_lt_of_le (h.ga g o e) hN, h.ne, h.ne2, Nat.lt_of_lt_of_le h.lm hN⟩

theorem FX.ask {l : Lan} {bM bMap bLn bE bS N n : Nat} (hk : FK l bM bMap bLn bE bS N) (s : Int → Bool) (w : World) (hN : N ≤ w.heap.size) (h : FX l bM bMap bLn bE bS n w) (hn : n ≤ 100000) :
    Calls Try.prog 83 #[fVal s, .pointer (some ⟨bM, 0, none⟩), .pointer (some ⟨bLn, 0, none⟩)] w fun e w' => e = .returned (.bool (possB l s)) ∧ FX l bM bMap bLn bE bS (n + 1) w' ∧ Alt (fun k => k = bMap) w w' := by
  refine (explain1_any l s bM bMap bLn n w h.ex hk.te hk.nn hk.f0 hk.f5 (fun g o e => Nat.lt_of_lt_of_le (hk.ga g o e) hN) hn hk.ne).mono ?_
  rintro e w' ⟨rfl, h1, h2⟩
  exact ⟨rfl, ⟨h1, Boxed.alt h.be h2 (fun e => hk.ne2.1 e.symm), Boxed.alt h.bs h2 (fun e => hk.ne2.2 e.symm)⟩, h2⟩

/-- .. and then blocks that came later. -/
theorem Alt.hi {p q : Nat → Prop} {a b c : World} (h : Alt p a b) (k : Alt q b c) (hq : ∀ i, q i → a.heap.size ≤ i) : Alt p a c :=
  ⟨k.os.trans h.os, k.tape.trans h.tape, k.out.trans h.out, Nat.le_trans h.size k.size, fun i hi hp => (k.blk i (Nat.lt_of_lt_of_le hi h.size) (fun e => by have := hq i e; omega)).trans (h.blk i hi hp)⟩

def FRes (l : Lan) (bM bMap bLn bE bS n : Nat) (m : Nat) (out : Int → Bool) (next : Nat) (w : World) (e : Ending) (w' : World) : Prop :=
  ∃ (r : Int → Bool) (b : Bool) (n' : Nat), e = .returned (.tuple #[fVal r, .bool b]) ∧ firstF (possB l) m out next = (if b = true then some r else none) ∧ n' ≤ n + 5 ^ m ∧ FX l bM bMap bLn bE bS n' w' ∧ Alt (fun k => k = bMap) w w'

theorem FRes.mk' {l : Lan} {bM bMap bLn bE bS n m : Nat} {out : Int → Bool} {next : Nat} {w w' : World} {e : Ending} (r : Int → Bool) (b : Bool) (n' : Nat) (h1 : e = .returned (.tuple #[fVal r, .bool b])) (h2 : firstF (possB l) m out next = (if b = true then some r else none)) (h3 : n' ≤ n + 5 ^ m)
    (h4 : FX l bM bMap bLn bE bS n' w') (h5 : Alt (fun k => k = bMap) w w') : FRes l bM bMap bLn bE bS n m out next w e w' := ⟨r, b, n', h1, h2, h3, h4, h5⟩

theorem FX.lts {l : Lan} {bM bMap bLn bE bS n : Nat} {W : World} (h : FX l bM bMap bLn bE bS n W) : bM < W.heap.size ∧ bMap < W.heap.size ∧ bLn < W.heap.size ∧ bE < W.heap.size ∧ bS < W.heap.size := ⟨h.ex.m.lt, h.ex.map_lt, h.ex.ln.lt, h.be.lt, h.bs.lt⟩
/-- Blocks that came later may turn. -/
theorem FX.later {l : Lan} {bM bMap bLn bE bS N n : Nat} {W W' : World} {p : Nat → Prop} (h : FX l bM bMap bLn bE bS n W) (ha : Alt p W W') (hM : bM < N ∧ bMap < N ∧ bLn < N ∧ bE < N ∧ bS < N) (hg : ∀ g o, l.wa = some ⟨g, o, none⟩ → g < N) (hp : ∀ k, p k → N ≤ k) : FX l bM bMap bLn bE bS n W' :=
  have lt : ∀ k, k < N → ¬ p k := fun k hk e => by have := hp k e; omega
  ⟨h.ex.far ha (fun k hk => by
    rcases hk with rfl | rfl | rfl | ⟨o, e'⟩
    · exact lt _ hM.1
    · exact lt _ hM.2.1
    · exact lt _ hM.2.2.1
    · exact lt _ (hg _ _ e')), Boxed.alt h.be ha (lt _ hM.2.2.2.1), Boxed.alt h.bs ha (lt _ hM.2.2.2.2)⟩

/-- The search's own blocks: the set (N), and the result (N + 1). -/
structure F2 (out : Int → Bool) (N : Nat) (W : World) : Prop where
  b5 : Blk W N (fCells out) 88
  b8 : Blk W (N + 1) #[.bool false, .bool false, .bool false, .bool false] 88
theorem F2.far {out : Int → Bool} {N : Nat} {W W' : World} {p : Nat → Prop} (h : F2 out N W) (ha : Alt p W W') (h0 : ¬ p N) (h1 : ¬ p (N + 1)) : F2 out N W' := ⟨h.b5.alt ha h0, h.b8.alt ha h1⟩

set_option maxRecDepth 100000 in
set_option maxHeartbeats 8000000 in
theorem first_zero (l : Lan) (bM bMap bLn bE bS N n : Nat) (hk : FK l bM bMap bLn bE bS N) (out : Int → Bool) (next : Nat) (w : World) (hN : N ≤ w.heap.size) (hF : FX l bM bMap bLn bE bS n w) (hn : n ≤ 90000) :
    Calls Try.prog 82 #[fVal out, .int .i64 next, .int .i64 0, .pointer (some ⟨bE, 0, none⟩), .pointer (some ⟨bS, 0, none⟩)] w (FRes l bM bMap bLn bE bS n 0 out next w) := by
  have B0 := Lib.hid (below_al2 (below_al w (.cells (fCells out) 88)) (.cells #[.bool false, .bool false, .bool false, .bool false] 88))
  have F0 := Lib.hid (show F2 out w.heap.size ((w.alloc (.cells (fCells out) 88)).alloc (.cells #[.bool false, .bool false, .bool false, .bool false] 88)) from ⟨Blk.alt (p := fun _ => False) (Blk.new w _ _) ((Alt.refl _ _).alloc _) id, by
    have := Blk.new (w.alloc (.cells (fCells out) 88)) #[.bool false, .bool false, .bool false, .bool false] 88
    rwa [World.size_alloc] at this⟩)
  have X0 := Lib.hid (hF.lo B0.out)
  have HK := Lib.hid hk
  have HN := Lib.hid hN
  have HLT := Lib.hid (Nat.lt_of_lt_of_le hk.lm hN)
  have HNN := Lib.hid hn
  have LTS := Lib.hid hF.lts
  have HGA := Lib.hid (show ∀ g o, l.wa = some ⟨g, o, none⟩ → g < w.heap.size from fun g o e => Nat.lt_of_lt_of_le (hk.ga g o e) hN)
  have AS := Lib.hid (fun Wx (hb : Below w.heap.size w Wx) (h : FX l bM bMap bLn bE bS n Wx) => FX.ask hk out Wx (Nat.le_trans hN hb.size) h (by omega))
  obtain ⟨R, hR⟩ : ∃ R, Hid (R = possB l out) := ⟨_, Lib.hid rfl⟩
  rw [← hR.out] at AS
  unfold fVal at *
  unfold fCells at *
  clear hF hk hN hn
  go_enter Try.func82, Try.ntmps82
  go_wp2_with fail
  generalize (w.alloc _).alloc _ = W0 at B0 F0 X0 ⊢
  have ce := X0.out.be.cell
  have F0' := F0.out.b5
  unfold fCells at F0'
  have k0 := F0'.cell 0 (show _ = some (Value.bool (out 0)) from rfl)
  have k1 := F0'.cell 1 (show _ = some (Value.bool (out 1)) from rfl)
  have k2 := F0'.cell 2 (show _ = some (Value.bool (out 2)) from rfl)
  have k3 := F0'.cell 3 (show _ = some (Value.bool (out 3)) from rfl)
  clear F0'
  go_wp2_with fail
  go_region_with (first
    | (go_at_call 83; (with_reducible refine (AS.out _ B0.out.drew (X0.out.lo (Below.refl _ _).drew)).mono ?_); rintro e w3 ⟨rfl, hx3, ha3⟩; have X3 := Lib.hid hx3; have A3 := Lib.hid ((Alt.refl (fun k => k = bMap) W0).drew.trans ha3); have F3 := F0.out.far A3.out (by have := HLT.out; omega) (by have := HLT.out; omega); have f5 := F3.b5; unfold fCells at f5; have k0 := f5.cell 0 (show _ = some (Value.bool (out 0)) from rfl); have k1 := f5.cell 1 (show _ = some (Value.bool (out 1)) from rfl); have k2 := f5.cell 2 (show _ = some (Value.bool (out 2)) from rfl); have k3 := f5.cell 3 (show _ = some (Value.bool (out 3)) from rfl); have t0 := F3.b8.cell 0 rfl; have t1 := F3.b8.cell 1 rfl; have t2 := F3.b8.cell 2 rfl; have t3 := F3.b8.cell 3 rfl; have z0 := F3.b8.fr 0; have z1 := F3.b8.fr 1; have z2 := F3.b8.fr 2; have z3 := F3.b8.fr 3; have PT := Lib.hid (F3.b8.put4 (.bool (out 0)) (.bool (out 1)) (.bool (out 2)) (.bool (out 3))); clear hx3 ha3 f5))
  all_goals
    go_wp2_with fail
    have pt := PT.out
    clear t0 t1 t2 t3 z0 z1 z2 z3 k0 k1 k2 k3 ce F3
    generalize World.setCell _ _ _ = X at pt ⊢
    have h0 := pt.1.cell 0 (show _ = some (Value.bool (out 0)) from rfl)
    have h1 := pt.1.cell 1 (show _ = some (Value.bool (out 1)) from rfl)
    have h2 := pt.1.cell 2 (show _ = some (Value.bool (out 2)) from rfl)
    have h3 := pt.1.cell 3 (show _ = some (Value.bool (out 3)) from rfl)
    refine bodyPost_ret (v := .tuple #[.agg #[.bool (out 0), .bool (out 1), .bool (out 2), .bool (out 3)], .bool R]) (by simp [results, Try.results82, go_sem, h0, h1, h2, h3]) rfl (FRes.mk' out R (n + 1) rfl (by rw [hR.out]; rfl) (by simp) ?_ ?_)
    · exact X3.out.later pt.2 LTS.out HGA.out (fun k e => by omega)
    · exact ((Alt.of_below (p := fun k => k = bMap) B0.out (fun k hk e => by omega)).trans A3.out).hi pt.2 (fun k e => by omega)

def noS : Int → Bool := fun _ => false
/-- What a round of the search stands on. -/
structure FR (l : Lan) (bM bMap bLn bE bS n : Nat) (out : Int → Bool) (w W : World) : Prop where
  fx : FX l bM bMap bLn bE bS n W
  f2 : F2 out w.heap.size W
  al : Alt (fun k => k = bMap) w W
theorem FR.lo {l : Lan} {bM bMap bLn bE bS n : Nat} {out : Int → Bool} {w W W' : World} (h : FR l bM bMap bLn bE bS n out w W) (hb : Below W.heap.size W W') : FR l bM bMap bLn bE bS n out w W' :=
  ⟨h.fx.lo hb, h.f2.far (Alt.of_below (p := fun _ => False) hb (fun k hk e => by omega)) id id, h.al.trans (Alt.of_below hb (fun k hk e => by omega))⟩
theorem FR.next {l : Lan} {bM bMap bLn bE bS n n' : Nat} {out : Int → Bool} {w W W' : World} (h : FR l bM bMap bLn bE bS n out w W) (hf : FX l bM bMap bLn bE bS n' W') (ha : Alt (fun k => k = bMap) W W') (hm : bMap < w.heap.size) : FR l bM bMap bLn bE bS n' out w W' :=
  ⟨hf, h.f2.far ha (by omega) (by omega), h.al.trans ha⟩
theorem FR.put {l : Lan} {bM bMap bLn bE bS n : Nat} {out : Int → Bool} {w W W' : World} {b : Nat} (h : FR l bM bMap bLn bE bS n out w W) (ha : Alt (fun k => k = b) W W') (hM : bM < w.heap.size ∧ bMap < w.heap.size ∧ bLn < w.heap.size ∧ bE < w.heap.size ∧ bS < w.heap.size) (hg : ∀ g o, l.wa = some ⟨g, o, none⟩ → g < w.heap.size) (hb : w.heap.size + 2 ≤ b) : FR l bM bMap bLn bE bS n out w W' :=
  ⟨h.fx.later ha hM hg (fun k e => by omega), h.f2.far ha (by omega) (by omega), h.al.hi ha (fun k e => by omega)⟩

theorem FR.cells {l : Lan} {bM bMap bLn bE bS n : Nat} {out : Int → Bool} {w W : World} (h : FR l bM bMap bLn bE bS n out w W) : W.cell? ⟨bS, 0, none⟩ = some (.func (.func 82) #[] #[.pointer (some ⟨bE, 0, none⟩), .pointer (some ⟨bS, 0, none⟩)]) ∧ W.cell? ⟨w.heap.size, 0, none⟩ = some (.bool (out 0)) ∧ W.cell? ⟨w.heap.size, 1, none⟩ = some (.bool (out 1)) ∧ W.cell? ⟨w.heap.size, 2, none⟩ = some (.bool (out 2)) ∧ W.cell? ⟨w.heap.size, 3, none⟩ = some (.bool (out 3)) :=
  ⟨h.fx.bs.cell, h.f2.b5.cell 0 rfl, h.f2.b5.cell 1 rfl, h.f2.b5.cell 2 rfl, h.f2.b5.cell 3 rfl⟩

structure CU (l : Lan) (bM bMap bLn bE bS n : Nat) (out : Int → Bool) (w wx : World) (b11 : Nat) (r : Int → Bool) : Prop where
  fr : FR l bM bMap bLn bE bS n out w wx
  k : Blk wx b11 #[.bool (r 0), .bool (r 1), .bool (r 2), .bool (r 3)] 88
  sz : w.heap.size + 2 ≤ wx.heap.size
theorem CU.mk1 {l : Lan} {bM bMap bLn bE bS n : Nat} {out : Int → Bool} {w w4 : World} {b11 : Nat} (r : Int → Bool) (h : FR l bM bMap bLn bE bS n out w w4) (hz : Blk w4 b11 #[.bool false, .bool false, .bool false, .bool false] 88)
    (hM : bM < w.heap.size ∧ bMap < w.heap.size ∧ bLn < w.heap.size ∧ bE < w.heap.size ∧ bS < w.heap.size) (hg : ∀ g o, l.wa = some ⟨g, o, none⟩ → g < w.heap.size) (hb : w.heap.size + 2 ≤ b11) (hs : w.heap.size + 2 ≤ w4.heap.size) :
    CU l bM bMap bLn bE bS n out w ((((w4.setCell ⟨b11, 0, none⟩ (.bool (r 0))).setCell ⟨b11, 1, none⟩ (.bool (r 1))).setCell ⟨b11, 2, none⟩ (.bool (r 2))).setCell ⟨b11, 3, none⟩ (.bool (r 3))) b11 r := by
  obtain ⟨h1, h2⟩ := hz.put4 (.bool (r 0)) (.bool (r 1)) (.bool (r 2)) (.bool (r 3))
  exact ⟨h.put h2 hM hg hb, h1, Nat.le_trans hs h2.size⟩
theorem CU.mk2 {l : Lan} {bM bMap bLn bE bS n : Nat} {out : Int → Bool} {w w4 : World} (r : Int → Bool) (h : FR l bM bMap bLn bE bS n out w w4) (hs : w.heap.size + 2 ≤ w4.heap.size) :
    CU l bM bMap bLn bE bS n out w (w4.alloc (.cells #[.bool (r 0), .bool (r 1), .bool (r 2), .bool (r 3)] 88)) w4.heap.size r :=
  ⟨h.lo (below_al _ _), Blk.new _ _ _, by simp; omega⟩

set_option maxRecDepth 100000 in
set_option maxHeartbeats 16000000 in
theorem first_any (l : Lan) (bM bMap bLn bE bS N : Nat) (hk : FK l bM bMap bLn bE bS N) : ∀ (m : Nat), m ≤ 4 → ∀ (out : Int → Bool) (next n : Nat) (w : World), next ≤ 4 → N ≤ w.heap.size → FX l bM bMap bLn bE bS n w → n + 5 ^ m ≤ 80000 →
    Calls Try.prog 82 #[fVal out, .int .i64 next, .int .i64 (m : Nat), .pointer (some ⟨bE, 0, none⟩), .pointer (some ⟨bS, 0, none⟩)] w (FRes l bM bMap bLn bE bS n m out next w) := by
  intro m
  induction m with
  | zero =>
    intro _ out next n w _ hN hF hn
    exact first_zero l bM bMap bLn bE bS N n hk out next w hN hF (by omega)
  | succ m ih =>
    intro hm out next n w hnx hN hF hn
    have B0 := Lib.hid (below_al2 (below_al w (.cells (fCells out) 88)) (.cells #[.bool false, .bool false, .bool false, .bool false] 88))
    have F0 := Lib.hid (show F2 out w.heap.size ((w.alloc (.cells (fCells out) 88)).alloc (.cells #[.bool false, .bool false, .bool false, .bool false] 88)) from ⟨Blk.alt (p := fun _ => False) (Blk.new w _ _) ((Alt.refl _ _).alloc _) id, by
      have := Blk.new (w.alloc (.cells (fCells out) 88)) #[.bool false, .bool false, .bool false, .bool false] 88
      rwa [World.size_alloc] at this⟩)
    have R0 := Lib.hid (show FR l bM bMap bLn bE bS n out w ((w.alloc (.cells (fCells out) 88)).alloc (.cells #[.bool false, .bool false, .bool false, .bool false] 88)) from ⟨hF.lo B0.out, F0.out, ((Alt.refl _ _).alloc _).alloc _⟩)
    have HZ2 := Lib.hid (show w.heap.size + 2 ≤ ((w.alloc (.cells (fCells out) 88)).alloc (.cells #[.bool false, .bool false, .bool false, .bool false] 88)).heap.size by simp)
    have HK := Lib.hid hk
    have HN := Lib.hid hN
    have LTS := Lib.hid (show bM < w.heap.size ∧ bMap < w.heap.size ∧ bLn < w.heap.size ∧ bE < w.heap.size ∧ bS < w.heap.size from hF.lts)
    have HGA := Lib.hid (show ∀ g o, l.wa = some ⟨g, o, none⟩ → g < w.heap.size from fun g o e => Nat.lt_of_lt_of_le (hk.ga g o e) hN)
    have HP5 := Lib.hid (show 5 ^ (m + 1) = 5 ^ m * 5 from Nat.pow_succ 5 m)
    have HNN := Lib.hid hn
    obtain ⟨G, hG⟩ : ∃ G : Nat → Option (Int → Bool), Hid (G = fun (j : Nat) => firstF (possB l) m (addS out ((next + j : Nat) : Int)) (next + j + 1)) := ⟨_, Lib.hid rfl⟩
    have HFF : Hid (firstF (possB l) (m + 1) out next = (List.range (4 - next)).findSome? G) := Lib.hid (by rw [hG.out]; rfl)
    have IH := Lib.hid (fun (j n' : Nat) (Wx : World) (hj : next + j < 4) (hb : w.heap.size ≤ Wx.heap.size) (hx : FX l bM bMap bLn bE bS n' Wx) (hn' : n' + 5 ^ m ≤ 80000) => ih (by omega) (addS out ((next + j : Nat) : Int)) (next + j + 1) n' Wx (by omega) (Nat.le_trans hN hb) hx hn')
    have WI := Lib.hid (fun (g : Nat) (t : Int) (Wx : World) (hc : Wx.cell? ⟨g, 0, none⟩ = some (.int .i64 t)) (h0 : 0 ≤ t ∧ t ≤ 3) => show Calls Try.prog 64 #[fVal out, .slice (some ⟨g, 0, none⟩) 1 1] Wx (fun e w' => e = .returned (fVal (withS out [t])) ∧ Below Wx.heap.size Wx w') from with_any out [t] (some ⟨g, 0, none⟩) 1 Wx (fun i v hv => by
      cases i with
      | zero => simp at hv; subst hv; exact ⟨g, 0, rfl, hc⟩
      | succ i => simp at hv) (fun x hx => by simp at hx; subst hx; exact h0) (by simp))
    have hm1 : IntKind.i64.wrap (((m + 1 : Nat) : Int) - 1) = (m : Int) := by rw [show ((m + 1 : Nat) : Int) - 1 = (m : Int) by omega]; exact IntWalk.i64_in _ (by omega)
    have hmz : (((m + 1 : Nat) : Int) == 0) = false := by simp; omega
    obtain ⟨M, hM⟩ : ∃ M : Int, ((m + 1 : Nat) : Int) = M := ⟨_, rfl⟩
    rw [hM] at hm1 hmz ⊢
    have HM4 := Lib.hid hm
    unfold fVal at *
    unfold fCells at *
    clear hF hk hN hn ih hm hM
    go_enter Try.func82, Try.ntmps82
    go_wp2_with fail
    generalize (w.alloc _).alloc _ = W0 at B0 F0 R0 HZ2 ⊢
    clear F0 B0
    go_loopg [10] (4 - next) (fun g s10 wx => ∃ (j n' : Nat), j ≤ 4 - next ∧ g = 4 - next - j ∧ s10 = .int .i64 ((next + j : Nat) : Int) ∧ Hid ((List.range j).findSome? G = none) ∧ Hid (n' ≤ n + j * 5 ^ m) ∧ Hid (FR l bM bMap bLn bE bS n' out w wx) ∧ Hid (w.heap.size + 2 ≤ wx.heap.size))
    case atStart => exact ⟨0, n, by omega, by omega, rfl, Lib.hid rfl, Lib.hid (by omega), R0, HZ2⟩
    case round =>
      obtain ⟨j, n', hj, rfl, rfl, hG0, hn', hR, hZ⟩ := hrel
      clear R0 HZ2
      by_cases hlt : j < 4 - next
      · have hz1 : ((next + j : Nat) : Int) < 4 := by omega
        have e2 : IntKind.i64.wrap (((next + j : Nat) : Int) + 1) = ((next + j + 1 : Nat) : Int) := by rw [show ((next + j : Nat) : Int) + 1 = ((next + j + 1 : Nat) : Int) by omega]; exact IntWalk.i64_in _ (by omega)
        have H4 := Lib.hid (show 0 ≤ ((next + j : Nat) : Int) ∧ ((next + j : Nat) : Int) ≤ 3 by omega)
        have HJ := Lib.hid hlt
        have HNJ := Lib.hid (show n' + 5 ^ m ≤ 80000 by have h1 := hn'.out; have h2 := HNN.out; have h3 := HP5.out; have : j * 5 ^ m ≤ 3 * 5 ^ m := Nat.mul_le_mul_right _ (by omega); omega)
        have IJ := Lib.hid (fun (Wx : World) (hb : w.heap.size ≤ Wx.heap.size) (hx : FX l bM bMap bLn bE bS n' Wx) => IH.out j n' Wx (by have := HJ.out; omega) hb hx HNJ.out)
        have HGJ : Hid (G j = firstF (possB l) m (addS out ((next + j : Nat) : Int)) (next + j + 1)) := Lib.hid (by rw [hG.out])
        have HNX := Lib.hid (show ((next + (j + 1) : Nat) : Int) = ((next + j + 1 : Nat) : Int) by omega)
        obtain ⟨S, hS⟩ : ∃ S, Hid (S = addS out ((next + j : Nat) : Int)) := ⟨_, Lib.hid rfl⟩
        have WJ := Lib.hid (fun g Wx hc => WI.out g ((next + j : Nat) : Int) Wx hc H4.out)
        have hS2 : withS out [((next + j : Nat) : Int)] = S := hS.out.symm
        rw [hS2] at WJ
        rw [← hS.out] at IJ HGJ
        obtain ⟨T, hT⟩ : ∃ T : Int, ((next + j : Nat) : Int) = T := ⟨_, rfl⟩
        obtain ⟨T1, hT1⟩ : ∃ T1 : Int, ((next + j + 1 : Nat) : Int) = T1 := ⟨_, rfl⟩
        have HTT := Lib.hid hT1
        rw [hT] at hz1 WJ e2 ⊢
        rw [hT1] at e2 IJ
        have cs := hR.out.fx.bs.cell
        have b5 := hR.out.f2.b5
        unfold fCells at b5
        have k0 := b5.cell 0 (show _ = some (Value.bool (out 0)) from rfl)
        have k1 := b5.cell 1 (show _ = some (Value.bool (out 1)) from rfl)
        have k2 := b5.cell 2 (show _ = some (Value.bool (out 2)) from rfl)
        have k3 := b5.cell 3 (show _ = some (Value.bool (out 3)) from rfl)
        have SP := Lib.hid (show ∀ Wx, Alt (fun _ => False) wr Wx → (Wx.cell? ⟨bS, 0, none⟩ = some (.func (.func 82) #[] #[.pointer (some ⟨bE, 0, none⟩), .pointer (some ⟨bS, 0, none⟩)]) ∧ Wx.cell? ⟨w.heap.size, 0, none⟩ = some (.bool (out 0)) ∧ Wx.cell? ⟨w.heap.size, 1, none⟩ = some (.bool (out 1)) ∧ Wx.cell? ⟨w.heap.size, 2, none⟩ = some (.bool (out 2)) ∧ Wx.cell? ⟨w.heap.size, 3, none⟩ = some (.bool (out 3))) from fun Wx hA => ⟨alt_cell hA cs id, alt_cell hA k0 id, alt_cell hA k1 id, alt_cell hA k2 id, alt_cell hA k3 id⟩)
        clear hS2 hT hT1 hj b5 hlt IH WI
        go_wp2_with fail
        unfold FRes fVal fCells at IJ
        obtain ⟨WA, hWA⟩ : ∃ WA, WA = ((wr.alloc (.cells #[.bool false, .bool false, .bool false, .bool false] 88)).alloc (.cells #[.int .i64 T] 3)).drew := ⟨_, rfl⟩
        obtain ⟨WB, hWB⟩ : ∃ WB, WB = ((wr.alloc (.cells #[.int .i64 T] 3)).alloc (.cells #[.bool false, .bool false, .bool false, .bool false] 88)).drew := ⟨_, rfl⟩
        obtain ⟨WC, hWC⟩ : ∃ WC, WC = (wr.alloc (.cells #[.int .i64 T] 3)).drew := ⟨_, rfl⟩
        have BA := Lib.hid (show Below wr.heap.size wr WA from by rw [hWA]; exact (below_al2 (below_al _ _) _).drew)
        have BB := Lib.hid (show Below wr.heap.size wr WB from by rw [hWB]; exact (below_al2 (below_al _ _) _).drew)
        have BC := Lib.hid (show Below wr.heap.size wr WC from by rw [hWC]; exact (below_al _ _).drew)
        have ZA := Lib.hid (show Blk WA wr.heap.size #[.bool false, .bool false, .bool false, .bool false] 88 from by rw [hWA]; exact Blk.alt (p := fun _ => False) (Blk.new wr _ _) (((Alt.refl _ _).alloc _).drew) id)
        have ZB := Lib.hid (show Blk WB (wr.heap.size + 1) #[.bool false, .bool false, .bool false, .bool false] 88 from by
          rw [hWB]
          have := Blk.alt (p := fun _ => False) (Blk.new (wr.alloc (.cells #[.int .i64 T] 3)) #[.bool false, .bool false, .bool false, .bool false] 88) (Alt.refl _ _).drew id
          rwa [World.size_alloc] at this)
        have QA := WJ.out (wr.heap.size + 1) WA (by
          rw [hWA]
          have := Blk.alt (p := fun _ => False) (Blk.new (wr.alloc (.cells #[.bool false, .bool false, .bool false, .bool false] 88)) #[.int .i64 T] 3) (Alt.refl _ _).drew id
          rw [World.size_alloc] at this
          exact this.cell 0 rfl)
        have QB := WJ.out wr.heap.size WB (by rw [hWB]; exact (Blk.alt (p := fun _ => False) (Blk.new wr #[.int .i64 T] 3) (((Alt.refl _ _).alloc (.cells #[.bool false, .bool false, .bool false, .bool false] 88)).drew) id).cell 0 rfl)
        have QC := WJ.out wr.heap.size WC (by rw [hWC]; exact (Blk.alt (p := fun _ => False) (Blk.new wr #[.int .i64 T] 3) (Alt.refl _ _).drew id).cell 0 rfl)
        have BZ := Lib.hid (fun (w3 : World) (h : Below wr.heap.size wr w3) => hR.out.lo h)
        have SZ := Lib.hid (fun (w3 : World) (h : Below wr.heap.size wr w3) => (show w.heap.size + 2 ≤ w3.heap.size from Nat.le_trans hZ.out h.size))
        have NM := Lib.hid (show ∀ k, wr.heap.size ≤ k → k ≠ bMap from fun k hk e => by have := LTS.out.2.1; have := hZ.out; omega)
        have HZW := Lib.hid hZ.out
        subst hWA
        subst hWB
        subst hWC
        have HQA := Lib.hid QA
        have HQB := Lib.hid QB
        have HQC := Lib.hid QC
        clear QA QB QC WJ
        go_cut [11, 12] from 40 (fun s11 s12 wx => ∃ (b11 : Nat) (r : Int → Bool) (b : Bool) (n4 : Nat), s11 = .pointer (some ⟨b11, 0, none⟩) ∧ s12 = .bool b ∧ Hid (G j = (if b = true then some r else none)) ∧ Hid (n4 ≤ n' + 5 ^ m) ∧ Hid (CU l bM bMap bLn bE bS n4 out w wx b11 r))
        case first =>
          first
          | (go_region_held3 (fun Wx => Wx.cell? ⟨bS, 0, none⟩ = some (.func (.func 82) #[] #[.pointer (some ⟨bE, 0, none⟩), .pointer (some ⟨bS, 0, none⟩)]) ∧ Wx.cell? ⟨w.heap.size, 0, none⟩ = some (.bool (out 0)) ∧ Wx.cell? ⟨w.heap.size, 1, none⟩ = some (.bool (out 1)) ∧ Wx.cell? ⟨w.heap.size, 2, none⟩ = some (.bool (out 2)) ∧ Wx.cell? ⟨w.heap.size, 3, none⟩ = some (.bool (out 3)))
              (with_reducible first | exact SP.out _ (Alt.refl _ wr).drew | exact SP.out _ ((Alt.refl _ wr).alloc _).drew | exact SP.out _ (((Alt.refl _ wr).alloc _).alloc _).drew | exact SP.out _ (Alt.of_below B3.out (fun k hk e => absurd hk (Nat.not_lt.2 e))) | exact SP.out _ ((Alt.of_below B3.out (fun k hk e => absurd hk (Nat.not_lt.2 e))).alloc _) | exact R4.out.cells | exact (R4.out.lo (below_al _ _)).cells | exact (CU.mk1 r R4.out Z4 LTS.out HGA.out (Nat.le_trans HZW.out HB11.out) S4.out).fr.cells)
              (first
                | (go_at_call 64; (with_reducible refine HQA.out.mono ?_); rintro e w3 ⟨rfl, hb3⟩; have B3 : Hid (Below wr.heap.size wr w3) := Lib.hid (below_go BA.out hb3); have Z3 := Blk.alt (p := fun _ => False) ZA.out (Alt.of_below hb3 (fun k hk e => by omega)) id; have HB11 := Lib.hid (Nat.le_refl wr.heap.size); clear hb3)
                | (go_at_call 64; (with_reducible refine HQB.out.mono ?_); rintro e w3 ⟨rfl, hb3⟩; have B3 : Hid (Below wr.heap.size wr w3) := Lib.hid (below_go BB.out hb3); have Z3 := Blk.alt (p := fun _ => False) ZB.out (Alt.of_below hb3 (fun k hk e => by omega)) id; have HB11 := Lib.hid (Nat.le_succ wr.heap.size); clear hb3)
                | (go_at_call 64; (with_reducible refine HQC.out.mono ?_); rintro e w3 ⟨rfl, hb3⟩; have B3 : Hid (Below wr.heap.size wr w3) := Lib.hid (below_go BC.out hb3); clear hb3)
                | (go_at_call 82; (with_reducible refine (IJ.out w3 (Nat.le_trans (Nat.le_add_right _ _) (SZ.out w3 B3.out)) (BZ.out w3 B3.out).fx).mono ?_); rintro e w4 ⟨r, b, n4, rfl, hfr, hn4, hx4, ha4⟩; have R4 := Lib.hid ((BZ.out w3 B3.out).next hx4 ha4 LTS.out.2.1); have S4 := Lib.hid (Nat.le_trans (SZ.out w3 B3.out) ha4.size); (try (have Z4 := Blk.alt Z3 ha4 (NM.out _ HB11.out); have t0 := Z4.cell 0 rfl; have t1 := Z4.cell 1 rfl; have t2 := Z4.cell 2 rfl; have t3 := Z4.cell 3 rfl; have z0 := Z4.fr 0; have z1 := Z4.fr 1; have z2 := Z4.fr 2; have z3 := Z4.fr 3; clear Z3)); have HFR := Lib.hid hfr; have HN4 := Lib.hid hn4; clear hfr hn4 hx4 ha4)
                | (go_at_call 82; (with_reducible refine (IJ.out (w3.alloc (.cells #[.bool false, .bool false, .bool false, .bool false] 88)) (Nat.le_trans (Nat.le_add_right _ _) (SZ.out _ (below_al2 B3.out _))) (BZ.out _ (below_al2 B3.out _)).fx).mono ?_); rintro e w4 ⟨r, b, n4, rfl, hfr, hn4, hx4, ha4⟩; have R4 := Lib.hid ((BZ.out _ (below_al2 B3.out (.cells #[.bool false, .bool false, .bool false, .bool false] 88))).next hx4 ha4 LTS.out.2.1); have S4 := Lib.hid (Nat.le_trans (SZ.out _ (below_al2 B3.out (.cells #[.bool false, .bool false, .bool false, .bool false] 88))) ha4.size); have HB11 := Lib.hid B3.out.size; have Z4 := Blk.alt (Blk.new w3 #[.bool false, .bool false, .bool false, .bool false] 88) ha4 (NM.out _ HB11.out); have t0 := Z4.cell 0 rfl; have t1 := Z4.cell 1 rfl; have t2 := Z4.cell 2 rfl; have t3 := Z4.cell 3 rfl; have z0 := Z4.fr 0; have z1 := Z4.fr 1; have z2 := Z4.fr 2; have z3 := Z4.fr 3; have HFR := Lib.hid hfr; have HN4 := Lib.hid hn4; clear hfr hn4 hx4 ha4)))
          | fail "region"
          all_goals
            go_wp2_with fail
            go_meet
            first
            | exact ⟨_, r, b, n4, rfl, rfl, Lib.hid (by rw [HGJ.out, HFR.out]), HN4, Lib.hid (CU.mk2 r R4.out S4.out)⟩
            | exact ⟨_, r, b, n4, rfl, rfl, Lib.hid (by rw [HGJ.out, HFR.out]), HN4, Lib.hid (CU.mk1 r R4.out Z4 LTS.out HGA.out (Nat.le_trans HZW.out HB11.out) S4.out)⟩
        case rest =>
          obtain ⟨b11, r, b, n4, rfl, rfl, hGj, hn4, hCU⟩ := hcut
          have q0 := hCU.out.k.cell 0 (show _ = some (Value.bool (r 0)) from rfl)
          have q1 := hCU.out.k.cell 1 (show _ = some (Value.bool (r 1)) from rfl)
          have q2 := hCU.out.k.cell 2 (show _ = some (Value.bool (r 2)) from rfl)
          have q3 := hCU.out.k.cell 3 (show _ = some (Value.bool (r 3)) from rfl)
          have t0 := hCU.out.fr.f2.b8.cell 0 rfl
          have t1 := hCU.out.fr.f2.b8.cell 1 rfl
          have t2 := hCU.out.fr.f2.b8.cell 2 rfl
          have t3 := hCU.out.fr.f2.b8.cell 3 rfl
          have z0 := hCU.out.fr.f2.b8.fr 0
          have z1 := hCU.out.fr.f2.b8.fr 1
          have z2 := hCU.out.fr.f2.b8.fr 2
          have z3 := hCU.out.fr.f2.b8.fr 3
          have PT := Lib.hid (hCU.out.fr.f2.b8.put4 (.bool (r 0)) (.bool (r 1)) (.bool (r 2)) (.bool (r 3)))
          have HB5 := Lib.hid (show n4 ≤ n + (j + 1) * 5 ^ m by have h1 := hn'.out; have h2 := hn4.out; rw [Nat.succ_mul]; omega)
          clear SP IJ HQA HQB HQC BA BB BC ZA ZB BZ SZ NM cs k0 k1 k2 k3 hR hZ HZW
          cases b
          · have HNO : Hid ((List.range (j + 1)).findSome? G = none) := Lib.hid (by
              have h9 : G j = none := hGj.out
              rw [List.range_succ, List.findSome?_append, hG0.out, List.findSome?_cons, h9]; rfl)
            clear PT
            go_wp2_with fail
            go_roundg (4 - next - (j + 1))
            case measure => have := HJ.out; omega
            case rel => exact ⟨j + 1, n4, by have := HJ.out; omega, rfl, by rw [← HTT.out, ← HNX.out], HNO, HB5, Lib.hid hCU.out.fr, Lib.hid hCU.out.sz⟩
          · have HYES : Hid (firstF (possB l) (m + 1) out next = some r) := Lib.hid (by
              have h9 : G j = some r := hGj.out
              obtain ⟨k, hk⟩ : ∃ k, 4 - next = (j + 1) + k := ⟨4 - next - (j + 1), by have := HJ.out; omega⟩
              rw [HFF.out, hk, List.range_add, List.findSome?_append, List.range_succ, List.findSome?_append, hG0.out, List.findSome?_cons, h9]; rfl)
            have HPW := Lib.hid (show n4 ≤ n + 5 ^ (m + 1) by
              have h1 := HB5.out
              have h2 : (j + 1) * 5 ^ m ≤ 5 * 5 ^ m := Nat.mul_le_mul_right _ (by have := HJ.out; omega)
              have h3 := HP5.out
              omega)
            go_wp2_with fail
            have pt := PT.out
            clear t0 t1 t2 t3 z0 z1 z2 z3 q0 q1 q2 q3
            generalize World.setCell _ _ _ = X at pt ⊢
            have h0 := pt.1.cell 0 (show _ = some (Value.bool (r 0)) from rfl)
            have h1 := pt.1.cell 1 (show _ = some (Value.bool (r 1)) from rfl)
            have h2 := pt.1.cell 2 (show _ = some (Value.bool (r 2)) from rfl)
            have h3 := pt.1.cell 3 (show _ = some (Value.bool (r 3)) from rfl)
            refine bodyPost_ret (v := .tuple #[.agg #[.bool (r 0), .bool (r 1), .bool (r 2), .bool (r 3)], .bool true]) (by simp [results, Try.results82, go_sem, h0, h1, h2, h3]) rfl (FRes.mk' r true n4 rfl (by rw [HYES.out]; rfl) HPW.out ?_ ?_)
            · exact hCU.out.fr.fx.later pt.2 LTS.out HGA.out (fun k e => by omega)
            · exact hCU.out.fr.al.hi pt.2 (fun k e => by omega)
      · have hz1 : ¬ ((next + j : Nat) : Int) < 4 := by omega
        have hj4 : j = 4 - next := by omega
        have HNO : Hid (firstF (possB l) (m + 1) out next = none) := Lib.hid (by rw [HFF.out, ← hj4]; exact hG0.out)
        have HPW := Lib.hid (show n' ≤ n + 5 ^ (m + 1) by
          have h1 := hn'.out
          have h2 : j * 5 ^ m ≤ 5 * 5 ^ m := Nat.mul_le_mul_right _ (by omega)
          have h3 := HP5.out
          omega)
        have t0 := hR.out.f2.b8.cell 0 rfl
        have t1 := hR.out.f2.b8.cell 1 rfl
        have t2 := hR.out.f2.b8.cell 2 rfl
        have t3 := hR.out.f2.b8.cell 3 rfl
        have z0 := hR.out.f2.b8.fr 0
        have z1 := hR.out.f2.b8.fr 1
        have z2 := hR.out.f2.b8.fr 2
        have z3 := hR.out.f2.b8.fr 3
        have PT := Lib.hid (hR.out.f2.b8.put4 (.bool false) (.bool false) (.bool false) (.bool false))
        clear hj4 hlt hj IH WI
        go_wp2_with fail
        have pt := PT.out
        clear t0 t1 t2 t3 z0 z1 z2 z3
        generalize World.setCell _ _ _ = X at pt ⊢
        have h0 := pt.1.cell 0 (show _ = some (Value.bool false) from rfl)
        have h1 := pt.1.cell 1 (show _ = some (Value.bool false) from rfl)
        have h2 := pt.1.cell 2 (show _ = some (Value.bool false) from rfl)
        have h3 := pt.1.cell 3 (show _ = some (Value.bool false) from rfl)
        refine bodyPost_ret (v := .tuple #[.agg #[.bool false, .bool false, .bool false, .bool false], .bool false]) (by simp [results, Try.results82, go_sem, h0, h1, h2, h3]) rfl (FRes.mk' noS false n' rfl (by rw [HNO.out]; rfl) HPW.out ?_ ?_)
        · exact hR.out.fx.later pt.2 LTS.out HGA.out (fun k e => by omega)
        · exact hR.out.al.hi pt.2 (fun k e => by omega)

end Go.Proofs.Ytbbndcfnpfedpaa
