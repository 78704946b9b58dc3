/- The contracts of least, list and Least. -/
import Derived.Test.YtbbndcfnpfedpaaSt
set_option linter.unusedVariables false
set_option linter.unusedSimpArgs false
namespace Go.Proofs.Ytbbndcfnpfedpaa
open Go.RowKit Go.Shelf Go.Maps

attribute [local go_sem] Oper.semAt_some

def leastF (f : (Int → Bool) → Bool) : Option (Int → Bool) := (List.range 5).findSome? fun (m : Nat) => firstF f m noS 0
def leastS (f : (Int → Bool) → Bool) : Int → Bool := (leastF f).getD noS

/-- What least stands on: its result (N + 1). -/
structure LS (l : Lan) (bM bMap bLn n : Nat) (w W : World) : Prop where
  fx : FX l bM bMap bLn w.heap.size (w.heap.size + 1 + 1) n W
  b2 : Blk W (w.heap.size + 1) #[.bool false, .bool false, .bool false, .bool false] 88
  al : Alt (fun k => k = bMap) w W
  sz : w.heap.size + 3 ≤ W.heap.size
theorem LS.next {l : Lan} {bM bMap bLn n n' : Nat} {w W W' : World} (h : LS l bM bMap bLn n w W) (hf : FX l bM bMap bLn w.heap.size (w.heap.size + 1 + 1) n' W') (ha : Alt (fun k => k = bMap) W W') (hm : bMap < w.heap.size) : LS l bM bMap bLn n' w W' :=
  ⟨hf, h.b2.alt ha (by omega), h.al.trans ha, Nat.le_trans h.sz ha.size⟩
theorem LS.lo {l : Lan} {bM bMap bLn n : Nat} {w W W' : World} (h : LS l bM bMap bLn n w W) (hb : Below W.heap.size W W') : LS l bM bMap bLn n w W' :=
  ⟨h.fx.lo hb, h.b2.alt (Alt.of_below (p := fun _ => False) hb (fun k hk e => by omega)) id, h.al.trans (Alt.of_below hb (fun k hk e => by omega)), Nat.le_trans h.sz hb.size⟩
theorem pow5_le {m : Nat} (h : m ≤ 4) : 5 ^ m ≤ 625 := by
  obtain rfl | rfl | rfl | rfl | rfl : m = 0 ∨ m = 1 ∨ m = 2 ∨ m = 3 ∨ m = 4 := by omega
  all_goals decide

def LRes (l : Lan) (bM bMap bLn n : Nat) (w : World) (e : Ending) (w' : World) : Prop :=
  e = .returned (fVal (leastS (possB l))) ∧ ∃ n', n' ≤ n + 3125 ∧ EX l (possB l) bM bMap bLn n' w' ∧ Alt (fun k => k = bMap) w w'

set_option maxRecDepth 100000 in
set_option maxHeartbeats 8000000 in
theorem least_any (l : Lan) (bM bMap bLn n : Nat) (w : World) (hE : EX l (possB l) bM bMap bLn n w) (hT : ∀ x ∈ l.ws, 0 ≤ x.te ∧ x.te ≤ 3) (hn : l.ws.length ≤ 1000) (h0 : 0 ≤ l.fs) (h5 : l.fs ≤ 5) (hga : ∀ g o, l.wa = some ⟨g, o, none⟩ → g < w.heap.size) (hnn : n ≤ 50000)
    (hne : bMap ≠ bM ∧ bMap ≠ bLn ∧ ∀ g o, l.wa = some ⟨g, o, none⟩ → bMap ≠ g) :
    Calls Try.prog 61 #[.func (.func 83) #[] #[.pointer (some ⟨bM, 0, none⟩), .pointer (some ⟨bLn, 0, none⟩)]] w (LRes l bM bMap bLn n w) := by
  have hlm : bMap < w.heap.size := hE.map_lt
  have HK := Lib.hid (show FK l bM bMap bLn w.heap.size (w.heap.size + 1 + 1) w.heap.size from ⟨hT, hn, h0, h5, hga, hne, ⟨by omega, by omega⟩, hlm⟩)
  have HLM := Lib.hid hlm
  have HLTS := Lib.hid (show bM < w.heap.size ∧ bLn < w.heap.size from ⟨hE.m.lt, hE.ln.lt⟩)
  have HNN := Lib.hid hnn
  have HGA := Lib.hid hga
  have L0 := Lib.hid (show LS l bM bMap bLn n w (((w.alloc (.cells #[.func (.func 83) #[] #[.pointer (some ⟨bM, 0, none⟩), .pointer (some ⟨bLn, 0, none⟩)]] 109)).alloc (.cells #[.bool false, .bool false, .bool false, .bool false] 88)).alloc (.cells #[.func (.func 82) #[] #[.pointer (some ⟨w.heap.size, 0, none⟩), .pointer (some ⟨w.heap.size + 1 + 1, 0, none⟩)]] 136)) from by
    refine ⟨⟨hE.lo (below_al2 (below_al2 (below_al _ _) _) _), Boxed.alt (p := fun _ => False) (Boxed.new w 109 _) (((Alt.refl _ _).alloc _).alloc _) id, ?_⟩, ?_, (((Alt.refl _ _).alloc _).alloc _).alloc _, by simp⟩
    · have := Boxed.new ((w.alloc (.cells #[.func (.func 83) #[] #[.pointer (some ⟨bM, 0, none⟩), .pointer (some ⟨bLn, 0, none⟩)]] 109)).alloc (.cells #[.bool false, .bool false, .bool false, .bool false] 88)) 136 (.func (.func 82) #[] #[.pointer (some ⟨w.heap.size, 0, none⟩), .pointer (some ⟨w.heap.size + 1 + 1, 0, none⟩)])
      rwa [World.size_alloc, World.size_alloc] at this
    · have := Blk.alt (p := fun _ => False) (Blk.new (w.alloc (.cells #[.func (.func 83) #[] #[.pointer (some ⟨bM, 0, none⟩), .pointer (some ⟨bLn, 0, none⟩)]] 109)) #[.bool false, .bool false, .bool false, .bool false] 88) ((Alt.refl _ _).alloc (.cells #[.func (.func 82) #[] #[.pointer (some ⟨w.heap.size, 0, none⟩), .pointer (some ⟨w.heap.size + 1 + 1, 0, none⟩)]] 136)) id
      rwa [World.size_alloc] at this)
  obtain ⟨G, hG⟩ : ∃ G : Nat → Option (Int → Bool), Hid (G = fun (m : Nat) => firstF (possB l) m noS 0) := ⟨_, Lib.hid rfl⟩
  have HLF : Hid (leastF (possB l) = (List.range 5).findSome? G) := Lib.hid (by rw [hG.out]; rfl)
  have CA := Lib.hid (fun (m n' : Nat) (Wx : World) (hm : m ≤ 4) (hb : w.heap.size ≤ Wx.heap.size) (hx : FX l bM bMap bLn w.heap.size (w.heap.size + 1 + 1) n' Wx) (hn' : n' + 5 ^ m ≤ 80000) => first_any l bM bMap bLn w.heap.size (w.heap.size + 1 + 1) w.heap.size HK.out m hm noS 0 n' Wx (by omega) hb hx hn')
  clear hE hT hn h0 h5 hga hnn hne hlm
  go_enter Try.func61, Try.ntmps61
  go_wp2_with fail
  generalize ((w.alloc _).alloc _).alloc _ = W0 at L0 ⊢
  go_loopg [8] 5 (fun g s8 wx => ∃ (m n' : Nat), m ≤ 5 ∧ g = 5 - m ∧ s8 = .int .i64 (m : Int) ∧ Hid ((List.range m).findSome? G = none) ∧ Hid (n' ≤ n + m * 625) ∧ Hid (LS l bM bMap bLn n' w wx))
  case atStart => exact ⟨0, n, by omega, by omega, rfl, Lib.hid rfl, Lib.hid (by omega), L0⟩
  case round =>
    obtain ⟨m, n', hm, rfl, rfl, hG0, hn', hL⟩ := hrel
    clear L0
    by_cases hlt : m < 5
    · have hz1 : (m : Int) < 5 := by omega
      have e2 : IntKind.i64.wrap ((m : Int) + 1) = (m : Int) + 1 := IntWalk.i64_in _ (by omega)
      have HM := Lib.hid hlt
      have h5 := pow5_le (m := m) (by omega)
      have CM := Lib.hid (CA.out m n' wr (by omega) (by have := hL.out.sz; omega) hL.out.fx (by have := hn'.out; have := HNN.out; have : m * 625 ≤ 4 * 625 := Nat.mul_le_mul_right _ (by omega); omega))
      have HP := Lib.hid h5
      have HGM : Hid (firstF (possB l) m noS 0 = G m) := Lib.hid (by rw [hG.out])
      unfold FRes at CM
      rw [HGM.out] at CM
      unfold fVal fCells noS at CM
      have cs := hL.out.fx.bs.cell
      clear hlt hm h5
      go_wp2_with fail
      refine CM.out.mono ?_
      rintro e w4 ⟨r, b, n4, rfl, hGm, hn4, hx4, ha4⟩
      have L4 := Lib.hid (hL.out.next hx4 ha4 HLM.out)
      have HGm := Lib.hid hGm
      have HN4 := Lib.hid (show n4 ≤ n + (m + 1) * 625 by have := hn'.out; have := HP.out; rw [Nat.succ_mul]; omega)
      have L5 := Lib.hid (L4.out.lo (below_al w4 (.cells #[.bool (r 0), .bool (r 1), .bool (r 2), .bool (r 3)] 88)))
      clear hGm hn4 hx4 ha4 cs CM hL
      cases b
      · have HNO : Hid ((List.range (m + 1)).findSome? G = none) := Lib.hid (by
          have h9 : G m = none := HGm.out
          rw [List.range_succ, List.findSome?_append, hG0.out, List.findSome?_cons, h9]; rfl)
        go_wp2_with fail
        go_roundg (5 - (m + 1))
        case measure => have := HM.out; omega
        case rel => exact ⟨m + 1, n4, by have := HM.out; omega, rfl, by simp, HNO, HN4, L5⟩
      · have HYES : Hid (leastS (possB l) = r) := Lib.hid (by
          have h9 : G m = some r := HGm.out
          unfold leastS
          obtain ⟨k, hk⟩ : ∃ k, 5 = (m + 1) + k := ⟨5 - (m + 1), by have := HM.out; omega⟩
          rw [HLF.out, hk, List.range_add, List.findSome?_append, List.range_succ, List.findSome?_append, hG0.out, List.findSome?_cons, h9]; rfl)
        have t0 := L5.out.b2.cell 0 rfl
        have t1 := L5.out.b2.cell 1 rfl
        have t2 := L5.out.b2.cell 2 rfl
        have t3 := L5.out.b2.cell 3 rfl
        have z0 := L5.out.b2.fr 0
        have z1 := L5.out.b2.fr 1
        have z2 := L5.out.b2.fr 2
        have z3 := L5.out.b2.fr 3
        have PT := Lib.hid (L5.out.b2.put4 (.bool (r 0)) (.bool (r 1)) (.bool (r 2)) (.bool (r 3)))
        go_wp2_with fail
        have pt := PT.out
        clear t0 t1 t2 t3 z0 z1 z2 z3
        generalize World.setCell _ _ _ = X at pt ⊢
        have h0 := pt.1.cell 0 (show _ = some (Value.bool (r 0)) from rfl)
        have h1 := pt.1.cell 1 (show _ = some (Value.bool (r 1)) from rfl)
        have h2 := pt.1.cell 2 (show _ = some (Value.bool (r 2)) from rfl)
        have h3 := pt.1.cell 3 (show _ = some (Value.bool (r 3)) from rfl)
        have hEN : LRes l bM bMap bLn n w (.returned (.agg #[.bool (r 0), .bool (r 1), .bool (r 2), .bool (r 3)])) X := by
          refine ⟨by rw [HYES.out]; rfl, n4, ?_, ?_, L5.out.al.hi pt.2 (fun k e => by omega)⟩
          · have h9 := HN4.out
            have : (m + 1) * 625 ≤ 5 * 625 := Nat.mul_le_mul_right _ (by have := HM.out; omega)
            omega
          · exact L5.out.fx.ex.far pt.2 (fun k hk => by
              rcases hk with rfl | rfl | rfl | ⟨o, e'⟩
              · have := HLTS.out.1; omega
              · have := HLM.out; omega
              · have := HLTS.out.2; omega
              · have := HGA.out _ _ e'; omega)
        exact bodyPost_ret (v := .agg #[.bool (r 0), .bool (r 1), .bool (r 2), .bool (r 3)]) (by simp [results, Try.results61, go_sem, h0, h1, h2, h3]) rfl hEN
    · have hz1 : ¬ (m : Int) < 5 := by omega
      have hm5 : m = 5 := by omega
      have HNO : Hid (leastS (possB l) = noS) := Lib.hid (by unfold leastS; rw [HLF.out, ← hm5, hG0.out]; rfl)
      have t0 := hL.out.b2.cell 0 rfl
      have t1 := hL.out.b2.cell 1 rfl
      have t2 := hL.out.b2.cell 2 rfl
      have t3 := hL.out.b2.cell 3 rfl
      have z0 := hL.out.b2.fr 0
      have z1 := hL.out.b2.fr 1
      have z2 := hL.out.b2.fr 2
      have z3 := hL.out.b2.fr 3
      have PT := Lib.hid (hL.out.b2.put4 (.bool false) (.bool false) (.bool false) (.bool false))
      have HN5 := Lib.hid (show n' ≤ n + 3125 by have := hn'.out; rw [hm5] at this; omega)
      clear hm5 hlt hm
      go_wp2_with fail
      have pt := PT.out
      clear t0 t1 t2 t3 z0 z1 z2 z3
      generalize World.setCell _ _ _ = X at pt ⊢
      have h0 := pt.1.cell 0 (show _ = some (Value.bool false) from rfl)
      have h1 := pt.1.cell 1 (show _ = some (Value.bool false) from rfl)
      have h2 := pt.1.cell 2 (show _ = some (Value.bool false) from rfl)
      have h3 := pt.1.cell 3 (show _ = some (Value.bool false) from rfl)
      have hEN : LRes l bM bMap bLn n w (.returned (.agg #[.bool false, .bool false, .bool false, .bool false])) X := by
        refine ⟨by rw [HNO.out]; rfl, n', HN5.out, ?_, hL.out.al.hi pt.2 (fun k e => by omega)⟩
        exact hL.out.fx.ex.far pt.2 (fun k hk => by
          rcases hk with rfl | rfl | rfl | ⟨o, e'⟩
          · have := HLTS.out.1; omega
          · have := HLM.out; omega
          · have := HLTS.out.2; omega
          · have := HGA.out _ _ e'; omega)
      exact bodyPost_ret (v := .agg #[.bool false, .bool false, .bool false, .bool false]) (by simp [results, Try.results61, go_sem, h0, h1, h2, h3]) rfl hEN

end Go.Proofs.Ytbbndcfnpfedpaa
