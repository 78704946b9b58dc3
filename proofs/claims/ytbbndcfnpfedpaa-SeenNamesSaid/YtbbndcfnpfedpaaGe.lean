/- The contracts of least, list and Least. The contracts of list and Least. The contracts of the document's lane, and of wakes. The contract of wakes: it is true. The contracts of Thin, ready, chosen. The contract of chosen. What the ranges of places say: the mathematics of SeenBehind. What the statements stand on. Of fewer games: what is seen is narrower. The contract of the reference's Only. The mathematics of SeenAll. -/
import Derived.Test.YtbbndcfnpfedpaaSt
set_option linter.unusedVariables false
set_option linter.unusedSimpArgs false

namespace Go.Proofs.Ytbbndcfnpfedpaa
open Go.RowKit Go.Shelf Go.Maps

attribute [local go_sem] Oper.semAt_some

def leastF (f : (Int → Bool) → Bool) : Option (Int → Bool) := (List.range 5).findSome? fun (m : Nat) => firstF f m noS 0
def leastS (f : (Int → Bool) → Bool) : Int → Bool := (leastF f).getD noS

/-- What least stands on: its result (N + 1). -/
structure LS (l : Lan) (bM bMap bLn n : Nat) (w W : World) : Prop where
  fx : FX l bM bMap bLn w.heap.size (w.heap.size + 1 + 1) n W
  b2 : Blk W (w.heap.size + 1) #[.bool false, .bool false, .bool false, .bool false] 88
  al : Alt (fun k => k = bMap) w W
  sz : w.heap.size + 3 ≤ W.heap.size
theorem LS.next {l : Lan} {bM bMap bLn n n' : Nat} {w W W' : World} (h : LS l bM bMap bLn n w W) (hf : FX l bM bMap bLn w.heap.size (w.heap.size + 1 + 1) n' W') (ha : Alt (fun k => k = bMap) W W') (hm : bMap < w.heap.size) : LS l bM bMap bLn n' w W' :=
  ⟨hf, h.b2.alt ha (by omega), h.al.trans ha, Nat.le_trans h.sz ha.size⟩
theorem LS.lo {l : Lan} {bM bMap bLn n : Nat} {w W W' : World} (h : LS l bM bMap bLn n w W) (hb : Below W.heap.size W W') : LS l bM bMap bLn n w W' :=
  ⟨h.fx.lo hb, h.b2.alt (Alt.of_below (p := fun _ => False) hb (fun k hk e => by omega)) id, h.al.trans (Alt.of_below hb (fun k hk e => by omega)), Nat.le_trans h.sz hb.size⟩
theorem pow5_le {m : Nat} (h : m ≤ 4) : 5 ^ m ≤ 625 := by
  obtain rfl | rfl | rfl | rfl | rfl : m = 0 ∨ m = 1 ∨ m = 2 ∨ m = 3 ∨ m = 4 := by omega
  all_goals decide

def LRes (l : Lan) (bM bMap bLn n : Nat) (w : World) (e : Ending) (w' : World) : Prop :=
  e = .returned (fVal (leastS (possB l))) ∧ ∃ n', n' ≤ n + 3125 ∧ EX l (possB l) bM bMap bLn n' w' ∧ Alt (fun k => k = bMap) w w'

set_option maxRecDepth 100000 in
set_option maxHeartbeats 8000000 in
theorem least_any (l : Lan) (bM bMap bLn n : Nat) (w : World) (hE : EX l (possB l) bM bMap bLn n w) (hT : ∀ x ∈ l.ws, 0 ≤ x.te ∧ x.te ≤ 3) (hn : l.ws.length ≤ 1000) (h0 : 0 ≤ l.fs) (h5 : l.fs ≤ 5) (hga : ∀ g o, l.wa = some ⟨g, o, none⟩ → g < w.heap.size) (hnn : n ≤ 50000)
    (hne : bMap ≠ bM ∧ bMap ≠ bLn ∧ ∀ g o, l.wa = some ⟨g, o, none⟩ → bMap ≠ g) :
    Calls Try.prog 61 #[.func (.func 83) #[] #[.pointer (some ⟨bM, 0, none⟩), .pointer (some ⟨bLn, 0, none⟩)]] w (LRes l bM bMap bLn n w) := by
  have hlm : bMap < w.heap.size := hE.map_lt
  have HK := Lib.hid (show FK l bM bMap bLn w.heap.size (w.heap.size + 1 + 1) w.heap.size from ⟨hT, hn, h0, h5, hga, hne, ⟨by omega, by omega⟩, hlm⟩)
  have HLM := Lib.hid hlm
  have HLTS := Lib.hid (show bM < w.heap.size ∧ bLn < w.heap.size from ⟨hE.m.lt, hE.ln.lt⟩)
  have HNN := Lib.hid hnn
  have HGA := Lib.hid hga
  have L0 := Lib.hid (show LS l bM bMap bLn n w (((w.alloc (.cells #[.func (.func 83) #[] #[.pointer (some ⟨bM, 0, none⟩), .pointer (some ⟨bLn, 0, none⟩)]] 109)).alloc (.cells #[.bool false, .bool false, .bool false, .bool false] 88)).alloc (.cells #[.func (.func 82) #[] #[.pointer (some ⟨w.heap.size, 0, none⟩), .pointer (some ⟨w.heap.size + 1 + 1, 0, none⟩)]] 136)) from by
    refine ⟨⟨hE.lo (below_al2 (below_al2 (below_al _ _) _) _), Boxed.alt (p := fun _ => False) (Boxed.new w 109 _) (((Alt.refl _ _).alloc _).alloc _) id, ?_⟩, ?_, (((Alt.refl _ _).alloc _).alloc _).alloc _, by simp⟩
    · have := Boxed.new ((w.alloc (.cells #[.func (.func 83) #[] #[.pointer (some ⟨bM, 0, none⟩), .pointer (some ⟨bLn, 0, none⟩)]] 109)).alloc (.cells #[.bool false, .bool false, .bool false, .bool false] 88)) 136 (.func (.func 82) #[] #[.pointer (some ⟨w.heap.size, 0, none⟩), .pointer (some ⟨w.heap.size + 1 + 1, 0, none⟩)])
      rwa [World.size_alloc, World.size_alloc] at this
    · have := Blk.alt (p := fun _ => False) (Blk.new (w.alloc (.cells #[.func (.func 83) #[] #[.pointer (some ⟨bM, 0, none⟩), .pointer (some ⟨bLn, 0, none⟩)]] 109)) #[.bool false, .bool false, .bool false, .bool false] 88) ((Alt.refl _ _).alloc (.cells #[.func (.func 82) #[] #[.pointer (some ⟨w.heap.size, 0, none⟩), .pointer (some ⟨w.heap.size + 1 + 1, 0, none⟩)]] 136)) id
      rwa [World.size_alloc] at this)
  obtain ⟨G, hG⟩ : ∃ G : Nat → Option (Int → Bool), Hid (G = fun (m : Nat) => firstF (possB l) m noS 0) := ⟨_, Lib.hid rfl⟩
  have HLF : Hid (leastF (possB l) = (List.range 5).findSome? G) := Lib.hid (by rw [hG.out]; rfl)
  have CA := Lib.hid (fun (m n' : Nat) (Wx : World) (hm : m ≤ 4) (hb : w.heap.size ≤ Wx.heap.size) (hx : FX l bM bMap bLn w.heap.size (w.heap.size + 1 + 1) n' Wx) (hn' : n' + 5 ^ m ≤ 80000) => first_any l bM bMap bLn w.heap.size (w.heap.size + 1 + 1) w.heap.size HK.out m hm noS 0 n' Wx (by omega) hb hx hn')
  clear hE hT hn h0 h5 hga hnn hne hlm
  go_enter Try.func61, Try.ntmps61
  go_wp2_with fail
  generalize ((w.alloc _).alloc _).alloc _ = W0 at L0 ⊢
  go_loopg [8] 5 (fun g s8 wx => ∃ (m n' : Nat), m ≤ 5 ∧ g = 5 - m ∧ s8 = .int .i64 (m : Int) ∧ Hid ((List.range m).findSome? G = none) ∧ Hid (n' ≤ n + m * 625) ∧ Hid (LS l bM bMap bLn n' w wx))
  case atStart => exact ⟨0, n, by omega, by omega, rfl, Lib.hid rfl, Lib.hid (by omega), L0⟩
  case round =>
    obtain ⟨m, n', hm, rfl, rfl, hG0, hn', hL⟩ := hrel
    clear L0
    by_cases hlt : m < 5
    · have hz1 : (m : Int) < 5 := by omega
      have e2 : IntKind.i64.wrap ((m : Int) + 1) = (m : Int) + 1 := IntWalk.i64_in _ (by omega)
      have HM := Lib.hid hlt
      have h5 := pow5_le (m := m) (by omega)
      have CM := Lib.hid (CA.out m n' wr (by omega) (by have := hL.out.sz; omega) hL.out.fx (by have := hn'.out; have := HNN.out; have : m * 625 ≤ 4 * 625 := Nat.mul_le_mul_right _ (by omega); omega))
      have HP := Lib.hid h5
      have HGM : Hid (firstF (possB l) m noS 0 = G m) := Lib.hid (by rw [hG.out])
      unfold FRes at CM
      rw [HGM.out] at CM
      unfold fVal fCells noS at CM
      have cs := hL.out.fx.bs.cell
      clear hlt hm h5
      go_wp2_with fail
      refine CM.out.mono ?_
      rintro e w4 ⟨r, b, n4, rfl, hGm, hn4, hx4, ha4⟩
      have L4 := Lib.hid (hL.out.next hx4 ha4 HLM.out)
      have HGm := Lib.hid hGm
      have HN4 := Lib.hid (show n4 ≤ n + (m + 1) * 625 by have := hn'.out; have := HP.out; rw [Nat.succ_mul]; omega)
      have L5 := Lib.hid (L4.out.lo (below_al w4 (.cells #[.bool (r 0), .bool (r 1), .bool (r 2), .bool (r 3)] 88)))
      clear hGm hn4 hx4 ha4 cs CM hL
      cases b
      · have HNO : Hid ((List.range (m + 1)).findSome? G = none) := Lib.hid (by
          have h9 : G m = none := HGm.out
          rw [List.range_succ, List.findSome?_append, hG0.out, List.findSome?_cons, h9]; rfl)
        go_wp2_with fail
        go_roundg (5 - (m + 1))
        case measure => have := HM.out; omega
        case rel => exact ⟨m + 1, n4, by have := HM.out; omega, rfl, by simp, HNO, HN4, L5⟩
      · have HYES : Hid (leastS (possB l) = r) := Lib.hid (by
          have h9 : G m = some r := HGm.out
          unfold leastS
          obtain ⟨k, hk⟩ : ∃ k, 5 = (m + 1) + k := ⟨5 - (m + 1), by have := HM.out; omega⟩
          rw [HLF.out, hk, List.range_add, List.findSome?_append, List.range_succ, List.findSome?_append, hG0.out, List.findSome?_cons, h9]; rfl)
        have t0 := L5.out.b2.cell 0 rfl
        have t1 := L5.out.b2.cell 1 rfl
        have t2 := L5.out.b2.cell 2 rfl
        have t3 := L5.out.b2.cell 3 rfl
        have z0 := L5.out.b2.fr 0
        have z1 := L5.out.b2.fr 1
        have z2 := L5.out.b2.fr 2
        have z3 := L5.out.b2.fr 3
        have PT := Lib.hid (L5.out.b2.put4 (.bool (r 0)) (.bool (r 1)) (.bool (r 2)) (.bool (r 3)))
        go_wp2_with fail
        have pt := PT.out
        clear t0 t1 t2 t3 z0 z1 z2 z3
        generalize World.setCell _ _ _ = X at pt ⊢
        have h0 := pt.1.cell 0 (show _ = some (Value.bool (r 0)) from rfl)
        have h1 := pt.1.cell 1 (show _ = some (Value.bool (r 1)) from rfl)
        have h2 := pt.1.cell 2 (show _ = some (Value.bool (r 2)) from rfl)
        have h3 := pt.1.cell 3 (show _ = some (Value.bool (r 3)) from rfl)
        have hEN : LRes l bM bMap bLn n w (.returned (.agg #[.bool (r 0), .bool (r 1), .bool (r 2), .bool (r 3)])) X := by
          refine ⟨by rw [HYES.out]; rfl, n4, ?_, ?_, L5.out.al.hi pt.2 (fun k e => by omega)⟩
          · have h9 := HN4.out
            have : (m + 1) * 625 ≤ 5 * 625 := Nat.mul_le_mul_right _ (by have := HM.out; omega)
            omega
          · exact L5.out.fx.ex.far pt.2 (fun k hk => by
              rcases hk with rfl | rfl | rfl | ⟨o, e'⟩
              · have := HLTS.out.1; omega
              · have := HLM.out; omega
              · have := HLTS.out.2; omega
              · have := HGA.out _ _ e'; omega)
        exact bodyPost_ret (v := .agg #[.bool (r 0), .bool (r 1), .bool (r 2), .bool (r 3)]) (by simp [results, Try.results61, go_sem, h0, h1, h2, h3]) rfl hEN
    · have hz1 : ¬ (m : Int) < 5 := by omega
      have hm5 : m = 5 := by omega
      have HNO : Hid (leastS (possB l) = noS) := Lib.hid (by unfold leastS; rw [HLF.out, ← hm5, hG0.out]; rfl)
      have t0 := hL.out.b2.cell 0 rfl
      have t1 := hL.out.b2.cell 1 rfl
      have t2 := hL.out.b2.cell 2 rfl
      have t3 := hL.out.b2.cell 3 rfl
      have z0 := hL.out.b2.fr 0
      have z1 := hL.out.b2.fr 1
      have z2 := hL.out.b2.fr 2
      have z3 := hL.out.b2.fr 3
      have PT := Lib.hid (hL.out.b2.put4 (.bool false) (.bool false) (.bool false) (.bool false))
      have HN5 := Lib.hid (show n' ≤ n + 3125 by have := hn'.out; rw [hm5] at this; omega)
      clear hm5 hlt hm
      go_wp2_with fail
      have pt := PT.out
      clear t0 t1 t2 t3 z0 z1 z2 z3
      generalize World.setCell _ _ _ = X at pt ⊢
      have h0 := pt.1.cell 0 (show _ = some (Value.bool false) from rfl)
      have h1 := pt.1.cell 1 (show _ = some (Value.bool false) from rfl)
      have h2 := pt.1.cell 2 (show _ = some (Value.bool false) from rfl)
      have h3 := pt.1.cell 3 (show _ = some (Value.bool false) from rfl)
      have hEN : LRes l bM bMap bLn n w (.returned (.agg #[.bool false, .bool false, .bool false, .bool false])) X := by
        refine ⟨by rw [HNO.out]; rfl, n', HN5.out, ?_, hL.out.al.hi pt.2 (fun k e => by omega)⟩
        exact hL.out.fx.ex.far pt.2 (fun k hk => by
          rcases hk with rfl | rfl | rfl | ⟨o, e'⟩
          · have := HLTS.out.1; omega
          · have := HLM.out; omega
          · have := HLTS.out.2; omega
          · have := HGA.out _ _ e'; omega)
      exact bodyPost_ret (v := .agg #[.bool false, .bool false, .bool false, .bool false]) (by simp [results, Try.results61, go_sem, h0, h1, h2, h3]) rfl hEN

end Go.Proofs.Ytbbndcfnpfedpaa

namespace Go.Proofs.Ytbbndcfnpfedpaa
open Go.RowKit Go.Shelf Go.Maps

attribute [local go_sem] Oper.semAt_some

theorem fidx0 (b0 b1 b2 b3 : Bool) (w : World) : Sem.run Try.prog (Instr.index 88 (.agg #[.bool b0, .bool b1, .bool b2, .bool b3]) (.int .i64 0)) w = .ok (.bool b0) w := by kernel_rfl
theorem fidx1 (b0 b1 b2 b3 : Bool) (w : World) : Sem.run Try.prog (Instr.index 88 (.agg #[.bool b0, .bool b1, .bool b2, .bool b3]) (.int .i64 1)) w = .ok (.bool b1) w := by kernel_rfl
theorem fidx2 (b0 b1 b2 b3 : Bool) (w : World) : Sem.run Try.prog (Instr.index 88 (.agg #[.bool b0, .bool b1, .bool b2, .bool b3]) (.int .i64 2)) w = .ok (.bool b2) w := by kernel_rfl
theorem fidx3 (b0 b1 b2 b3 : Bool) (w : World) : Sem.run Try.prog (Instr.index 88 (.agg #[.bool b0, .bool b1, .bool b2, .bool b3]) (.int .i64 3)) w = .ok (.bool b3) w := by kernel_rfl
def listS (s : Int → Bool) : List Int := ([0, 1, 2, 3] : List Int).filter s
def listTo (s : Int → Bool) (i : Nat) : List Int := (([0, 1, 2, 3] : List Int).take i).filter s

/-- A list of numbers that a call has made. -/
def RetI (xs : List Int) (w : World) (e : Ending) (w' : World) : Prop := ∃ a c, e = .returned (.slice a xs.length c) ∧ IntsAt w' a xs ∧ (∀ g o, a = some ⟨g, o, none⟩ → w.heap.size ≤ g ∧ g < w'.heap.size) ∧ Below w.heap.size w w'

structure LI (s : Int → Bool) (i : Nat) (w W : World) (v : Value) : Prop where
  b : Blk W w.heap.size (fCells s) 88
  ow : W.ownsRow (w.heap.size + 1) 3 1 v (listTo s i).length ((listTo s i).map (Value.int .i64))
  bl : Below w.heap.size w W
  sz : w.heap.size + 1 ≤ W.heap.size
theorem LI.same {s : Int → Bool} {i : Nat} {w W : World} {v : Value} (h : LI s i w W v) (he : listTo s (i + 1) = listTo s i) : LI s (i + 1) w W v := ⟨h.b, by rw [he]; exact h.ow, h.bl, h.sz⟩
theorem LI.push {s : Int → Bool} {i : Nat} {w W w1 : World} {v v' : Value} {x : Int} {o : Obj} (h : LI s i w W v) (he : listTo s (i + 1) = listTo s i ++ [x]) (hg : (W.alloc o).grownBy w1 v.ownBlock)
    (ho : w1.ownsRow (w.heap.size + 1) 3 1 v' ((listTo s i).length + 1) ((listTo s i).map (Value.int .i64) ++ [.int .i64 x])) : LI s (i + 1) w w1 v' := by
  have hA : Alt (fun k => w.heap.size + 1 ≤ k) W w1 := ((Alt.refl _ W).alloc o).grown hg fun k e => own_base h.ow e
  refine ⟨h.b.alt hA (by omega), ?_, ((Alt.of_below (p := fun k => w.heap.size ≤ k) h.bl (fun k _ e => e)).trans (hA.mono fun k _ e => by omega)).below (Nat.le_refl _) fun _ e => e, Nat.le_trans h.sz hA.size⟩
  rw [he, List.length_append, List.map_append]
  exact ho

theorem listTo_len (s : Int → Bool) (i : Nat) : (listTo s i).length ≤ 4 := by
  unfold listTo
  refine Nat.le_trans (List.length_filter_le _ _) ?_
  rw [List.length_take]; simp; omega

set_option maxRecDepth 100000 in
set_option maxHeartbeats 8000000 in
theorem list_any (s : Int → Bool) (w : World) : Calls Try.prog 63 #[fVal s] w (RetI (listS s) w) := by
  obtain ⟨i0, hi0, hy0, hy1, hy2⟩ := info_parts info3
  have L0 := Lib.hid (show LI s 0 w (w.alloc (.cells (fCells s) 88)) (.slice none 0 0) from ⟨Blk.new _ _ _, ⟨rfl, .inl ⟨rfl, rfl⟩⟩, below_al _ _, by simp⟩)
  have HLN := Lib.hid (listTo_len s)
  unfold RetI
  unfold fVal
  unfold fCells at L0 ⊢
  go_enter Try.func63, Try.ntmps63
  go_wp2_with fail
  generalize w.alloc _ = W0 at L0 ⊢
  go_loopg [3, 7] 4 (fun g s3 s7 wx => ∃ (i : Nat) (v : Value), i ≤ 4 ∧ g = 4 - i ∧ s7 = .int .i64 (i : Int) ∧ v = s3 ∧ Hid (LI s i w wx v))
  case atStart => exact ⟨0, _, by omega, by omega, rfl, rfl, L0⟩
  case round =>
    obtain ⟨i, v, hi, rfl, rfl, rfl, hL⟩ := hrel
    clear L0
    obtain rfl | rfl | rfl | rfl | rfl : i = 0 ∨ i = 1 ∨ i = 2 ∨ i = 3 ∨ i = 4 := by omega
    · have hb := hL.out.b
      unfold fCells at hb
      have k0 := hb.cell 0 (show _ = some (Value.bool (s 0)) from rfl)
      have k1 := hb.cell 1 (show _ = some (Value.bool (s 1)) from rfl)
      have k2 := hb.cell 2 (show _ = some (Value.bool (s 2)) from rfl)
      have k3 := hb.cell 3 (show _ = some (Value.bool (s 3)) from rfl)
      have HY : Hid (s 0 = true → listTo s (0 + 1) = listTo s 0 ++ [0]) := Lib.hid (fun h => by unfold listTo; rw [show ([0, 1, 2, 3] : List Int).take (0 + 1) = ([0, 1, 2, 3] : List Int).take 0 ++ [0] from rfl, List.filter_append]; simp [List.filter, h])
      have HX : Hid (s 0 = false → listTo s (0 + 1) = listTo s 0) := Lib.hid (fun h => by unfold listTo; rw [show ([0, 1, 2, 3] : List Int).take (0 + 1) = ([0, 1, 2, 3] : List Int).take 0 ++ [0] from rfl, List.filter_append]; simp [List.filter, h])
      have HL4 := Lib.hid (HLN.out 0)
      have OW := Lib.hid hL.out.ow
      have SZ := Lib.hid hL.out.sz
      have PU := Lib.hid (fun w1 v' (he : listTo s (0 + 1) = listTo s 0 ++ [0]) hg ho => hL.out.push (w1 := w1) (v' := v') (x := 0) (o := .cells #[.int .i64 0] 3) he hg ho)
      generalize hs : s 0 = b at *
      clear hs hb
      cases b
      · have N1 := Lib.hid (hL.out.same (HX.out (by first | rfl | trivial)))
        clear hL OW PU
        go_wp2_with fail
        rw [fidx0]
        go_wp2_with fail
        go_roundg (4 - (0 + 1))
        case measure => omega
        case rel => exact ⟨0 + 1, _, by omega, rfl, by simp, rfl, N1⟩
      · have HE := Lib.hid (HY.out (by first | rfl | trivial))
        generalize listTo s 0 = xs at *
        go_wp2_with fail
        rw [fidx0]
        go_wp2_with (at_builtin; go_must (refine wpList_append_own_at _ rfl _ _ 25 rfl (w.heap.size + 1) 3 i0 _ 1 8 Try.underlying25 hi0 hy0 hy1 hy2 rfl (by decide) v xs.length (xs.map (Value.int .i64)) rfl (OW.out.alloc _) ⟨wr.heap.size, 0, none⟩ 1 1 [.int .i64 0] rfl (by rfl) (cell_one_new _ _ _) (by simp [Value.oneCell']) (by unfold maxLen; have := HL4.out; omega) (by have := HL4.out; omega) (by have := SZ.out; simp; omega) ?_); intro v' w1 hown' hgrow hnil hloc; have N1 := Lib.hid (PU.out w1 v' HE.out hgrow hown'); clear hown' hgrow hnil hloc)
        clear hL OW PU k0 k1 k2 k3
        go_roundg (4 - (0 + 1))
        case measure => omega
        case rel => exact ⟨0 + 1, _, by omega, rfl, by simp, rfl, N1⟩
    · have hb := hL.out.b
      unfold fCells at hb
      have k0 := hb.cell 0 (show _ = some (Value.bool (s 0)) from rfl)
      have k1 := hb.cell 1 (show _ = some (Value.bool (s 1)) from rfl)
      have k2 := hb.cell 2 (show _ = some (Value.bool (s 2)) from rfl)
      have k3 := hb.cell 3 (show _ = some (Value.bool (s 3)) from rfl)
      have HY : Hid (s 1 = true → listTo s (1 + 1) = listTo s 1 ++ [1]) := Lib.hid (fun h => by unfold listTo; rw [show ([0, 1, 2, 3] : List Int).take (1 + 1) = ([0, 1, 2, 3] : List Int).take 1 ++ [1] from rfl, List.filter_append]; simp [List.filter, h])
      have HX : Hid (s 1 = false → listTo s (1 + 1) = listTo s 1) := Lib.hid (fun h => by unfold listTo; rw [show ([0, 1, 2, 3] : List Int).take (1 + 1) = ([0, 1, 2, 3] : List Int).take 1 ++ [1] from rfl, List.filter_append]; simp [List.filter, h])
      have HL4 := Lib.hid (HLN.out 1)
      have OW := Lib.hid hL.out.ow
      have SZ := Lib.hid hL.out.sz
      have PU := Lib.hid (fun w1 v' (he : listTo s (1 + 1) = listTo s 1 ++ [1]) hg ho => hL.out.push (w1 := w1) (v' := v') (x := 1) (o := .cells #[.int .i64 1] 3) he hg ho)
      generalize hs : s 1 = b at *
      clear hs hb
      cases b
      · have N1 := Lib.hid (hL.out.same (HX.out (by first | rfl | trivial)))
        clear hL OW PU
        go_wp2_with fail
        rw [fidx1]
        go_wp2_with fail
        go_roundg (4 - (1 + 1))
        case measure => omega
        case rel => exact ⟨1 + 1, _, by omega, rfl, by simp, rfl, N1⟩
      · have HE := Lib.hid (HY.out (by first | rfl | trivial))
        generalize listTo s 1 = xs at *
        go_wp2_with fail
        rw [fidx1]
        go_wp2_with (at_builtin; go_must (refine wpList_append_own_at _ rfl _ _ 25 rfl (w.heap.size + 1) 3 i0 _ 1 8 Try.underlying25 hi0 hy0 hy1 hy2 rfl (by decide) v xs.length (xs.map (Value.int .i64)) rfl (OW.out.alloc _) ⟨wr.heap.size, 0, none⟩ 1 1 [.int .i64 1] rfl (by rfl) (cell_one_new _ _ _) (by simp [Value.oneCell']) (by unfold maxLen; have := HL4.out; omega) (by have := HL4.out; omega) (by have := SZ.out; simp; omega) ?_); intro v' w1 hown' hgrow hnil hloc; have N1 := Lib.hid (PU.out w1 v' HE.out hgrow hown'); clear hown' hgrow hnil hloc)
        clear hL OW PU k0 k1 k2 k3
        go_roundg (4 - (1 + 1))
        case measure => omega
        case rel => exact ⟨1 + 1, _, by omega, rfl, by simp, rfl, N1⟩
    · have hb := hL.out.b
      unfold fCells at hb
      have k0 := hb.cell 0 (show _ = some (Value.bool (s 0)) from rfl)
      have k1 := hb.cell 1 (show _ = some (Value.bool (s 1)) from rfl)
      have k2 := hb.cell 2 (show _ = some (Value.bool (s 2)) from rfl)
      have k3 := hb.cell 3 (show _ = some (Value.bool (s 3)) from rfl)
      have HY : Hid (s 2 = true → listTo s (2 + 1) = listTo s 2 ++ [2]) := Lib.hid (fun h => by unfold listTo; rw [show ([0, 1, 2, 3] : List Int).take (2 + 1) = ([0, 1, 2, 3] : List Int).take 2 ++ [2] from rfl, List.filter_append]; simp [List.filter, h])
      have HX : Hid (s 2 = false → listTo s (2 + 1) = listTo s 2) := Lib.hid (fun h => by unfold listTo; rw [show ([0, 1, 2, 3] : List Int).take (2 + 1) = ([0, 1, 2, 3] : List Int).take 2 ++ [2] from rfl, List.filter_append]; simp [List.filter, h])
      have HL4 := Lib.hid (HLN.out 2)
      have OW := Lib.hid hL.out.ow
      have SZ := Lib.hid hL.out.sz
      have PU := Lib.hid (fun w1 v' (he : listTo s (2 + 1) = listTo s 2 ++ [2]) hg ho => hL.out.push (w1 := w1) (v' := v') (x := 2) (o := .cells #[.int .i64 2] 3) he hg ho)
      generalize hs : s 2 = b at *
      clear hs hb
      cases b
      · have N1 := Lib.hid (hL.out.same (HX.out (by first | rfl | trivial)))
        clear hL OW PU
        go_wp2_with fail
        rw [fidx2]
        go_wp2_with fail
        go_roundg (4 - (2 + 1))
        case measure => omega
        case rel => exact ⟨2 + 1, _, by omega, rfl, by simp, rfl, N1⟩
      · have HE := Lib.hid (HY.out (by first | rfl | trivial))
        generalize listTo s 2 = xs at *
        go_wp2_with fail
        rw [fidx2]
        go_wp2_with (at_builtin; go_must (refine wpList_append_own_at _ rfl _ _ 25 rfl (w.heap.size + 1) 3 i0 _ 1 8 Try.underlying25 hi0 hy0 hy1 hy2 rfl (by decide) v xs.length (xs.map (Value.int .i64)) rfl (OW.out.alloc _) ⟨wr.heap.size, 0, none⟩ 1 1 [.int .i64 2] rfl (by rfl) (cell_one_new _ _ _) (by simp [Value.oneCell']) (by unfold maxLen; have := HL4.out; omega) (by have := HL4.out; omega) (by have := SZ.out; simp; omega) ?_); intro v' w1 hown' hgrow hnil hloc; have N1 := Lib.hid (PU.out w1 v' HE.out hgrow hown'); clear hown' hgrow hnil hloc)
        clear hL OW PU k0 k1 k2 k3
        go_roundg (4 - (2 + 1))
        case measure => omega
        case rel => exact ⟨2 + 1, _, by omega, rfl, by simp, rfl, N1⟩
    · have hb := hL.out.b
      unfold fCells at hb
      have k0 := hb.cell 0 (show _ = some (Value.bool (s 0)) from rfl)
      have k1 := hb.cell 1 (show _ = some (Value.bool (s 1)) from rfl)
      have k2 := hb.cell 2 (show _ = some (Value.bool (s 2)) from rfl)
      have k3 := hb.cell 3 (show _ = some (Value.bool (s 3)) from rfl)
      have HY : Hid (s 3 = true → listTo s (3 + 1) = listTo s 3 ++ [3]) := Lib.hid (fun h => by unfold listTo; rw [show ([0, 1, 2, 3] : List Int).take (3 + 1) = ([0, 1, 2, 3] : List Int).take 3 ++ [3] from rfl, List.filter_append]; simp [List.filter, h])
      have HX : Hid (s 3 = false → listTo s (3 + 1) = listTo s 3) := Lib.hid (fun h => by unfold listTo; rw [show ([0, 1, 2, 3] : List Int).take (3 + 1) = ([0, 1, 2, 3] : List Int).take 3 ++ [3] from rfl, List.filter_append]; simp [List.filter, h])
      have HL4 := Lib.hid (HLN.out 3)
      have OW := Lib.hid hL.out.ow
      have SZ := Lib.hid hL.out.sz
      have PU := Lib.hid (fun w1 v' (he : listTo s (3 + 1) = listTo s 3 ++ [3]) hg ho => hL.out.push (w1 := w1) (v' := v') (x := 3) (o := .cells #[.int .i64 3] 3) he hg ho)
      generalize hs : s 3 = b at *
      clear hs hb
      cases b
      · have N1 := Lib.hid (hL.out.same (HX.out (by first | rfl | trivial)))
        clear hL OW PU
        go_wp2_with fail
        rw [fidx3]
        go_wp2_with fail
        go_roundg (4 - (3 + 1))
        case measure => omega
        case rel => exact ⟨3 + 1, _, by omega, rfl, by simp, rfl, N1⟩
      · have HE := Lib.hid (HY.out (by first | rfl | trivial))
        generalize listTo s 3 = xs at *
        go_wp2_with fail
        rw [fidx3]
        go_wp2_with (at_builtin; go_must (refine wpList_append_own_at _ rfl _ _ 25 rfl (w.heap.size + 1) 3 i0 _ 1 8 Try.underlying25 hi0 hy0 hy1 hy2 rfl (by decide) v xs.length (xs.map (Value.int .i64)) rfl (OW.out.alloc _) ⟨wr.heap.size, 0, none⟩ 1 1 [.int .i64 3] rfl (by rfl) (cell_one_new _ _ _) (by simp [Value.oneCell']) (by unfold maxLen; have := HL4.out; omega) (by have := HL4.out; omega) (by have := SZ.out; simp; omega) ?_); intro v' w1 hown' hgrow hnil hloc; have N1 := Lib.hid (PU.out w1 v' HE.out hgrow hown'); clear hown' hgrow hnil hloc)
        clear hL OW PU k0 k1 k2 k3
        go_roundg (4 - (3 + 1))
        case measure => omega
        case rel => exact ⟨3 + 1, _, by omega, rfl, by simp, rfl, N1⟩
    · have hO := hL.out.ow
      obtain ⟨a, c, rfl⟩ := own_len hO
      have hI := (own_intsAt hO).1
      have HE := Lib.hid (show listTo s 4 = listS s from rfl)
      have HI := Lib.hid hI
      have HBB := Lib.hid (show ∀ g o, a = some ⟨g, o, none⟩ → w.heap.size ≤ g ∧ g < wr.heap.size from fun g o e => by
        have := hO.lt g (by rw [e]; rfl)
        omega)
      rw [HE.out] at HI hO
      clear hI hO
      go_wp2_with fail
      go_returns
      first
      | exact ⟨a, ⟨c, rfl⟩, HI.out, HBB.out, hL.out.bl⟩
      | exact ⟨a, c, rfl, HI.out, HBB.out, hL.out.bl⟩

def leastL (l : Lan) : List Int := if faultW l = 0 then listS (leastS (possB l)) else []
def LeastR (l : Lan) (w : World) (e : Ending) (w' : World) : Prop := ∃ a c, e = .returned (.tuple #[.slice a (leastL l).length c, .int .i64 (faultW l)]) ∧ IntsAt w' a (leastL l) ∧ (∀ g o, a = some ⟨g, o, none⟩ → w.heap.size ≤ g ∧ g < w'.heap.size) ∧ Below w.heap.size w w'

set_option maxRecDepth 100000 in
set_option maxHeartbeats 8000000 in
theorem leastP_any (l : Lan) (w : World) (hL : WdsAt w l.wa l.ws) (hn : l.ws.length ≤ 1000) (hga : ∀ g o, l.wa = some ⟨g, o, none⟩ → g < w.heap.size) :
    Calls Try.prog 32 #[l.val] w (LeastR l w) := by
  have CL := Lib.hid (fun W (hb : Below w.heap.size w W) => checkLane_any l W (hL.lo hb) hn)
  have EP := Lib.hid (fun W (hb : Below w.heap.size w W) => explainer_any l W (hL.lo hb))
  have LE := Lib.hid (fun (hF : faultW l = 0) (bM bMap bLn : Nat) W (hb : Below w.heap.size w W) (hE : EX l (possB l) bM bMap bLn 0 W) (hne : bMap ≠ bM ∧ bMap ≠ bLn ∧ ∀ g o, l.wa = some ⟨g, o, none⟩ → bMap ≠ g) =>
    least_any l bM bMap bLn 0 W hE (fault0 hF).1 hn (by have := (fault0 hF).2.2.1; omega) (fault0 hF).2.2.2.1 (fun g o e => Nat.lt_of_lt_of_le (hga g o e) hb.size) (by omega) hne)
  have LS := Lib.hid (fun s W => list_any s W)
  have HLL : Hid (leastL l = if faultW l = 0 then listS (leastS (possB l)) else []) := Lib.hid rfl
  have HGA := Lib.hid hga
  have B0 := Lib.hid (below_al w (.cells #[.int .i64 l.fs, .slice l.wa l.ws.length l.wc] 32))
  have K0 := Lib.hid (Blk.new w #[.int .i64 l.fs, .slice l.wa l.ws.length l.wc] 32)
  unfold LeastR
  unfold LRes at LE
  unfold RetI at LS
  generalize leastL l = LL at *
  generalize leastS (possB l) = S at *
  generalize faultW l = F at *
  unfold Lan.val at *
  clear hL hn hga
  go_enter Try.func32, Try.ntmps32
  go_wp2_with fail
  generalize w.alloc _ = W0 at K0 B0 ⊢
  refine (CL.out _ B0.out).mono ?_
  rintro e w1 ⟨rfl, hb1⟩
  have B1 := Lib.hid (below_go B0.out hb1)
  have K1 := Lib.hid (Blk.alt (p := fun _ => False) K0.out (Alt.of_below hb1 (fun k hk e => by omega)) id)
  have Z1 := Lib.hid (Nat.le_trans B0.out.size hb1.size)
  have k0 := K1.out.cell 0 (show _ = some (Value.int .i64 l.fs) from rfl)
  have k1 := K1.out.cell 1 (show _ = some (Value.slice l.wa l.ws.length l.wc) from rfl)
  clear hb1 B0 K0 CL
  by_cases hF : F = 0
  · subst hF
    have HLS : Hid (LL = listS S) := Lib.hid (by rw [HLL.out, if_pos rfl])
    go_wp2_with fail
    refine (EP.out _ B1.out).mono ?_
    rintro e w2 ⟨rfl, hx2, hb2, hz2⟩
    have B2 := Lib.hid (below_go B1.out hb2)
    have L2 := Lib.hid (LE.out (by first | rfl | trivial) _ _ _ w2 B2.out hx2 ⟨by omega, by omega, fun g o e => by have := HGA.out g o e; have := Z1.out; omega⟩)
    have ZM := Lib.hid (show w.heap.size ≤ w1.heap.size + 1 by have := Z1.out; omega)
    clear hx2 hb2 hz2 EP k0 k1 B1
    go_wp2_with fail
    refine L2.out.mono ?_
    rintro e w3 ⟨rfl, n3, hn3, hx3, ha3⟩
    have B3 := Lib.hid (((Alt.of_below (p := fun k => w.heap.size ≤ k) B2.out (fun k hk e => e)).trans (ha3.mono fun k _ e => by have := ZM.out; omega)).below (Nat.le_refl _) fun _ e => e)
    have L3 := Lib.hid (LS.out S w3)
    unfold fVal fCells at L3 ⊢
    rw [← HLS.out] at L3
    clear hn3 hx3 ha3 L2
    go_wp2_with fail
    refine L3.out.mono ?_
    rintro e w4 ⟨a, c, rfl, hI, hB, hb4⟩
    have B4 := Lib.hid (below_go B3.out hb4)
    have HI := Lib.hid hI
    have HBB := Lib.hid (show ∀ g o, a = some ⟨g, o, none⟩ → w.heap.size ≤ g ∧ g < w4.heap.size from fun g o e => ⟨Nat.le_trans B3.out.size (hB g o e).1, (hB g o e).2⟩)
    clear hI hB hb4 L3
    go_wp2_with fail
    go_returns
    first
    | exact ⟨a, c, rfl, HI.out, HBB.out, B4.out⟩
    | exact ⟨a, ⟨c, rfl⟩, HI.out, HBB.out, B4.out⟩
  · have hF2 : (F == 0) = false := by simpa using hF
    have HLS : Hid (LL = []) := Lib.hid (by rw [HLL.out, if_neg hF])
    go_wp2_with fail
    go_returns
    refine ⟨none, 0, ?_, ?_, ?_, B1.out⟩
    · rw [HLS.out]; first | done | rfl
    · rw [HLS.out]; exact fun i v h => by simp at h
    · intro g o e; cases e

end Go.Proofs.Ytbbndcfnpfedpaa

namespace Go.Proofs.Ytbbndcfnpfedpaa
open Go.RowKit Go.Shelf Go.Maps

attribute [local go_sem] Oper.semAt_some

theorem ints_newS (w : World) (xs : List Int) (t : TypeId) : IntsAt (w.alloc (.cells (xs.map (Value.int .i64)).toArray t)) (some ⟨w.heap.size, 0, none⟩) xs := fun i v hv =>
  ⟨w.heap.size, 0, rfl, new_cell w (by rw [Nat.zero_add, List.getElem?_toArray, List.getElem?_map, hv]; rfl)⟩

set_option maxHeartbeats 1000000 in
theorem word_any (f b t l m : Int) (w : World) : Calls Try.prog 42 #[.int .i64 f, .int .i64 b, .int .i64 t, .int .i64 l, .int .i64 m] w fun e w' => e = .returned (.agg #[.int .i64 f, .int .i64 b, .int .i64 t, .int .i64 l, .int .i64 m]) ∧ Below w.heap.size w w' := by
  have R0 := Lib.hid (fun o => below_al w o)
  go_enter Try.func42, Try.ntmps42
  go_wp2_with fail
  go_returns
  exact ⟨rfl, R0.out _⟩

def nightW : List Wd := [⟨0, 0, 0, 3, 3⟩, ⟨0, 1, 0, 0, 2⟩, ⟨0, 0, 1, 2, 4⟩, ⟨1, 0, 1, 6, 6⟩, ⟨1, 0, 2, 0, 1⟩]
def nightL (a : Option Addr) (c : Nat) : Lan := ⟨2, a, c, nightW⟩
def NightR (w : World) (e : Ending) (w' : World) : Prop := ∃ a c, e = .returned (nightL a c).val ∧ WdsAt w' a nightW ∧ (∀ g o, a = some ⟨g, o, none⟩ → g < w'.heap.size) ∧ Below w.heap.size w w'

set_option maxHeartbeats 4000000 in
theorem night_any (w : World) : Calls Try.prog 41 #[] w (NightR w) := by
  have WO := Lib.hid (fun f b t l m W => word_any f b t l m W)
  have R0 := Lib.hid (below_al w (.cells #[.int .i64 0, .slice none 0 0] 32))
  have T0 := Lib.hid (Blk.new w #[.int .i64 0, .slice none 0 0] 32)
  have NW := Lib.hid (fun W => wds_new W nightW 70)
  have HC : Hid (wdCells nightW = [.int .i64 0, .int .i64 0, .int .i64 0, .int .i64 3, .int .i64 3, .int .i64 0, .int .i64 1, .int .i64 0, .int .i64 0, .int .i64 2, .int .i64 0, .int .i64 0, .int .i64 1, .int .i64 2, .int .i64 4, .int .i64 1, .int .i64 0, .int .i64 1, .int .i64 6, .int .i64 6, .int .i64 1, .int .i64 0, .int .i64 2, .int .i64 0, .int .i64 1]) := Lib.hid rfl
  rw [HC.out] at NW
  go_enter Try.func41, Try.ntmps41
  go_wp2_with fail
  generalize w.alloc _ = W0 at R0 T0 ⊢
  refine (WO.out _ _ _ _ _ _).mono ?_
  rintro e w1 ⟨rfl, h1⟩
  have R1 := Lib.hid (below_go R0.out h1)
  have T1 := Lib.hid (Blk.alt (p := fun _ => False) T0.out (Alt.of_below h1 (fun k hk e => by omega)) id)
  clear h1 R0 T0
  go_wp2_with fail
  refine (WO.out _ _ _ _ _ _).mono ?_
  rintro e w2 ⟨rfl, h1⟩
  have R2 := Lib.hid (below_go R1.out h1)
  have T2 := Lib.hid (Blk.alt (p := fun _ => False) T1.out (Alt.of_below h1 (fun k hk e => by omega)) id)
  clear h1 R1 T1
  go_wp2_with fail
  refine (WO.out _ _ _ _ _ _).mono ?_
  rintro e w3 ⟨rfl, h1⟩
  have R3 := Lib.hid (below_go R2.out h1)
  have T3 := Lib.hid (Blk.alt (p := fun _ => False) T2.out (Alt.of_below h1 (fun k hk e => by omega)) id)
  clear h1 R2 T2
  go_wp2_with fail
  refine (WO.out _ _ _ _ _ _).mono ?_
  rintro e w4 ⟨rfl, h1⟩
  have R4 := Lib.hid (below_go R3.out h1)
  have T4 := Lib.hid (Blk.alt (p := fun _ => False) T3.out (Alt.of_below h1 (fun k hk e => by omega)) id)
  clear h1 R3 T3
  go_wp2_with fail
  refine (WO.out _ _ _ _ _ _).mono ?_
  rintro e w5 ⟨rfl, h1⟩
  have R5 := Lib.hid (below_go R4.out h1)
  have T5 := Lib.hid (Blk.alt (p := fun _ => False) T4.out (Alt.of_below h1 (fun k hk e => by omega)) id)
  clear h1 R4 T4
  have N5 := Lib.hid (NW.out w5)
  have T6 := Lib.hid (Blk.alt (p := fun _ => False) T5.out ((Alt.refl _ _).alloc (.cells #[.int .i64 0, .int .i64 0, .int .i64 0, .int .i64 3, .int .i64 3, .int .i64 0, .int .i64 1, .int .i64 0, .int .i64 0, .int .i64 2, .int .i64 0, .int .i64 0, .int .i64 1, .int .i64 2, .int .i64 4, .int .i64 1, .int .i64 0, .int .i64 1, .int .i64 6, .int .i64 6, .int .i64 1, .int .i64 0, .int .i64 2, .int .i64 0, .int .i64 1] 70)) id)
  have R6 := Lib.hid (below_al2 R5.out (.cells #[.int .i64 0, .int .i64 0, .int .i64 0, .int .i64 3, .int .i64 3, .int .i64 0, .int .i64 1, .int .i64 0, .int .i64 0, .int .i64 2, .int .i64 0, .int .i64 0, .int .i64 1, .int .i64 2, .int .i64 4, .int .i64 1, .int .i64 0, .int .i64 1, .int .i64 6, .int .i64 6, .int .i64 1, .int .i64 0, .int .i64 2, .int .i64 0, .int .i64 1] 70))
  have t0 := T6.out.cell 0 rfl
  have t1 := T6.out.cell 1 rfl
  have z0 := T6.out.fr 0
  have z1 := T6.out.fr 1
  have PT := Lib.hid (T6.out.put2 (.int .i64 2) (.slice (some ⟨w5.heap.size, 0, none⟩) 5 5))
  have LT := Lib.hid (show w.heap.size ≠ w5.heap.size by have := T5.out.lt; omega)
  have NE := LT.out
  have LT5 := Lib.hid T5.out.lt
  clear T5
  go_wp2_with fail
  have pt := PT.out
  clear t0 t1 z0 z1
  generalize World.setCell _ _ _ = X at pt ⊢
  have h0 := pt.1.cell 0 (show _ = some (Value.int .i64 2) from rfl)
  have h1 := pt.1.cell 1 (show _ = some (Value.slice (some ⟨w5.heap.size, 0, none⟩) 5 5) from rfl)
  have hN : NightR w (.returned (.agg #[.int .i64 2, .slice (some ⟨w5.heap.size, 0, none⟩) 5 5])) X := by
    refine ⟨some ⟨w5.heap.size, 0, none⟩, 5, rfl, N5.out.alt pt.2 (fun g o e => by cases e; exact fun e => LT.out e.symm), fun g o e => ?_, ?_⟩
    · cases e
      have h9 := pt.2.size
      simp at h9
      omega
    · exact ((Alt.of_below (p := fun k => w.heap.size ≤ k) R6.out (fun k hk e => e)).trans (pt.2.mono fun k _ e => by omega)).below (Nat.le_refl _) fun _ e => e
  exact bodyPost_ret (v := .agg #[.int .i64 2, .slice (some ⟨w5.heap.size, 0, none⟩) 5 5]) (by simp [results, Try.results41, go_sem, h0, h1]) rfl hN

theorem v_chk0 (a : Option Addr) (c : Nat) : chkE (nightL a c) [] = 0 := by kernel_rfl
theorem v_chk1 (a : Option Addr) (c : Nat) : chkE (nightL a c) [1] = 0 := by kernel_rfl
theorem v_exp0 (a : Option Addr) (c : Nat) : explB (nightL a c) [] = false := by kernel_rfl
theorem v_exp1 (a : Option Addr) (c : Nat) : explB (nightL a c) [1] = true := by kernel_rfl
theorem v_gof1 (a : Option Addr) (c : Nat) : gofE (nightL a c) [1] = 0 := by kernel_rfl
theorem v_rng1 (a : Option Addr) (c : Nat) : rngsL (nightL a c) [1] = [(3, 3), (0, 2), (0, 1), (0, 1)] := by kernel_rfl
theorem v_cnt1 (a : Option Addr) (c : Nat) : cntL (gofL (nightL a c) [1]) = (17, 20) := by kernel_rfl
theorem v_many1 (a : Option Addr) (c : Nat) : manyN (nightL a c) [1] = 9 := by kernel_rfl
theorem v_fault (a : Option Addr) (c : Nat) : faultW (nightL a c) = 0 := by kernel_rfl
theorem v_least (a : Option Addr) (c : Nat) : leastL (nightL a c) = [1] := by kernel_rfl

end Go.Proofs.Ytbbndcfnpfedpaa

namespace Go.Proofs.Ytbbndcfnpfedpaa
open Go.RowKit Go.Shelf Go.Maps

attribute [local go_sem] Oper.semAt_some

set_option maxRecDepth 100000 in
set_option maxHeartbeats 16000000 in
theorem wakes_any (w : World) : Calls Try.prog 18 #[] w fun e w' => e = .returned (.bool true) ∧ Below w.heap.size w w' := by
  have NI := Lib.hid (fun W => night_any W)
  unfold NightR at NI
  have hn5 : nightW.length ≤ 1000 := by decide
  have C0 := Lib.hid (fun a c W (hL : WdsAt W a nightW) (hg : ∀ g o, a = some ⟨g, o, none⟩ → g < W.heap.size) => (by
    have := explains_any (nightL a c) [] none 0 W hL (fun i v h => by simp at h) hn5 (by simp) hg
    rw [v_exp0, v_chk0] at this
    exact this : Calls Try.prog 21 #[(nightL a c).val, .slice none 0 0] W fun e w' => e = .returned (.tuple #[.bool false, .int .i64 0]) ∧ Below W.heap.size W w'))
  have C1 := Lib.hid (fun a c g W (hL : WdsAt W a nightW) (hg : ∀ g o, a = some ⟨g, o, none⟩ → g < W.heap.size) (hX : IntsAt W (some ⟨g, 0, none⟩) [1]) => (by
    have := explains_any (nightL a c) [1] (some ⟨g, 0, none⟩) 1 W hL hX hn5 (by simp) hg
    rw [v_exp1, v_chk1] at this
    exact this : Calls Try.prog 21 #[(nightL a c).val, .slice (some ⟨g, 0, none⟩) 1 1] W fun e w' => e = .returned (.tuple #[.bool true, .int .i64 0]) ∧ Below W.heap.size W w'))
  have C2 := Lib.hid (fun a c g W (hL : WdsAt W a nightW) (hg : ∀ g o, a = some ⟨g, o, none⟩ → g < W.heap.size) (hX : IntsAt W (some ⟨g, 0, none⟩) [1]) => (by
    have := rangesP_any (nightL a c) [1] (some ⟨g, 0, none⟩) 1 W hL hX hn5 (by simp) hg
    unfold RngR at this
    rw [v_rng1, v_cnt1, v_gof1] at this
    exact this : Calls Try.prog 26 #[(nightL a c).val, .slice (some ⟨g, 0, none⟩) 1 1] W fun e w' => ∃ a c, e = .returned (.tuple #[.slice a 4 c, .agg #[.int .i64 17, .int .i64 20], .int .i64 0]) ∧ P2At w' a [(3, 3), (0, 2), (0, 1), (0, 1)] ∧ (∀ g o, a = some ⟨g, o, none⟩ → W.heap.size ≤ g ∧ g < w'.heap.size) ∧ Below W.heap.size W w'))
  have C3 := Lib.hid (fun a c g W (hL : WdsAt W a nightW) (hg : ∀ g o, a = some ⟨g, o, none⟩ → g < W.heap.size) (hX : IntsAt W (some ⟨g, 0, none⟩) [1]) => (by
    have := many_any (nightL a c) [1] (some ⟨g, 0, none⟩) 1 W hL hX hn5 (by simp) hg
    rw [v_many1, v_gof1] at this
    exact this : Calls Try.prog 30 #[(nightL a c).val, .slice (some ⟨g, 0, none⟩) 1 1] W fun e w' => e = .returned (.tuple #[.int .i64 9, .int .i64 0]) ∧ Below W.heap.size W w'))
  have C4 := Lib.hid (fun a c W (hL : WdsAt W a nightW) (hg : ∀ g o, a = some ⟨g, o, none⟩ → g < W.heap.size) => (by
    have := leastP_any (nightL a c) W hL hn5 hg
    unfold LeastR at this
    rw [v_least, v_fault] at this
    exact this : Calls Try.prog 32 #[(nightL a c).val] W fun e w' => ∃ a c, e = .returned (.tuple #[.slice a 1 c, .int .i64 0]) ∧ IntsAt w' a [1] ∧ (∀ g o, a = some ⟨g, o, none⟩ → W.heap.size ≤ g ∧ g < w'.heap.size) ∧ Below W.heap.size W w'))
  have hv : ∀ a c, (nightL a c).val = .agg #[.int .i64 2, .slice a 5 c] := fun a c => rfl
  simp only [hv] at NI C0 C1 C2 C3 C4
  clear hv hn5
  have I1 := Lib.hid (fun W => ints_newS W [1] 3)
  have IE := Lib.hid (fun a c g W (h1 : IntsAt W a [1]) (h2 : IntsAt W (some ⟨g, 0, none⟩) [1]) => (show Calls Try.prog 34 #[.slice a 1 c, .slice (some ⟨g, 0, none⟩) 1 1] W (fun e w' => e = .returned (.bool true) ∧ Hid (W.grownBy w' none)) from ints_any [1] [1] a (some ⟨g, 0, none⟩) c 1 W h1 h2 (by simp) (by simp)))
  have B0 := Lib.hid (Below.refl w.heap.size w)
  go_enter Try.func18, Try.ntmps18
  go_wp2_with fail
  refine (NI.out _).mono ?_
  rintro e w1 ⟨a1, c1, rfl, hN, hg, hb⟩
  have B1 := Lib.hid hb
  have X := Lib.hid (C0.out a1 c1 w1 hN hg)
  clear hN hg hb B0
  go_wp2_with fail
  refine X.out.mono ?_
  rintro e w2 ⟨rfl, hb⟩
  have B2 := Lib.hid (below_go B1.out hb)
  clear hb B1 X
  go_wp2_with fail
  refine (NI.out _).mono ?_
  rintro e w3 ⟨a3, c3, rfl, hN, hg, hb⟩
  have B3 := Lib.hid (below_go B2.out hb)
  have BA := Lib.hid (below_al w3 (.cells #[.int .i64 1] 3))
  have X := Lib.hid (C1.out a3 c3 w3.heap.size (w3.alloc (.cells #[.int .i64 1] 3)) (hN.lo BA.out) (fun g o e => Nat.lt_of_lt_of_le (hg g o e) BA.out.size) (I1.out w3))
  have B4 := Lib.hid (below_go B3.out BA.out)
  clear hN hg hb B2 BA B3
  go_wp2_with fail
  refine X.out.mono ?_
  rintro e w5 ⟨rfl, hb⟩
  have B5 := Lib.hid (below_go B4.out hb)
  clear hb B4 X
  go_wp2_with fail
  refine (NI.out _).mono ?_
  rintro e w6 ⟨a6, c6, rfl, hN, hg, hb⟩
  have B6 := Lib.hid (below_go B5.out hb)
  have BA := Lib.hid (below_al w6 (.cells #[.int .i64 1] 3))
  have X := Lib.hid (C2.out a6 c6 w6.heap.size (w6.alloc (.cells #[.int .i64 1] 3)) (hN.lo BA.out) (fun g o e => Nat.lt_of_lt_of_le (hg g o e) BA.out.size) (I1.out w6))
  have B7 := Lib.hid (below_go B6.out BA.out)
  clear hN hg hb B5 BA B6
  go_wp2_with fail
  refine X.out.mono ?_
  rintro e w8 ⟨ar, cr, rfl, hP, hg, hb⟩
  have B8 := Lib.hid (below_go B7.out hb)
  have BA := Lib.hid (below_al w8 (.cells #[.int .i64 17, .int .i64 20] 41))
  have P9 := Lib.hid (hP.lo BA.out)
  have K9 := Lib.hid (Blk.new w8 #[.int .i64 17, .int .i64 20] 41)
  have B9 := Lib.hid (below_go B8.out BA.out)
  clear hP hg hb B7 BA B8 X
  go_wp2_with fail
  generalize World.alloc w8 _ = w9 at P9 K9 B9 ⊢
  generalize w8.heap.size = b6 at K9 ⊢
  refine (NI.out _).mono ?_
  rintro e w10 ⟨a10, c10, rfl, hN, hg, hb⟩
  have B10 := Lib.hid (below_go B9.out hb)
  have BA := Lib.hid (below_al w10 (.cells #[.int .i64 1] 3))
  have X := Lib.hid (C3.out a10 c10 w10.heap.size (w10.alloc (.cells #[.int .i64 1] 3)) (hN.lo BA.out) (fun g o e => Nat.lt_of_lt_of_le (hg g o e) BA.out.size) (I1.out w10))
  have B11 := Lib.hid (below_go B10.out BA.out)
  have P11 := Lib.hid ((P9.out.lo hb).lo BA.out)
  have K11 := Lib.hid (Blk.alt (p := fun _ => False) K9.out (Alt.of_below (below_go hb BA.out) (fun k hk e => by omega)) id)
  clear hN hg hb B9 BA B10 P9 K9
  go_wp2_with fail
  refine X.out.mono ?_
  rintro e w12 ⟨rfl, hb⟩
  have B12 := Lib.hid (below_go B11.out hb)
  have P12 := Lib.hid (P11.out.lo hb)
  have K12 := Lib.hid (Blk.alt (p := fun _ => False) K11.out (Alt.of_below hb (fun k hk e => by omega)) id)
  clear hb B11 P11 K11 X
  go_wp2_with fail
  refine (NI.out _).mono ?_
  rintro e w13 ⟨a13, c13, rfl, hN, hg, hb⟩
  have B13 := Lib.hid (below_go B12.out hb)
  have X := Lib.hid (C4.out a13 c13 w13 hN hg)
  have P13 := Lib.hid (P12.out.lo hb)
  have K13 := Lib.hid (Blk.alt (p := fun _ => False) K12.out (Alt.of_below hb (fun k hk e => by omega)) id)
  clear hN hg hb B12 P12 K12
  go_wp2_with fail
  refine X.out.mono ?_
  rintro e w14 ⟨al, cl, rfl, hI, hg, hb⟩
  have B14 := Lib.hid (below_go B13.out hb)
  have P14 := P13.out.lo hb
  have K14 := Blk.alt (p := fun _ => False) K13.out (Alt.of_below hb (fun k hk e => by omega)) id
  have BA := Lib.hid (below_al w14 (.cells #[.int .i64 1] 3))
  have X2 := Lib.hid (IE.out al cl w14.heap.size (w14.alloc (.cells #[.int .i64 1] 3)) (hI.lo BA.out) (I1.out w14))
  have B15 := Lib.hid (below_go B14.out BA.out)
  obtain ⟨gr, or, rfl, p0, p1⟩ := P14 0 (3, 3) rfl
  obtain ⟨gr1, or1, e1, p2, p3⟩ := P14 1 (0, 2) rfl
  cases e1
  obtain ⟨gr2, or2, e2, p4, p5⟩ := P14 2 (0, 1) rfl
  cases e2
  obtain ⟨gr3, or3, e3, p6, p7⟩ := P14 3 (0, 1) rfl
  cases e3
  simp only [Nat.zero_mul, Nat.add_zero, Nat.one_mul, Nat.reduceMul] at p0 p1 p2 p3 p4 p5 p6 p7
  have k0 := K14.cell 0 (show _ = some (Value.int .i64 17) from rfl)
  have k1 := K14.cell 1 (show _ = some (Value.int .i64 20) from rfl)
  clear hI hg hb B13 P13 K13 X P14 K14 BA B14 NI C0 C1 C2 C3 C4 I1 IE
  go_wp2_with fail
  refine X2.out.mono ?_
  rintro e w16 ⟨rfl, hgr⟩
  have B16 := Lib.hid (below_go B15.out (ints_lo hgr.out))
  clear k0 k1 p0 p1 p2 p3 p4 p5 p6 p7 X2 hgr B15
  go_wp2_with fail
  refine bodyPost_ret (results_tmp rfl _ _ _) rfl ⟨rfl, B16.out⟩

end Go.Proofs.Ytbbndcfnpfedpaa

namespace Go.Proofs.Ytbbndcfnpfedpaa
open Go.RowKit Go.Shelf

attribute [local go_sem] Oper.semAt_some

set_option maxHeartbeats 2000000 in
theorem thin_any (l : Lan) (a : Option Addr) (n c : Nat) (w : World) : Calls Try.prog 17 #[l.val, .slice a n c] w fun e w' => e = .returned (.bool (decide (l.ws.length ≤ 35) && decide (n ≤ 8))) ∧ Below w.heap.size w w' := by
  have B0 := Lib.hid (below_al w (.cells #[.int .i64 l.fs, .slice l.wa l.ws.length l.wc] 24))
  unfold Lan.val
  by_cases h : l.ws.length ≤ 35
  · have hz : (l.ws.length : Int) ≤ 35 := by omega
    have HT := Lib.hid (show (decide (l.ws.length ≤ 35) && decide (n ≤ 8)) = decide (n ≤ 8) by simp [h])
    rw [HT.out]
    clear h
    by_cases h8 : n ≤ 8
    · have hz8 : (n : Int) ≤ 8 := by omega
      have HE := Lib.hid (show decide (n ≤ 8) = true by simp [h8])
      rw [HE.out]
      clear h8
      go_enter Try.func17, Try.ntmps17
      go_wp2_with fail
      go_returns
      exact ⟨rfl, B0.out⟩
    · have hz8 : ¬ (n : Int) ≤ 8 := by omega
      have HE := Lib.hid (show decide (n ≤ 8) = false by simp [h8])
      rw [HE.out]
      clear h8
      go_enter Try.func17, Try.ntmps17
      go_wp2_with fail
      go_returns
      exact ⟨rfl, B0.out⟩
  · have hz : ¬ (l.ws.length : Int) ≤ 35 := by omega
    have HT := Lib.hid (show (decide (l.ws.length ≤ 35) && decide (n ≤ 8)) = false by simp [h])
    rw [HT.out]
    clear h
    go_enter Try.func17, Try.ntmps17
    go_wp2_with fail
    go_returns
    exact ⟨rfl, B0.out⟩

theorem fault_len {l : Lan} (h : faultW l = 0) : l.ws.length ≤ 30 := (fault0 h).2.1

set_option maxHeartbeats 4000000 in
theorem ready_any (l : Lan) (w : World) (hL : WdsAt w l.wa l.ws) : Calls Try.prog 43 #[l.val] w fun e w' => e = .returned (.bool (decide (faultW l = 0))) ∧ Below w.heap.size w w' := by
  have TH := Lib.hid (fun W => thin_any l none 0 0 W)
  have RF := Lib.hid (fun (hn : l.ws.length ≤ 35) W (hb : Below w.heap.size w W) => refFault_any l W (hL.lo hb) (by omega))
  have B0 := Lib.hid (below_al w (.cells #[.int .i64 l.fs, .slice l.wa l.ws.length l.wc] 24))
  have K0 := Lib.hid (Blk.new w #[.int .i64 l.fs, .slice l.wa l.ws.length l.wc] 24)
  obtain ⟨R, hR⟩ : ∃ R, Hid (R = decide (faultW l = 0)) := ⟨_, Lib.hid rfl⟩
  rw [← hR.out]
  by_cases h : l.ws.length ≤ 35
  · have HT := Lib.hid (show (decide (l.ws.length ≤ 35) && decide (0 ≤ 8)) = true by simp [h])
    have RF2 := Lib.hid (RF.out h)
    rw [HT.out] at TH
    unfold Lan.val at *
    clear hL h RF
    generalize faultW l = F at *
    go_enter Try.func43, Try.ntmps43
    go_wp2_with fail
    generalize w.alloc _ = W0 at K0 B0 ⊢
    refine (TH.out _).mono ?_
    rintro e w1 ⟨rfl, hb⟩
    have B1 := Lib.hid (below_go B0.out hb)
    have K1 := Lib.hid (Blk.alt (p := fun _ => False) K0.out (Alt.of_below hb (fun k hk e => by omega)) id)
    have k0 := K1.out.cell 0 (show _ = some (Value.int .i64 l.fs) from rfl)
    have k1 := K1.out.cell 1 (show _ = some (Value.slice l.wa l.ws.length l.wc) from rfl)
    clear hb B0 K0 TH
    go_wp2_with fail
    refine (RF2.out _ B1.out).mono ?_
    rintro e w2 ⟨rfl, hb⟩
    have B2 := Lib.hid (below_go B1.out hb)
    clear hb k0 k1
    by_cases hF : F = 0
    · subst hF
      have HR : Hid (R = true) := Lib.hid (by rw [hR.out]; rfl)
      go_wp2_with fail
      go_returns
      exact ⟨by rw [HR.out]; first | done | rfl, B2.out⟩
    · have hF2 : (F == 0) = false := by simpa using hF
      have HR : Hid (R = false) := Lib.hid (by rw [hR.out]; simp [hF])
      go_wp2_with fail
      go_returns
      exact ⟨by rw [HR.out]; first | done | rfl, B2.out⟩
  · have HT := Lib.hid (show (decide (l.ws.length ≤ 35) && decide (0 ≤ 8)) = false by simp [h])
    have HR : Hid (R = false) := Lib.hid (by rw [hR.out]; simp; intro e; have := fault_len e; omega)
    rw [HT.out] at TH
    unfold Lan.val at *
    clear hL h RF
    go_enter Try.func43, Try.ntmps43
    go_wp2_with fail
    refine (TH.out _).mono ?_
    rintro e w1 ⟨rfl, hb⟩
    have B1 := Lib.hid (below_go B0.out hb)
    clear hb B0 K0 TH
    go_wp2_with fail
    go_returns
    exact ⟨by rw [HR.out]; first | done | rfl, B1.out⟩

end Go.Proofs.Ytbbndcfnpfedpaa

namespace Go.Proofs.Ytbbndcfnpfedpaa
open Go.RowKit Go.Shelf

attribute [local go_sem] Oper.semAt_some

/-- .. that is nil only if it is empty. -/
def RetJ (xs : List Int) (w : World) (e : Ending) (w' : World) : Prop := ∃ a c, e = .returned (.slice a xs.length c) ∧ IntsAt w' a xs ∧ (∀ g o, a = some ⟨g, o, none⟩ → w.heap.size ≤ g ∧ g < w'.heap.size) ∧ (a = none → xs = [] ∧ c = 0) ∧ Below w.heap.size w w'

def bitB (u : Int) (k : Nat) : Bool := decide (u / (2 : Int) ^ k % 2 = 1)
def chosenTo (u : Int) (i : Nat) : List Int := ((List.range i).filter (bitB u)).map fun (k : Nat) => (k : Int)
def chosenL (u : Int) : List Int := chosenTo u 4
theorem chosenTo_len (u : Int) (i : Nat) : (chosenTo u i).length ≤ i := by
  unfold chosenTo
  rw [List.length_map]
  exact Nat.le_trans (List.length_filter_le _ _) (by simp)
theorem chosenTo_yes {u : Int} {i : Nat} (h : bitB u i = true) : chosenTo u (i + 1) = chosenTo u i ++ [(i : Int)] := by
  unfold chosenTo; rw [List.range_succ, List.filter_append, List.map_append]; simp [List.filter, h]
theorem chosenTo_no {u : Int} {i : Nat} (h : bitB u i = false) : chosenTo u (i + 1) = chosenTo u i := by
  unfold chosenTo; rw [List.range_succ, List.filter_append, List.map_append]; simp [List.filter, h]

set_option maxRecDepth 100000 in
set_option maxHeartbeats 8000000 in
theorem chosen_any (u : Int) (w : World) (h0 : 0 ≤ u) (h1 : u < 256) : Calls Try.prog 46 #[.int .u8 u] w (RetJ (chosenL u) w) := by
  obtain ⟨i0, hi0, hy0, hy1, hy2⟩ := info_parts info3
  have O0 := Lib.hid (show w.ownsRow w.heap.size 3 1 (.slice none 0 0) (chosenTo u 0).length ((chosenTo u 0).map (Value.int .i64)) from ⟨rfl, .inl ⟨rfl, rfl⟩⟩)
  have B0 := Lib.hid (Below.refl w.heap.size w)
  unfold RetJ
  go_enter Try.func46, Try.ntmps46
  go_wp2_with fail
  go_loopg [3, 4] 4 (fun g s3 s4 wx => ∃ (i : Nat) (v : Value), i ≤ 4 ∧ g = 4 - i ∧ s4 = .int .i64 (i : Int) ∧ v = s3 ∧ Hid (wx.ownsRow w.heap.size 3 1 v (chosenTo u i).length ((chosenTo u i).map (Value.int .i64))) ∧ Hid (Below w.heap.size w wx))
  case atStart => exact ⟨0, _, by omega, by omega, rfl, rfl, O0, B0⟩
  case round =>
    obtain ⟨i, v, hi, rfl, rfl, rfl, hO, hB⟩ := hrel
    clear O0 B0
    obtain rfl | rfl | rfl | rfl | rfl : i = 0 ∨ i = 1 ∨ i = 2 ∨ i = 3 ∨ i = 4 := by omega
    · have hbit : bitB u 0 = decide (u / 1 % 2 = 1) := by unfold bitB; rfl
      have HY := Lib.hid (@chosenTo_yes u 0)
      have HX := Lib.hid (@chosenTo_no u 0)
      have HL4 := Lib.hid (chosenTo_len u 0)
      have HZ := Lib.hid hB.out.size
      by_cases hb : u / 1 % 2 = 1
      · have HE := Lib.hid (HY.out (by rw [hbit]; exact decide_eq_true hb))
        have HE2 := Lib.hid (show (chosenTo u (0 + 1)).length = (chosenTo u 0).length + 1 by rw [HE.out]; simp)
        have HE3 := Lib.hid (show (chosenTo u (0 + 1)).map (Value.int .i64) = (chosenTo u 0).map (Value.int .i64) ++ [.int .i64 0] by rw [HE.out]; simp)
        generalize chosenTo u 0 = xs at *
        have AB := Lib.hid (fun w1 (hg : (wr.alloc (.cells #[.int .i64 0] 3)).grownBy w1 v.ownBlock) => ((Alt.of_below (p := fun k => w.heap.size ≤ k) hB.out (fun k hk e => e)).trans (((Alt.refl (fun k => w.heap.size ≤ k) wr).alloc (.cells #[.int .i64 0] 3)).grown hg (fun k e => own_base hO.out e))).below (Nat.le_refl _) fun _ e => e)
        clear hbit HY HX HE
        go_wp2_with (at_builtin; go_must (refine wpList_append_own_at _ rfl _ _ 25 rfl w.heap.size 3 i0 _ 1 8 Try.underlying25 hi0 hy0 hy1 hy2 rfl (by decide) v xs.length (xs.map (Value.int .i64)) rfl (hO.out.alloc _) ⟨wr.heap.size, 0, none⟩ 1 1 [.int .i64 0] rfl (by rfl) (cell_one_new _ _ _) (by simp [Value.oneCell']) (by unfold maxLen; have := HL4.out; omega) (by have := HL4.out; omega) (by have := HZ.out; simp; omega) ?_); intro v' w1 hown' hgrow hnil hloc; have N1 := Lib.hid hown'; have NB := Lib.hid (AB.out w1 hgrow); clear hown' hgrow hnil hloc)
        rw [← HE2.out, ← HE3.out] at N1
        clear hO hB AB
        go_roundg (4 - (0 + 1))
        case measure => omega
        case rel => exact ⟨0 + 1, _, by omega, rfl, by simp, rfl, N1, NB⟩
      · have HE := Lib.hid (HX.out (by rw [hbit]; exact decide_eq_false hb))
        clear hbit HY HX
        go_wp2_with fail
        go_roundg (4 - (0 + 1))
        case measure => omega
        case rel => exact ⟨0 + 1, _, by omega, rfl, by simp, rfl, by rw [HE.out]; exact hO, hB⟩
    · have hbit : bitB u 1 = decide (u / 2 % 2 = 1) := by unfold bitB; rfl
      have HY := Lib.hid (@chosenTo_yes u 1)
      have HX := Lib.hid (@chosenTo_no u 1)
      have HL4 := Lib.hid (chosenTo_len u 1)
      have HZ := Lib.hid hB.out.size
      by_cases hb : u / 2 % 2 = 1
      · have HE := Lib.hid (HY.out (by rw [hbit]; exact decide_eq_true hb))
        have HE2 := Lib.hid (show (chosenTo u (1 + 1)).length = (chosenTo u 1).length + 1 by rw [HE.out]; simp)
        have HE3 := Lib.hid (show (chosenTo u (1 + 1)).map (Value.int .i64) = (chosenTo u 1).map (Value.int .i64) ++ [.int .i64 1] by rw [HE.out]; simp)
        generalize chosenTo u 1 = xs at *
        have AB := Lib.hid (fun w1 (hg : (wr.alloc (.cells #[.int .i64 1] 3)).grownBy w1 v.ownBlock) => ((Alt.of_below (p := fun k => w.heap.size ≤ k) hB.out (fun k hk e => e)).trans (((Alt.refl (fun k => w.heap.size ≤ k) wr).alloc (.cells #[.int .i64 1] 3)).grown hg (fun k e => own_base hO.out e))).below (Nat.le_refl _) fun _ e => e)
        clear hbit HY HX HE
        go_wp2_with (at_builtin; go_must (refine wpList_append_own_at _ rfl _ _ 25 rfl w.heap.size 3 i0 _ 1 8 Try.underlying25 hi0 hy0 hy1 hy2 rfl (by decide) v xs.length (xs.map (Value.int .i64)) rfl (hO.out.alloc _) ⟨wr.heap.size, 0, none⟩ 1 1 [.int .i64 1] rfl (by rfl) (cell_one_new _ _ _) (by simp [Value.oneCell']) (by unfold maxLen; have := HL4.out; omega) (by have := HL4.out; omega) (by have := HZ.out; simp; omega) ?_); intro v' w1 hown' hgrow hnil hloc; have N1 := Lib.hid hown'; have NB := Lib.hid (AB.out w1 hgrow); clear hown' hgrow hnil hloc)
        rw [← HE2.out, ← HE3.out] at N1
        clear hO hB AB
        go_roundg (4 - (1 + 1))
        case measure => omega
        case rel => exact ⟨1 + 1, _, by omega, rfl, by simp, rfl, N1, NB⟩
      · have HE := Lib.hid (HX.out (by rw [hbit]; exact decide_eq_false hb))
        clear hbit HY HX
        go_wp2_with fail
        go_roundg (4 - (1 + 1))
        case measure => omega
        case rel => exact ⟨1 + 1, _, by omega, rfl, by simp, rfl, by rw [HE.out]; exact hO, hB⟩
    · have hbit : bitB u 2 = decide (u / 4 % 2 = 1) := by unfold bitB; rfl
      have HY := Lib.hid (@chosenTo_yes u 2)
      have HX := Lib.hid (@chosenTo_no u 2)
      have HL4 := Lib.hid (chosenTo_len u 2)
      have HZ := Lib.hid hB.out.size
      by_cases hb : u / 4 % 2 = 1
      · have HE := Lib.hid (HY.out (by rw [hbit]; exact decide_eq_true hb))
        have HE2 := Lib.hid (show (chosenTo u (2 + 1)).length = (chosenTo u 2).length + 1 by rw [HE.out]; simp)
        have HE3 := Lib.hid (show (chosenTo u (2 + 1)).map (Value.int .i64) = (chosenTo u 2).map (Value.int .i64) ++ [.int .i64 2] by rw [HE.out]; simp)
        generalize chosenTo u 2 = xs at *
        have AB := Lib.hid (fun w1 (hg : (wr.alloc (.cells #[.int .i64 2] 3)).grownBy w1 v.ownBlock) => ((Alt.of_below (p := fun k => w.heap.size ≤ k) hB.out (fun k hk e => e)).trans (((Alt.refl (fun k => w.heap.size ≤ k) wr).alloc (.cells #[.int .i64 2] 3)).grown hg (fun k e => own_base hO.out e))).below (Nat.le_refl _) fun _ e => e)
        clear hbit HY HX HE
        go_wp2_with (at_builtin; go_must (refine wpList_append_own_at _ rfl _ _ 25 rfl w.heap.size 3 i0 _ 1 8 Try.underlying25 hi0 hy0 hy1 hy2 rfl (by decide) v xs.length (xs.map (Value.int .i64)) rfl (hO.out.alloc _) ⟨wr.heap.size, 0, none⟩ 1 1 [.int .i64 2] rfl (by rfl) (cell_one_new _ _ _) (by simp [Value.oneCell']) (by unfold maxLen; have := HL4.out; omega) (by have := HL4.out; omega) (by have := HZ.out; simp; omega) ?_); intro v' w1 hown' hgrow hnil hloc; have N1 := Lib.hid hown'; have NB := Lib.hid (AB.out w1 hgrow); clear hown' hgrow hnil hloc)
        rw [← HE2.out, ← HE3.out] at N1
        clear hO hB AB
        go_roundg (4 - (2 + 1))
        case measure => omega
        case rel => exact ⟨2 + 1, _, by omega, rfl, by simp, rfl, N1, NB⟩
      · have HE := Lib.hid (HX.out (by rw [hbit]; exact decide_eq_false hb))
        clear hbit HY HX
        go_wp2_with fail
        go_roundg (4 - (2 + 1))
        case measure => omega
        case rel => exact ⟨2 + 1, _, by omega, rfl, by simp, rfl, by rw [HE.out]; exact hO, hB⟩
    · have hbit : bitB u 3 = decide (u / 8 % 2 = 1) := by unfold bitB; rfl
      have HY := Lib.hid (@chosenTo_yes u 3)
      have HX := Lib.hid (@chosenTo_no u 3)
      have HL4 := Lib.hid (chosenTo_len u 3)
      have HZ := Lib.hid hB.out.size
      by_cases hb : u / 8 % 2 = 1
      · have HE := Lib.hid (HY.out (by rw [hbit]; exact decide_eq_true hb))
        have HE2 := Lib.hid (show (chosenTo u (3 + 1)).length = (chosenTo u 3).length + 1 by rw [HE.out]; simp)
        have HE3 := Lib.hid (show (chosenTo u (3 + 1)).map (Value.int .i64) = (chosenTo u 3).map (Value.int .i64) ++ [.int .i64 3] by rw [HE.out]; simp)
        generalize chosenTo u 3 = xs at *
        have AB := Lib.hid (fun w1 (hg : (wr.alloc (.cells #[.int .i64 3] 3)).grownBy w1 v.ownBlock) => ((Alt.of_below (p := fun k => w.heap.size ≤ k) hB.out (fun k hk e => e)).trans (((Alt.refl (fun k => w.heap.size ≤ k) wr).alloc (.cells #[.int .i64 3] 3)).grown hg (fun k e => own_base hO.out e))).below (Nat.le_refl _) fun _ e => e)
        clear hbit HY HX HE
        go_wp2_with (at_builtin; go_must (refine wpList_append_own_at _ rfl _ _ 25 rfl w.heap.size 3 i0 _ 1 8 Try.underlying25 hi0 hy0 hy1 hy2 rfl (by decide) v xs.length (xs.map (Value.int .i64)) rfl (hO.out.alloc _) ⟨wr.heap.size, 0, none⟩ 1 1 [.int .i64 3] rfl (by rfl) (cell_one_new _ _ _) (by simp [Value.oneCell']) (by unfold maxLen; have := HL4.out; omega) (by have := HL4.out; omega) (by have := HZ.out; simp; omega) ?_); intro v' w1 hown' hgrow hnil hloc; have N1 := Lib.hid hown'; have NB := Lib.hid (AB.out w1 hgrow); clear hown' hgrow hnil hloc)
        rw [← HE2.out, ← HE3.out] at N1
        clear hO hB AB
        go_roundg (4 - (3 + 1))
        case measure => omega
        case rel => exact ⟨3 + 1, _, by omega, rfl, by simp, rfl, N1, NB⟩
      · have HE := Lib.hid (HX.out (by rw [hbit]; exact decide_eq_false hb))
        clear hbit HY HX
        go_wp2_with fail
        go_roundg (4 - (3 + 1))
        case measure => omega
        case rel => exact ⟨3 + 1, _, by omega, rfl, by simp, rfl, by rw [HE.out]; exact hO, hB⟩
    · obtain ⟨a, c, rfl⟩ := own_len hO.out
      have HI := Lib.hid (own_intsAt hO.out).1
      have HBB := Lib.hid (show ∀ g o, a = some ⟨g, o, none⟩ → w.heap.size ≤ g ∧ g < wr.heap.size from fun g o e => by
        have := hO.out.lt g (by rw [e]; rfl)
        omega)
      have HNL := Lib.hid (show a = none → chosenTo u 4 = [] ∧ c = 0 from fun e => by
        subst e
        rcases hO.out.2 with ⟨e1, e2⟩ | ⟨g, cap, cur, e1, _⟩
        · simp only [Value.slice.injEq] at e1
          exact ⟨List.eq_nil_of_length_eq_zero e2, e1.2.2⟩
        · cases e1)
      clear hO
      go_wp2_with fail
      go_returns
      first
      | exact ⟨a, c, rfl, HI.out, HBB.out, HNL.out, hB.out⟩
      | exact ⟨a, ⟨c, rfl⟩, HI.out, HBB.out, HNL.out, hB.out⟩

theorem chosenL_in {u : Int} {t : Int} (h : t ∈ chosenL u) : 0 ≤ t ∧ t ≤ 3 := by
  unfold chosenL chosenTo at h
  obtain ⟨k, hk, rfl⟩ := List.mem_map.1 h
  have := List.mem_range.1 (List.mem_filter.1 hk).1
  omega
theorem chosenL_rise (u : Int) : riseIn 0 3 (chosenL u) = true := by
  refine riseIn_step ?_ fun x hx => inB_iff.2 (chosenL_in hx)
  unfold chosenL chosenTo
  rw [List.pairwise_map]
  refine (List.Pairwise.filter _ (List.pairwise_lt_range)).imp fun {a b} h => by omega
theorem chosenL_len (u : Int) : (chosenL u).length ≤ 4 := chosenTo_len u 4

end Go.Proofs.Ytbbndcfnpfedpaa

namespace Go.Proofs.Ytbbndcfnpfedpaa
open Go.RowKit Go.Shelf

theorem spanF_spec : ∀ (ns : List Int) (r : Int × Int), r.1 ≤ r.2 → (((ns.foldl spanStep r).1 = r.1 ∨ (ns.foldl spanStep r).1 ∈ ns) ∧ ((ns.foldl spanStep r).2 = r.2 ∨ (ns.foldl spanStep r).2 ∈ ns)) ∧ ((ns.foldl spanStep r).1 ≤ r.1 ∧ r.2 ≤ (ns.foldl spanStep r).2) ∧ ∀ n ∈ ns, (ns.foldl spanStep r).1 ≤ n ∧ n ≤ (ns.foldl spanStep r).2
  | [], r, h => ⟨⟨.inl rfl, .inl rfl⟩, ⟨Int.le_refl _, Int.le_refl _⟩, fun n hn => by cases hn⟩
  | x :: ns, r, h => by
    obtain ⟨⟨h1, h2⟩, ⟨h3, h4⟩, h5⟩ := spanF_spec ns (spanStep r x) (by unfold spanStep; simp only; omega)
    rw [List.foldl_cons]
    have e1 : (spanStep r x).1 = min r.1 x := rfl
    have e2 : (spanStep r x).2 = max r.2 x := rfl
    rw [e1] at h1 h3
    rw [e2] at h2 h4
    refine ⟨⟨?_, ?_⟩, ⟨by omega, by omega⟩, fun n hn => ?_⟩
    · rcases h1 with h1 | h1
      · by_cases hx : r.1 ≤ x
        · exact .inl (by omega)
        · exact .inr (by simp; left; omega)
      · exact .inr (by simp [h1])
    · rcases h2 with h2 | h2
      · by_cases hx : x ≤ r.2
        · exact .inl (by omega)
        · exact .inr (by simp; left; omega)
      · exact .inr (by simp [h2])
    · rcases List.mem_cons.1 hn with rfl | hn
      · exact ⟨by omega, by omega⟩
      · exact h5 n hn
theorem spanL_spec {ns : List Int} (h : ns ≠ []) : (spanL ns).1 ∈ ns ∧ (spanL ns).2 ∈ ns ∧ ∀ n ∈ ns, (spanL ns).1 ≤ n ∧ n ≤ (spanL ns).2 := by
  cases ns with
  | nil => exact absurd rfl h
  | cons x ns =>
    obtain ⟨⟨h1, h2⟩, ⟨h3, h4⟩, h5⟩ := spanF_spec ns (x, x) (Int.le_refl _)
    show (ns.foldl spanStep (x, x)).1 ∈ x :: ns ∧ _
    refine ⟨?_, ?_, fun n hn => ?_⟩
    · rcases h1 with h1 | h1
      · rw [h1]; simp
      · simp [h1]
    · show (ns.foldl spanStep (x, x)).2 ∈ x :: ns
      rcases h2 with h2 | h2
      · rw [h2]; simp
      · simp [h2]
    · show (ns.foldl spanStep (x, x)).1 ≤ n ∧ n ≤ (ns.foldl spanStep (x, x)).2
      rcases List.mem_cons.1 hn with rfl | hn
      · exact ⟨h3, h4⟩
      · exact h5 n hn
theorem spanL_eq {ns : List Int} (h : ns ≠ []) {a b : Int} (ha : a ∈ ns) (hb : b ∈ ns) (h2 : ∀ n ∈ ns, a ≤ n ∧ n ≤ b) : spanL ns = (a, b) := by
  obtain ⟨h3, h4, h5⟩ := spanL_spec h
  have e1 : (spanL ns).1 = a := by have := (h2 _ h3).1; have := (h5 _ ha).1; omega
  have e2 : (spanL ns).2 = b := by have := (h2 _ h4).2; have := (h5 _ hb).2; omega
  exact Prod.ext e1 e2

theorem flat_two {β : Type} (F : Nat → List β) (h2 : ∀ k, (F k).length = 2) : ∀ (n f : Nat), f < n → ((List.range n).flatMap F)[2 * f]? = (F f)[0]? ∧ ((List.range n).flatMap F)[2 * f + 1]? = (F f)[1]?
  | 0, f, h => by omega
  | n + 1, f, h => by
    have hl : ((List.range n).flatMap F).length = 2 * n := by
      have key : ∀ n, ((List.range n).flatMap F).length = 2 * n := fun n => by
        induction n with
        | zero => rfl
        | succ n ih => rw [flat_take, List.length_append, ih, h2]; omega
      exact key n
    rw [flat_take]
    by_cases hf : f < n
    · have := flat_two F h2 n f hf
      rw [List.getElem?_append_left (by omega), List.getElem?_append_left (by omega)]
      exact this
    · have e : f = n := by omega
      subst e
      rw [List.getElem?_append_right (by omega), List.getElem?_append_right (by omega), hl]
      refine ⟨by congr 1; omega, by congr 1; omega⟩

/-- The ranges of the places of a frame. -/
theorem rngs_at {l : Lan} {ts : List Int} (h : gofE l ts = 0) {f : Nat} (hf : (f : Int) < l.fs) :
    (rngsL l ts)[2 * f]? = some (spanL ((gamesL l.ws (offS ts) f).map fun p => p.1)) ∧ (rngsL l ts)[2 * f + 1]? = some (spanL ((gamesL l.ws (offS ts) f).map fun p => p.2)) := by
  unfold rngsL rngL
  rw [List.getElem?_map, List.getElem?_map, gofL_ok h]
  have hl : (frmL l (offS ts)).length = l.fs.toNat := by unfold frmL; simp
  obtain ⟨h1, h2⟩ := flat_two (rngF (frmL l (offS ts))) (fun k => rfl) (frmL l (offS ts)).length f (by omega)
  have hg : (frmL l (offS ts)).getD f [] = gamesL l.ws (offS ts) f := by
    unfold frmL
    rw [List.getD_eq_getElem?_getD, List.getElem?_map, List.getElem?_range (by omega)]; rfl
  rw [h1, h2]
  unfold rngF
  rw [hg]
  exact ⟨rfl, rfl⟩
theorem rngsL_len {l : Lan} {ts : List Int} (h : gofE l ts = 0) : (rngsL l ts).length = 2 * l.fs.toNat := by
  unfold rngsL
  rw [List.length_map, rngL_len, gofL_ok h]
  unfold frmL; simp
theorem rngsL_no {l : Lan} {ts : List Int} (h : gofE l ts ≠ 0) : rngsL l ts = [] := by
  unfold rngsL; rw [gofL_no h]; rfl
theorem games_ne {l : Lan} {ts : List Int} (h : gofE l ts = 0) {f : Nat} (hf : (f : Int) < l.fs) : gamesL l.ws (offS ts) f ≠ [] := by
  have h1 := (gofE_zero h).2
  unfold possB at h1
  have := List.all_eq_true.1 h1 f (List.mem_range.2 (by omega))
  unfold someB at this
  intro e
  rw [e] at this
  simp at this

def toldF (ws : List Wd) (f : Int) : Bool := ws.any fun x => x.fr == f && x.ba == 1

theorem behind_math {ws : List Wd} {s : Int → Bool} {f : Int} (hne : gamesL ws s f ≠ []) :
    (spanL ((gamesL ws s f).map fun p => p.2)).1 ≤ (spanL ((gamesL ws s f).map fun p => p.1)).1 ∧ (spanL ((gamesL ws s f).map fun p => p.2)).2 ≤ (spanL ((gamesL ws s f).map fun p => p.1)).2 ∧ (toldF ws f = false → (spanL ((gamesL ws s f).map fun p => p.2)).1 = 0) := by
  have n1 : (gamesL ws s f).map (fun p => p.1) ≠ [] := by simpa using hne
  have n2 : (gamesL ws s f).map (fun p => p.2) ≠ [] := by simpa using hne
  obtain ⟨a1, a2, a3⟩ := spanL_spec n1
  obtain ⟨b1, b2, b3⟩ := spanL_spec n2
  refine ⟨?_, ?_, fun ht => ?_⟩
  · obtain ⟨p, hp, e⟩ := List.mem_map.1 a1
    have h1 := (b3 p.2 (List.mem_map.2 ⟨p, hp, rfl⟩)).1
    have h2 := (rolls_in (games_in hp).1).2.2.2
    try simp only at e
    omega
  · obtain ⟨p, hp, e⟩ := List.mem_map.1 b2
    have h1 := (a3 p.1 (List.mem_map.2 ⟨p, hp, rfl⟩)).2
    have h2 := (rolls_in (games_in hp).1).2.2.2
    try simp only at e
    omega
  · obtain ⟨p, hp, e⟩ := List.mem_map.1 b1
    obtain ⟨hr, hf⟩ := games_in hp
    have h0 := rolls_in hr
    have hmem : (p.1, (0 : Int)) ∈ gamesL ws s f := by
      unfold gamesL
      refine List.mem_filter.2 ⟨?_, ?_⟩
      · obtain ⟨a, ha⟩ : ∃ a : Nat, p.1 = (a : Int) := ⟨p.1.toNat, by omega⟩
        unfold rolls
        refine List.mem_flatMap.2 ⟨a, List.mem_range.2 (by omega), ?_⟩
        unfold rollsF
        exact List.mem_map.2 ⟨0, List.mem_range.2 (by omega), by rw [ha]; rfl⟩
      · unfold fitsB at hf ⊢
        simp only [Bool.and_eq_true] at hf ⊢
        refine ⟨hf.1, List.all_eq_true.2 fun x hx => ?_⟩
        unfold okW toldB
        have := (List.any_eq_false.1 ht) x hx
        rw [show (x.fr == f && x.ba == 1) = false by simpa using this]
        rfl
    have h1 := (b3 0 (List.mem_map.2 ⟨_, hmem, rfl⟩)).1
    try simp only at e
    omega

end Go.Proofs.Ytbbndcfnpfedpaa

namespace Go.Proofs.Ytbbndcfnpfedpaa
open Go.RowKit Go.Shelf Go.Maps

attribute [local go_sem] Oper.semAt_some

/-- What holds of a world behind the argument's box. -/
structure BX (l : Lan) (w W : World) : Prop where
  b : Blk W w.heap.size #[.int .i64 l.fs, .slice l.wa l.ws.length l.wc] 24
  bl : Below w.heap.size w W
theorem BX.lo {l : Lan} {w W W' : World} (h : BX l w W) (hb : Below W.heap.size W W') : BX l w W' :=
  ⟨Blk.alt (p := fun _ => False) h.b (Alt.of_below hb (fun k hk e => by omega)) id, below_go h.bl hb⟩
theorem BX.dr {l : Lan} {w W : World} (h : BX l w W) : BX l w W.drew := ⟨Blk.alt (p := fun _ => False) h.b (Alt.refl _ _).drew id, h.bl.drew⟩
theorem BX.mk' (l : Lan) (w : World) : BX l w (w.alloc (.cells #[.int .i64 l.fs, .slice l.wa l.ws.length l.wc] 24)) := ⟨Blk.new _ _ _, below_al _ _⟩

theorem same_rngs (l : Lan) (a : Option Addr) (c : Nat) (ts : List Int) : rngsL { l with wa := a, wc := c } ts = rngsL l ts ∧ cntL (gofL { l with wa := a, wc := c } ts) = cntL (gofL l ts) ∧ gofE { l with wa := a, wc := c } ts = gofE l ts := ⟨rfl, rfl, rfl⟩
theorem same_many (l : Lan) (a : Option Addr) (c : Nat) (ts : List Int) : manyN { l with wa := a, wc := c } ts = manyN l ts := rfl
theorem same_expl (l : Lan) (a : Option Addr) (c : Nat) (ts : List Int) : explB { l with wa := a, wc := c } ts = explB l ts ∧ chkE { l with wa := a, wc := c } ts = chkE l ts := ⟨rfl, rfl⟩

theorem two_new (W : World) (xs ys : Array Value) (t : TypeId) : Below W.heap.size W ((W.alloc (.cells xs t)).alloc (.cells ys t)).drew ∧ Blk ((W.alloc (.cells xs t)).alloc (.cells ys t)).drew W.heap.size xs t ∧ Blk ((W.alloc (.cells xs t)).alloc (.cells ys t)).drew (W.heap.size + 1) ys t := by
  refine ⟨(below_al2 (below_al _ _) _).drew, Blk.alt (p := fun _ => False) (Blk.new W _ _) (((Alt.refl _ _).alloc _).drew) id, ?_⟩
  have := Blk.alt (p := fun _ => False) (Blk.new (W.alloc (.cells xs t)) ys t) (Alt.refl _ _).drew id
  rwa [World.size_alloc] at this

end Go.Proofs.Ytbbndcfnpfedpaa

namespace Go.Proofs.Ytbbndcfnpfedpaa
open Go.RowKit Go.Shelf

theorem span_sub {ns ms : List Int} (h : ns ≠ []) (hs : ∀ n ∈ ns, n ∈ ms) : (spanL ms).1 ≤ (spanL ns).1 ∧ (spanL ns).2 ≤ (spanL ms).2 := by
  have hm : ms ≠ [] := by
    cases ns with
    | nil => exact absurd rfl h
    | cons n ns => intro e; have := hs n (by simp); rw [e] at this; cases this
  obtain ⟨a1, a2, a3⟩ := spanL_spec h
  obtain ⟨b1, b2, b3⟩ := spanL_spec hm
  exact ⟨(b3 _ (hs _ a1)).1, (b3 _ (hs _ a2)).2⟩

def SubF (ws ws' : List Wd) (s s' : Int → Bool) : Prop := ∀ fr p q, fitsB ws s fr p q = true → fitsB ws' s' fr p q = true
theorem games_sub {ws ws' : List Wd} {s s' : Int → Bool} (h : SubF ws ws' s s') (fr : Int) : (∀ p ∈ gamesL ws s fr, p ∈ gamesL ws' s' fr) ∧ (gamesL ws s fr).length ≤ (gamesL ws' s' fr).length := by
  have hsub : ∀ p ∈ gamesL ws s fr, p ∈ gamesL ws' s' fr := fun p hp => by
    obtain ⟨h1, h2⟩ := games_in hp
    unfold gamesL
    exact List.mem_filter.2 ⟨h1, h _ _ _ h2⟩
  refine ⟨hsub, ?_⟩
  have e : gamesL ws s fr = (gamesL ws' s' fr).filter fun p => fitsB ws s fr p.1 p.2 := by
    unfold gamesL
    rw [List.filter_filter]
    refine List.filter_congr fun p _ => ?_
    cases hb : fitsB ws s fr p.1 p.2
    · rfl
    · simp [h _ _ _ hb]
  rw [e]
  exact List.length_filter_le _ _

theorem fell_sub {gs gs' : List (Int × Int)} (hne : gs ≠ []) (h : ∀ p ∈ gs, p ∈ gs') : (fellL gs').1 ≤ (fellL gs).1 ∧ (fellL gs).2 ≤ (fellL gs').2 := by
  unfold fellL
  refine span_sub (by simpa using hne) fun n hn => ?_
  obtain ⟨p, hp, rfl⟩ := List.mem_map.1 hn
  exact List.mem_map.2 ⟨p, h p hp, rfl⟩
theorem cnt_mono (g g' : Nat → List (Int × Int)) : ∀ n : Nat, (∀ f, f < n → g f ≠ [] ∧ ∀ p ∈ g f, p ∈ g' f) → (cntL ((List.range n).map g')).1 ≤ (cntL ((List.range n).map g)).1 ∧ (cntL ((List.range n).map g)).2 ≤ (cntL ((List.range n).map g')).2
  | 0, _ => ⟨Int.le_refl _, Int.le_refl _⟩
  | n + 1, h => by
    have ih := cnt_mono g g' n (fun f hf => h f (by omega))
    have hn := fell_sub (h n (by omega)).1 (h n (by omega)).2
    rw [List.range_succ, List.map_append, List.map_append]
    simp only [List.map_cons, List.map_nil]
    rw [cntL_snoc, cntL_snoc]
    unfold cntStep
    simp only
    omega
theorem prod_mono (g g' : Nat → List (Int × Int)) : ∀ n : Nat, (∀ f, f < n → (g f).length ≤ (g' f).length) → prodN ((List.range n).map g) ≤ prodN ((List.range n).map g')
  | 0, _ => Nat.le_refl _
  | n + 1, h => by
    rw [List.range_succ, List.map_append, List.map_append]
    simp only [List.map_cons, List.map_nil]
    rw [prodN_snoc, prodN_snoc]
    exact Nat.mul_le_mul (prod_mono g g' n (fun f hf => h f (by omega))) (h n (by omega))

theorem rngs_cases {l : Lan} {ts : List Int} (h : gofE l ts = 0) {i : Nat} (hi : i < (rngsL l ts).length) : ∃ f : Nat, (f : Int) < l.fs ∧ (i = 2 * f ∨ i = 2 * f + 1) := by
  rw [rngsL_len h] at hi
  refine ⟨i / 2, by omega, by omega⟩

/-- With fewer games no range is wider, and there are not more games. -/
theorem narrow {l l' : Lan} {ts ts' : List Int} (hfs : l'.fs = l.fs) (h1 : gofE l ts = 0) (h2 : gofE l' ts' = 0) (hs : SubF l.ws l'.ws (offS ts) (offS ts')) :
    (∀ (i : Nat) (x y : Int × Int), (rngsL l ts)[i]? = some x → (rngsL l' ts')[i]? = some y → y.1 ≤ x.1 ∧ x.2 ≤ y.2) ∧ (cntL (gofL l' ts')).1 ≤ (cntL (gofL l ts)).1 ∧ (cntL (gofL l ts)).2 ≤ (cntL (gofL l' ts')).2 ∧ manyN l ts ≤ manyN l' ts' := by
  refine ⟨fun i x y hx hy => ?_, ?_⟩
  · obtain ⟨f, hf, hi⟩ := rngs_cases h1 (List.getElem?_eq_some_iff.1 hx).1
    have hne := games_ne h1 hf
    obtain ⟨g1, _⟩ := games_sub hs (f : Int)
    obtain ⟨a1, a2⟩ := rngs_at h1 hf
    obtain ⟨b1, b2⟩ := rngs_at h2 (f := f) (by rw [hfs]; exact hf)
    rcases hi with rfl | rfl
    · rw [a1] at hx; rw [b1] at hy
      cases hx; cases hy
      refine span_sub (by simpa using hne) fun n hn => ?_
      obtain ⟨p, hp, rfl⟩ := List.mem_map.1 hn
      exact List.mem_map.2 ⟨p, g1 p hp, rfl⟩
    · rw [a2] at hx; rw [b2] at hy
      cases hx; cases hy
      refine span_sub (by simpa using hne) fun n hn => ?_
      obtain ⟨p, hp, rfl⟩ := List.mem_map.1 hn
      exact List.mem_map.2 ⟨p, g1 p hp, rfl⟩
  · unfold manyN
    rw [if_pos h1, if_pos h2, gofL_ok h1, gofL_ok h2]
    unfold frmL
    rw [hfs]
    obtain ⟨c1, c2⟩ := cnt_mono (fun f => gamesL l.ws (offS ts) (f : Int)) (fun f => gamesL l'.ws (offS ts') (f : Int)) l.fs.toNat (fun f hf => ⟨games_ne h1 (by omega), (games_sub hs (f : Int)).1⟩)
    exact ⟨c1, c2, prod_mono _ _ _ fun f hf => (games_sub hs (f : Int)).2⟩

theorem chkE_ok {l : Lan} {ts : List Int} (h : faultW l = 0) (hr : riseIn 0 3 ts = true) : chkE l ts = 0 := by unfold chkE; rw [if_pos h, if_pos hr]
theorem gofE_of {l : Lan} {ts : List Int} (h : chkE l ts = 0) : gofE l ts = if explB l ts = true then 0 else 9 := by
  unfold gofE explB
  rw [if_pos h, h]
  simp
theorem explB_sub {l l' : Lan} {ts ts' : List Int} (hfs : l'.fs = l.fs) (h1 : chkE l ts = 0) (h2 : chkE l' ts' = 0) (hs : SubF l.ws l'.ws (offS ts) (offS ts')) (h : explB l ts = true) : explB l' ts' = true := by
  unfold explB at *
  rw [h1] at h
  rw [h2]
  simp only [decide_true, Bool.true_and] at *
  unfold possB at *
  rw [hfs]
  refine List.all_eq_true.2 fun f hf => ?_
  have h3 := List.all_eq_true.1 h f hf
  unfold someB at *
  have := (games_sub hs (f : Int)).2
  cases e : gamesL l'.ws (offS ts') (f : Int) with
  | nil =>
    rw [e] at this
    have h4 : gamesL l.ws (offS ts) (f : Int) = [] := List.eq_nil_of_length_eq_zero (by simpa using this)
    rw [h4] at h3
    simp at h3
  | cons a b => rfl
/-- More tellers left out: more games fit. -/
theorem sub_off {ws : List Wd} {s s' : Int → Bool} (h : ∀ t, s t = true → s' t = true) : SubF ws ws s s' := by
  have key : ∀ fr b z, ws.all (okW s fr b z) = true → ws.all (okW s' fr b z) = true := fun fr b z hh => by
    refine List.all_eq_true.2 fun x hx => ?_
    have := List.all_eq_true.1 hh x hx
    unfold okW toldB at *
    cases hs : s x.te
    · rw [hs] at this
      cases hs' : s' x.te
      · exact this
      · simp
    · rw [h _ hs]; simp
  intro fr p q hh
  unfold fitsB at *
  simp only [Bool.and_eq_true] at *
  exact ⟨key _ _ _ hh.1, key _ _ _ hh.2⟩
theorem offS_mem (ts : List Int) (t : Int) : offS ts t = true ↔ t ∈ ts := by
  unfold offS withS
  simp only [Bool.false_or]
  exact hasI_iff
/-- All tellers left out: all games fit. -/
theorem all_off {l : Lan} (h : faultW l = 0) : explB l [0, 1, 2, 3] = true := by
  have hc : chkE l [0, 1, 2, 3] = 0 := chkE_ok h (by decide)
  unfold explB
  rw [hc]
  simp only [decide_true, Bool.true_and]
  unfold possB
  refine List.all_eq_true.2 fun f _ => ?_
  have hm : ((0 : Int), (0 : Int)) ∈ gamesL l.ws (offS [0, 1, 2, 3]) (f : Int) := by
    unfold gamesL
    refine List.mem_filter.2 ⟨by decide, ?_⟩
    unfold fitsB
    have key : ∀ b z, l.ws.all (okW (offS [0, 1, 2, 3]) f b z) = true := fun b z => List.all_eq_true.2 fun x hx => by
      have ht := (fault0 h).1 x hx
      refine okW_out ((offS_mem _ _).2 ?_)
      have : x.te = 0 ∨ x.te = 1 ∨ x.te = 2 ∨ x.te = 3 := by omega
      rcases this with e | e | e | e <;> rw [e] <;> simp
    rw [key, key]; rfl
  unfold someB
  cases e : gamesL l.ws (offS [0, 1, 2, 3]) (f : Int) with
  | nil => rw [e] at hm; cases hm
  | cons a b => rfl

theorem ofInt8 {n : Nat} (h : n < 256) : (BitVec.ofInt 8 (n : Int)).toNat = n := by
  rw [BitVec.toNat_ofInt]; omega
theorem wrap8 {n : Nat} (h : n < 256) : IntKind.u8.wrap (n : Int) = (n : Int) := by
  unfold IntKind.wrap; simp [IntKind.bits, IntKind.signed]; omega
theorem or8 {m n : Nat} (hm : m < 256) (hn : n < 256) : bits .or .u8 (m : Int) (n : Int) = ((m ||| n : Nat) : Int) := by
  have h : m ||| n < 256 := Nat.or_lt_two_pow (n := 8) hm hn
  show IntKind.u8.wrap ((BitVec.ofInt 8 (m : Int) ||| BitVec.ofInt 8 (n : Int)).toNat : Int) = _
  rw [BitVec.toNat_or, ofInt8 hm, ofInt8 hn, wrap8 h]
theorem bitB_nat (m k : Nat) : bitB (m : Int) k = m.testBit k := by
  unfold bitB
  rw [Nat.testBit_eq_decide_div_mod_eq]
  have e : ((m : Int) / (2 : Int) ^ k % 2) = ((m / 2 ^ k % 2 : Nat) : Int) := by
    rw [Int.natCast_emod, Int.natCast_ediv, Int.natCast_pow]; rfl
  rw [e]
  by_cases h : m / 2 ^ k % 2 = 1
  · rw [h]; rfl
  · rw [decide_eq_false h]
    refine decide_eq_false fun e2 => h (by omega)
theorem chosen_or {m n : Nat} {t : Int} (h : t ∈ chosenL (m : Int)) : t ∈ chosenL ((m ||| n : Nat) : Int) := by
  unfold chosenL chosenTo at *
  obtain ⟨k, hk, rfl⟩ := List.mem_map.1 h
  obtain ⟨h1, h2⟩ := List.mem_filter.1 hk
  refine List.mem_map.2 ⟨k, List.mem_filter.2 ⟨h1, ?_⟩, rfl⟩
  rw [bitB_nat] at *
  rw [Nat.testBit_or, h2]; rfl

end Go.Proofs.Ytbbndcfnpfedpaa

namespace Go.Proofs.Ytbbndcfnpfedpaa
open Go.RowKit

attribute [local go_sem] Oper.semAt_some

theorem info81 : (Try.prog.info? 81).map (fun i => (i.zero, i.size, i.bytes)) = some (some (.agg #[.int .i64 0, .int .i64 0, .int .i64 0, .int .i64 0, .int .i64 0]), 5, 40) := by kernel_rfl

def zeroF (x : Wd) : Wd := { x with fr := 0 }
/-- The words of a frame, as words of the only frame of a lane. -/
def onlyW (ws : List Wd) (k : Int) : List Wd := (ws.filter fun x => x.fr == k).map zeroF
theorem onlyW_snoc (ws : List Wd) (k : Int) (x : Wd) : onlyW (ws ++ [x]) k = if x.fr == k then onlyW ws k ++ [zeroF x] else onlyW ws k := by
  unfold onlyW
  rw [List.filter_append, List.map_append]
  cases h : (x.fr == k) <;> simp [List.filter, h]
theorem onlyW_len (ws : List Wd) (k : Int) : (onlyW ws k).length ≤ ws.length := by
  unfold onlyW; rw [List.length_map]; exact List.length_filter_le _ _

/-- A lane made anew. -/
def NewOnly (l : Lan) (k : Int) (w : World) (e : Ending) (w' : World) : Prop :=
  ∃ a c, e = .returned (Lan.val ⟨1, a, c, onlyW l.ws k⟩) ∧ WdsAt w' a (onlyW l.ws k) ∧ (∀ g o, a = some ⟨g, o, none⟩ → w.heap.size ≤ g ∧ g < w'.heap.size) ∧ Below w.heap.size w w'

/-- What the round stands on: N the box of the argument, N + 1 the result, N + 2 the lane that grows. -/
structure WO (l : Lan) (k : Int) (w W : World) (v : Value) (i : Nat) : Prop where
  bK : Blk W w.heap.size #[.int .i64 l.fs, .slice l.wa l.ws.length l.wc] 24
  bR : Blk W (w.heap.size + 1) #[.int .i64 0, .slice none 0 0] 24
  bO : Blk W (w.heap.size + 1 + 1) #[.int .i64 1, v] 24
  ow : W.ownsRow (w.heap.size + 3) 81 5 v (onlyW (l.ws.take i) k).length (wdCells (onlyW (l.ws.take i) k))
  bl : Below w.heap.size w W
  sz : w.heap.size + 3 ≤ W.heap.size
theorem WO.skip {l : Lan} {k : Int} {w W W' : World} {v : Value} {i : Nat} {x : Wd} (h : WO l k w W v i) (hl : l.ws[i]? = some x) (hx : (x.fr == k) = false) (hb : Below W.heap.size W W') : WO l k w W' v (i + 1) := by
  have hA : Alt (fun _ => False) W W' := Alt.of_below hb (fun k hk e => by omega)
  have e : onlyW (l.ws.take (i + 1)) k = onlyW (l.ws.take i) k := by rw [take_next hl, onlyW_snoc, hx]; rfl
  exact ⟨h.bK.alt hA id, h.bR.alt hA id, h.bO.alt hA id, by rw [e]; exact ownsRow_alt h.ow hA (fun _ _ => id), below_go h.bl hb, Nat.le_trans h.sz hb.size⟩
theorem WO.step {l : Lan} {k : Int} {w W W1 : World} {v v' : Value} {i : Nat} {o o2 : Obj} {x : Wd} (h : WO l k w W v i) (hl : l.ws[i]? = some x) (hx : (x.fr == k) = true)
    (hg : ((W.alloc o).alloc o2).grownBy W1 v.ownBlock) (ho : W1.ownsRow (w.heap.size + 3) 81 5 v' ((onlyW (l.ws.take i) k).length + 1) (wdCells (onlyW (l.ws.take i) k) ++ (zeroF x).cells)) :
    WO l k w (W1.setCell ⟨w.heap.size + 1 + 1, 1, none⟩ v') v' (i + 1) := by
  have hA : Alt (fun k => w.heap.size + 3 ≤ k) W W1 := (((Alt.refl _ W).alloc o).alloc o2).grown hg fun k e => own_base h.ow e
  have hS : Alt (fun k => k = w.heap.size + 1 + 1) W1 (W1.setCell ⟨w.heap.size + 1 + 1, 1, none⟩ v') := (Alt.refl (fun k => k = w.heap.size + 1 + 1) W1).setCell (q := ⟨w.heap.size + 1 + 1, 1, none⟩) rfl _
  have e : onlyW (l.ws.take (i + 1)) k = onlyW (l.ws.take i) k ++ [zeroF x] := by rw [take_next hl, onlyW_snoc, hx]; rfl
  refine ⟨(h.bK.alt hA (by omega)).alt hS (by omega), (h.bR.alt hA (by omega)).alt hS (by omega), ?_, ?_, ?_, ?_⟩
  · exact Blk.setAt (h.bO.alt hA (by omega)) 1 _
  · rw [e, wdCells_snoc, List.length_append]
    exact ownsRow_alt ho hS (fun g hg e => by omega)
  · exact ((Alt.of_below (p := fun k => w.heap.size ≤ k) h.bl (fun k _ e => e)).trans ((hA.mono fun k _ e => by omega).trans (hS.mono fun k _ e => by omega))).below (Nat.le_refl _) fun _ e => e
  · have := h.sz
    have := hA.size
    have := hS.size
    omega

set_option maxRecDepth 100000 in
set_option maxHeartbeats 8000000 in
theorem only_ref (l : Lan) (k : Int) (w : World) (hL : WdsAt w l.wa l.ws) (hn : l.ws.length ≤ 1000) :
    Calls Try.prog 48 #[l.val, .int .i64 k] w (NewOnly l k w) := by
  have HL := Lib.hid hL
  obtain ⟨i0, hi0, hy0, hy1, hy2⟩ := info_parts info81
  have K0 := Lib.hid (show WO l k w (((w.alloc (.cells #[.int .i64 l.fs, .slice l.wa l.ws.length l.wc] 24)).alloc (.cells #[.int .i64 0, .slice none 0 0] 24)).alloc (.cells #[.int .i64 1, .slice none 0 0] 24)) (.slice none 0 0) 0 from
    ⟨Blk.alt (p := fun _ => False) (Blk.new w _ _) (((Alt.refl _ _).alloc _).alloc _) id, by
      have := Blk.alt (p := fun _ => False) (Blk.new (w.alloc (.cells #[.int .i64 l.fs, .slice l.wa l.ws.length l.wc] 24)) #[.int .i64 0, .slice none 0 0] 24) ((Alt.refl _ _).alloc (.cells #[.int .i64 1, .slice none 0 0] 24)) id
      rwa [World.size_alloc] at this, by
      have := Blk.new ((w.alloc (.cells #[.int .i64 l.fs, .slice l.wa l.ws.length l.wc] 24)).alloc (.cells #[.int .i64 0, .slice none 0 0] 24)) #[.int .i64 1, .slice none 0 0] 24
      rwa [World.size_alloc, World.size_alloc] at this, ⟨rfl, .inl ⟨rfl, rfl⟩⟩, below_al2 (below_al2 (below_al _ _) _) _, by simp⟩)
  unfold Lan.val
  clear hL
  go_enter Try.func48, Try.ntmps48
  go_wp2_with fail
  generalize ((w.alloc _).alloc _).alloc _ = W0 at K0 ⊢
  go_loopg [6] l.ws.length (fun g s6 wx => ∃ (i : Nat) (v : Value), i ≤ l.ws.length ∧ g = l.ws.length - i ∧ s6 = .int .i64 (i : Int) ∧ Hid (WO l k w wx v i))
  case atStart => exact ⟨0, _, by omega, by omega, rfl, K0⟩
  case round =>
    obtain ⟨i, v, hi, rfl, rfl, hK⟩ := hrel
    clear K0
    have k4 : wr.cell? ⟨w.heap.size, 1, none⟩ = some (.slice l.wa l.ws.length l.wc) := hK.out.bK.cell 1 rfl
    by_cases hlt : i < l.ws.length
    · have hz0 : (0 : Int) ≤ (i : Int) := by omega
      have hz1 : (i : Int) < (l.ws.length : Int) := by omega
      obtain ⟨x, hl⟩ : ∃ x, l.ws[i]? = some x := ⟨l.ws[i]'hlt, List.getElem?_eq_getElem _⟩
      obtain ⟨g, o, hla, k1, k2, k3, k5, k6⟩ := HL.out i _ hl
      have c1 := cell_lo hK.out.bl k1
      have c2 := cell_lo hK.out.bl k2
      have c3 := cell_lo hK.out.bl k3
      have c4 := cell_lo hK.out.bl k5
      have c5 := cell_lo hK.out.bl k6
      have HLl := Lib.hid hl
      rw [hla] at k4
      have HSZ := Lib.hid hK.out.sz
      have HNC : Hid (2 * 1000 ≤ maxLen) := Lib.hid (by unfold maxLen; omega)
      have HOW := Lib.hid hK.out.ow
      have HOL := Lib.hid (show (onlyW (l.ws.take i) k).length ≤ 1000 by have := onlyW_len (l.ws.take i) k; rw [List.length_take] at this; omega)
      have e2 : IntKind.i64.wrap ((i : Int) + 1) = (i : Int) + 1 := IntWalk.i64_in _ (by omega)
      have SK := Lib.hid (fun hx W' hb => hK.out.skip (x := x) (W' := W') hl hx hb)
      have HZF : Hid (zeroF x = ⟨0, x.ba, x.te, x.le, x.mo⟩) := Lib.hid rfl
      have o4 : (wr.alloc (.cells #[.int .i64 0, .int .i64 x.ba, .int .i64 x.te, .int .i64 x.le, .int .i64 x.mo] 81)).cell? ⟨w.heap.size + 1 + 1, 1, none⟩ = some v := alt_cell (p := fun _ => False) ((Alt.refl _ wr).alloc _) (hK.out.bO.cell 1 rfl) id
      have ST := Lib.hid (fun hx W1 v' (hg : ((wr.alloc (.cells #[.int .i64 0, .int .i64 x.ba, .int .i64 x.te, .int .i64 x.le, .int .i64 x.mo] 81)).alloc (.cells #[.int .i64 0, .int .i64 x.ba, .int .i64 x.te, .int .i64 x.le, .int .i64 x.mo] 81)).grownBy W1 v.ownBlock) ho => hK.out.step (x := x) (v' := v') hl hx hg ho)
      have SA := Lib.hid (fun W1 (hg : ((wr.alloc (.cells #[.int .i64 0, .int .i64 x.ba, .int .i64 x.te, .int .i64 x.le, .int .i64 x.mo] 81)).alloc (.cells #[.int .i64 0, .int .i64 x.ba, .int .i64 x.te, .int .i64 x.le, .int .i64 x.mo] 81)).grownBy W1 v.ownBlock) => (⟨(hK.out.bO.alt ((((Alt.refl (fun k => w.heap.size + 3 ≤ k) wr).alloc _).alloc _).grown hg fun k e => own_base hK.out.ow e) (by omega)).fr 1, (hK.out.bO.alt ((((Alt.refl (fun k => w.heap.size + 3 ≤ k) wr).alloc _).alloc _).grown hg fun k e => own_base hK.out.ow e) (by omega)).cell 1 rfl⟩ : W1.frozen? ⟨w.heap.size + 1 + 1, 1, none⟩ = false ∧ W1.cell? ⟨w.heap.size + 1 + 1, 1, none⟩ = some v))
      have HBA := Lib.hid (fun o => below_al wr o)
      rw [HZF.out] at ST
      clear k1 k2 k3 k5 k6 hl hla
      obtain ⟨fr, ba, te, le, mo⟩ := x
      simp only at c1 c2 c3 c4 c5 o4 ST SA SK
      by_cases hfr : fr = k
      · subst hfr
        have ST2 := Lib.hid (ST.out (by simp))
        generalize onlyW (l.ws.take i) fr = xs at *
        clear ST SK
        go_wp2_with (at_builtin; go_must (refine wpList_append_own_at _ rfl _ _ 22 rfl (w.heap.size + 3) 81 i0 _ 5 40 Try.underlying22 hi0 hy0 hy1 hy2 rfl (by decide) v xs.length (wdCells xs) rfl ((HOW.out.alloc _).alloc _) ⟨wr.heap.size + 1, 0, none⟩ 1 1 (Wd.cells ⟨0, ba, te, le, mo⟩) rfl (by rfl) (by first | exact World.news_of_block (cs := #[.int .i64 0, .int .i64 ba, .int .i64 te, .int .i64 le, .int .i64 mo]) (t := 81) (fr := (0, 0)) (by simpa using heap_alloc_new (wr.alloc _) _) | fail "news") (by simp [Value.oneCell', Wd.cells]) (by have := HNC.out; have := HOL.out; omega) (by have := HOL.out; omega) (by have := HSZ.out; simp; omega) ?_); intro v' w1 hown' hgrow hnil hloc; obtain ⟨gA, capA, hvA, _, _⟩ := hown'.form (by omega); subst hvA; have KN := Lib.hid (ST2.out w1 _ hgrow hown'); have zA := (SA.out w1 hgrow).1; have cA := (SA.out w1 hgrow).2; clear hown' hgrow hnil hloc)
        generalize World.setCell _ _ _ = w2 at KN ⊢
        clear zA cA c1 c2 c3 c4 c5 k4 o4 hK HOW
        go_wp2_with fail
        go_roundg (l.ws.length - (i + 1))
        case measure => omega
        case rel => exact ⟨i + 1, _, by omega, rfl, by simp, KN⟩
      · have hfr2 : (fr == k) = false := by simpa using hfr
        have KN := Lib.hid (SK.out hfr2 _ (HBA.out (.cells #[.int .i64 fr, .int .i64 ba, .int .i64 te, .int .i64 le, .int .i64 mo] 81)))
        clear hfr o4 ST SA SK hK
        go_wp2_with fail
        go_roundg (l.ws.length - (i + 1))
        case measure => omega
        case rel => exact ⟨i + 1, _, by omega, rfl, by simp, KN⟩
    · have hz1 : ¬ (i : Int) < (l.ws.length : Int) := by omega
      have KE := hK.out
      obtain rfl : i = l.ws.length := by omega
      have ow := KE.ow
      rw [List.take_length] at ow
      obtain ⟨a, c, rfl, hLL, hg⟩ : ∃ a c, v = .slice a (onlyW l.ws k).length c ∧ WdsAt wr a (onlyW l.ws k) ∧ ∀ g o, a = some ⟨g, o, none⟩ → w.heap.size + 3 ≤ g ∧ g < wr.heap.size := by
        by_cases h0 : 0 < (onlyW l.ws k).length
        · obtain ⟨g, cap, rfl, hb, hl⟩ := ow.form h0
          refine ⟨some ⟨g, 0, none⟩, cap, rfl, ?_, fun g' o e => by cases e; exact ⟨hb, hl⟩⟩
          intro i x hi
          obtain ⟨k1, k2, k3, k4, k5⟩ := wdCells_at _ i x hi
          have hc : ∀ j u, (wdCells (onlyW l.ws k))[j]? = some u → wr.cell? ⟨g, j, none⟩ = some u := fun j u hj => (ow.cellAt j (by have := (List.getElem?_eq_some_iff.1 hj).1; have := ow.1; omega)).trans hj
          exact ⟨g, 0, rfl, by rw [Nat.zero_add]; exact hc _ _ k1, by rw [Nat.zero_add]; exact hc _ _ k2, by rw [Nat.zero_add]; exact hc _ _ k3, by rw [Nat.zero_add]; exact hc _ _ k4, by rw [Nat.zero_add]; exact hc _ _ k5⟩
        · have he : onlyW l.ws k = [] := List.eq_nil_of_length_eq_zero (by omega)
          rw [he] at ow ⊢
          rcases ow.2 with ⟨rfl, _⟩ | ⟨g, cap, cur, rfl, hb, hg, _⟩
          · exact ⟨none, 0, rfl, fun i l h => by simp at h, fun g o e => by cases e⟩
          · refine ⟨some ⟨g, 0, none⟩, cap, rfl, fun i l h => by simp at h, fun g' o e => by cases e; exact ⟨hb, (Array.getElem?_eq_some_iff.1 hg).1⟩⟩
      have BL := Lib.hid KE.bl
      have HLL := Lib.hid hLL
      have HG := Lib.hid hg
      have bR := KE.bR
      have bO := KE.bO
      have q0 : wr.cell? ⟨w.heap.size + 1 + 1, 0, none⟩ = some (.int .i64 1) := bO.cell 0 rfl
      have q1 : wr.cell? ⟨w.heap.size + 1 + 1, 1, none⟩ = some (.slice a (onlyW l.ws k).length c) := bO.cell 1 rfl
      have t0 : wr.cell? ⟨w.heap.size + 1, 0, none⟩ = some (.int .i64 0) := bR.cell 0 rfl
      have t1 : wr.cell? ⟨w.heap.size + 1, 1, none⟩ = some (.slice none 0 0) := bR.cell 1 rfl
      have f0 := bR.fr 0
      have f1 := bR.fr 1
      have PT := Lib.hid (bR.put2 (.int .i64 1) (.slice a (onlyW l.ws k).length c))
      clear hLL hg bR bO KE hK ow hlt
      go_wp2_with fail
      have pt := PT.out
      generalize World.setCell _ _ _ = X at pt ⊢
      have h0 := pt.1.cell 0 (show _ = some (Value.int .i64 1) from rfl)
      have h1 := pt.1.cell 1 (show _ = some (Value.slice a (onlyW l.ws k).length c) from rfl)
      have hN : NewOnly l k w (.returned (.agg #[.int .i64 1, .slice a (onlyW l.ws k).length c])) X := by
        refine ⟨a, c, rfl, HLL.out.alt pt.2 (fun g o e h => by have := HG.out g o e; omega), fun g o e => ⟨by have := (HG.out g o e).1; omega, Nat.lt_of_lt_of_le (HG.out g o e).2 pt.2.size⟩, ?_⟩
        exact ((Alt.of_below (p := fun k => w.heap.size ≤ k) BL.out (fun k hk e => e)).trans (pt.2.mono fun k _ e => by omega)).below (Nat.le_refl _) fun _ e => e
      exact bodyPost_ret (v := .agg #[.int .i64 1, .slice a (onlyW l.ws k).length c]) (by simp [results, Try.results48, go_sem, h0, h1]) rfl hN

end Go.Proofs.Ytbbndcfnpfedpaa

namespace Go.Proofs.Ytbbndcfnpfedpaa
open Go.RowKit Go.Shelf

theorem v_all {F : Nat} (h1 : 1 ≤ F) (h5 : F ≤ 5) : gofE ⟨(F : Int), none, 0, []⟩ [] = 0 ∧ (manyN ⟨(F : Int), none, 0, []⟩ [] : Nat) = 66 ^ F ∧ cntL (gofL ⟨(F : Int), none, 0, []⟩ []) = (0, 10 * (F : Int)) := by
  obtain rfl | rfl | rfl | rfl | rfl : F = 1 ∨ F = 2 ∨ F = 3 ∨ F = 4 ∨ F = 5 := by omega
  all_goals exact ⟨by kernel_rfl, by kernel_rfl, by kernel_rfl⟩

theorem okW_only (s : Int → Bool) (k b z : Int) : ∀ ws : List Wd, (onlyW ws k).all (okW s 0 b z) = ws.all (okW s k b z)
  | [] => rfl
  | x :: ws => by
    have ih := okW_only s k b z ws
    have e : onlyW (x :: ws) k = (if x.fr == k then [zeroF x] else []) ++ onlyW ws k := by
      unfold onlyW
      cases h : (x.fr == k) <;> simp [List.filter, h]
    rw [e, List.all_append, List.all_cons, ih]
    congr 1
    cases h : (x.fr == k)
    · rw [okW_far (by rw [h]; rfl)]; rfl
    · have h2 : x.fr = k := by simpa using h
      simp only [if_true, List.all_cons, List.all_nil, Bool.and_true]
      unfold okW toldB zeroF
      simp [h2]
theorem games_only (ws : List Wd) (s : Int → Bool) (k : Int) : gamesL (onlyW ws k) s 0 = gamesL ws s k := by
  unfold gamesL fitsB
  simp only [okW_only]
theorem fault_only {l : Lan} (h : faultW l = 0) {k : Int} (h0 : 0 ≤ k) (h1 : k < l.fs) (a : Option Addr) (c : Nat) : faultW ⟨1, a, c, onlyW l.ws k⟩ = 0 := by
  obtain ⟨f1, f2, f3, f4, f5⟩ := fault0 h
  have hl := onlyW_len l.ws k
  refine faultW_in (by show ¬ 30 < (onlyW l.ws k).length; omega) (show inB 1 1 5 = true by decide) fun x hx => ?_
  change x ∈ onlyW l.ws k at hx
  unfold onlyW at hx
  obtain ⟨y, hy, rfl⟩ := List.mem_map.1 hx
  have hw := f5 y (List.mem_filter.1 hy).1
  unfold wrongW zeroF at *
  simp only [Bool.or_eq_false_iff, Bool.not_eq_false'] at *
  exact ⟨by decide, hw.2⟩

theorem some_iff {ws : List Wd} {s : Int → Bool} {k : Int} : someB ws s k = true ↔ gamesL ws s k ≠ [] := by
  unfold someB
  cases gamesL ws s k <;> simp
theorem only_many {l : Lan} (h : faultW l = 0) {k : Int} (h0 : 0 ≤ k) (h1 : k < l.fs) (a : Option Addr) (c : Nat) {ts : List Int} (hr : riseIn 0 3 ts = true) :
    (gofE ⟨1, a, c, onlyW l.ws k⟩ ts = 0 ∨ gofE ⟨1, a, c, onlyW l.ws k⟩ ts = 9) ∧ manyN ⟨1, a, c, onlyW l.ws k⟩ ts = (gamesL l.ws (offS ts) k).length := by
  have hc : chkE ⟨1, a, c, onlyW l.ws k⟩ ts = 0 := chkE_ok (fault_only h h0 h1 a c) hr
  have hg := gofE_of hc
  have hp : possB ⟨1, a, c, onlyW l.ws k⟩ (offS ts) = someB l.ws (offS ts) k := by
    show ((List.range 1).all fun f => someB (onlyW l.ws k) (offS ts) (f : Int)) = _
    show (someB (onlyW l.ws k) (offS ts) 0 && true) = _
    unfold someB
    rw [games_only, Bool.and_true]
  have he : explB ⟨1, a, c, onlyW l.ws k⟩ ts = someB l.ws (offS ts) k := by unfold explB; rw [hc, hp]; simp
  rw [he] at hg
  refine ⟨by rw [hg]; split <;> simp, ?_⟩
  unfold manyN
  by_cases hs : someB l.ws (offS ts) k = true
  · have h0' : gofE ⟨1, a, c, onlyW l.ws k⟩ ts = 0 := by rw [hg, if_pos hs]
    rw [if_pos h0', gofL_ok h0']
    show prodN [gamesL (onlyW l.ws k) (offS ts) 0] = _
    rw [games_only]
    show 1 * _ = _
    rw [Nat.one_mul]
  · have h9 : gofE ⟨1, a, c, onlyW l.ws k⟩ ts ≠ 0 := by rw [hg, if_neg hs]; omega
    rw [if_neg h9]
    have : gamesL l.ws (offS ts) k = [] := by
      by_cases e : gamesL l.ws (offS ts) k = []
      · exact e
      · exact absurd (some_iff.2 e) hs
    rw [this]; rfl

theorem prodF (L : List (List (Int × Int))) : ∀ n, L.foldl (fun n g => n * g.length) n = n * prodN L := by
  induction L with
  | nil => intro n; simp [prodN]
  | cons g L ih =>
    intro n
    unfold prodN
    simp only [List.foldl_cons]
    rw [ih, ih, Nat.mul_assoc]
    congr 1
    rw [Nat.one_mul]
theorem prodN_cons (g : List (Int × Int)) (L : List (List (Int × Int))) : prodN (g :: L) = g.length * prodN L := by
  show L.foldl _ (1 * g.length) = _
  rw [prodF, Nat.one_mul]
theorem prodN_zero {L : List (List (Int × Int))} (h : [] ∈ L) : prodN L = 0 := by
  induction L with
  | nil => cases h
  | cons g L ih =>
    rw [prodN_cons]
    rcases List.mem_cons.1 h with rfl | h
    · simp
    · rw [ih h]; simp
theorem many_prod {l : Lan} {ts : List Int} (hc : chkE l ts = 0) : (gofE l ts = 0 → manyN l ts = prodN (frmL l (offS ts))) ∧ (gofE l ts ≠ 0 → prodN (frmL l (offS ts)) = 0) := by
  refine ⟨fun h => by unfold manyN; rw [if_pos h, gofL_ok h], fun h => ?_⟩
  have hp : possB l (offS ts) ≠ true := fun e => h (by unfold gofE; rw [if_pos hc, if_pos e])
  refine prodN_zero ?_
  unfold possB at hp
  have hp := List.all_eq_false.1 (Bool.eq_false_iff.2 hp)
  obtain ⟨f, hf, hs⟩ := hp
  unfold frmL
  refine List.mem_map.2 ⟨f, hf, ?_⟩
  by_cases e : gamesL l.ws (offS ts) (f : Int) = []
  · exact e
  · exact absurd (some_iff.2 e) hs
theorem frm_le (l : Lan) (s : Int → Bool) (n : Nat) : prodN ((List.range n).map fun (f : Nat) => gamesL l.ws s (f : Int)) ≤ 66 ^ n := by
  have := prodN_le ((List.range n).map fun (f : Nat) => gamesL l.ws s (f : Int)) (fun g hg => by obtain ⟨f, _, rfl⟩ := List.mem_map.1 hg; exact games_len _ _ _)
  simpa using this

end Go.Proofs.Ytbbndcfnpfedpaa
