/- The contracts of list and Least. -/
import Derived.Test.YtbbndcfnpfedpaaSu
set_option linter.unusedVariables false
set_option linter.unusedSimpArgs false
namespace Go.Proofs.Ytbbndcfnpfedpaa
open Go.RowKit Go.Shelf Go.Maps

attribute [local go_sem] Oper.semAt_some

theorem fidx0 (b0 b1 b2 b3 : Bool) (w : World) : Sem.run Try.prog (Instr.index 88 (.agg #[.bool b0, .bool b1, .bool b2, .bool b3]) (.int .i64 0)) w = .ok (.bool b0) w := by kernel_rfl
theorem fidx1 (b0 b1 b2 b3 : Bool) (w : World) : Sem.run Try.prog (Instr.index 88 (.agg #[.bool b0, .bool b1, .bool b2, .bool b3]) (.int .i64 1)) w = .ok (.bool b1) w := by kernel_rfl
theorem fidx2 (b0 b1 b2 b3 : Bool) (w : World) : Sem.run Try.prog (Instr.index 88 (.agg #[.bool b0, .bool b1, .bool b2, .bool b3]) (.int .i64 2)) w = .ok (.bool b2) w := by kernel_rfl
theorem fidx3 (b0 b1 b2 b3 : Bool) (w : World) : Sem.run Try.prog (Instr.index 88 (.agg #[.bool b0, .bool b1, .bool b2, .bool b3]) (.int .i64 3)) w = .ok (.bool b3) w := by kernel_rfl
def listS (s : Int → Bool) : List Int := ([0, 1, 2, 3] : List Int).filter s
def listTo (s : Int → Bool) (i : Nat) : List Int := (([0, 1, 2, 3] : List Int).take i).filter s

/-- A list of numbers that a call has made. -/
def RetI (xs : List Int) (w : World) (e : Ending) (w' : World) : Prop := ∃ a c, e = .returned (.slice a xs.length c) ∧ IntsAt w' a xs ∧ (∀ g o, a = some ⟨g, o, none⟩ → w.heap.size ≤ g ∧ g < w'.heap.size) ∧ Below w.heap.size w w'

structure LI (s : Int → Bool) (i : Nat) (w W : World) (v : Value) : Prop where
  b : Blk W w.heap.size (fCells s) 88
  ow : W.ownsRow (w.heap.size + 1) 3 1 v (listTo s i).length ((listTo s i).map (Value.int .i64))
  bl : Below w.heap.size w W
  sz : w.heap.size + 1 ≤ W.heap.size
theorem LI.same {s : Int → Bool} {i : Nat} {w W : World} {v : Value} (h : LI s i w W v) (he : listTo s (i + 1) = listTo s i) : LI s (i + 1) w W v := ⟨h.b, by rw [he]; exact h.ow, h.bl, h.sz⟩
theorem LI.push {s : Int → Bool} {i : Nat} {w W w1 : World} {v v' : Value} {x : Int} {o : Obj} (h : LI s i w W v) (he : listTo s (i + 1) = listTo s i ++ [x]) (hg : (W.alloc o).grownBy w1 v.ownBlock)
    (ho : w1.ownsRow (w.heap.size + 1) 3 1 v' ((listTo s i).length + 1) ((listTo s i).map (Value.int .i64) ++ [.int .i64 x])) : LI s (i + 1) w w1 v' := by
  have hA : Alt (fun k => w.heap.size + 1 ≤ k) W w1 := ((Alt.refl _ W).alloc o).grown hg fun k e => own_base h.ow e
  refine ⟨h.b.alt hA (by omega), ?_, ((Alt.of_below (p := fun k => w.heap.size ≤ k) h.bl (fun k _ e => e)).trans (hA.mono fun k _ e => by omega)).below (Nat.le_refl _) fun _ e => e, Nat.le_trans h.sz hA.size⟩
  rw [he, List.length_append, List.map_append]
  exact ho

theorem listTo_len (s : Int → Bool) (i : Nat) : (listTo s i).length ≤ 4 := by
  unfold listTo
  refine Nat.le_trans (List.length_filter_le _ _) ?_
  rw [List.length_take]; simp; omega

set_option maxRecDepth 100000 in
set_option maxHeartbeats 8000000 in
theorem list_any (s : Int → Bool) (w : World) : Calls Try.prog 63 #[fVal s] w (RetI (listS s) w) := by
  obtain ⟨i0, hi0, hy0, hy1, hy2⟩ := info_parts info3
  have L0 := Lib.hid (show LI s 0 w (w.alloc (.cells (fCells s) 88)) (.slice none 0 0) from ⟨Blk.new _ _ _, ⟨rfl, .inl ⟨rfl, rfl⟩⟩, below_al _ _, by simp⟩)
  have HLN := Lib.hid (listTo_len s)
  unfold RetI
  unfold fVal
  unfold fCells at L0 ⊢
  go_enter Try.func63, Try.ntmps63
  go_wp2_with fail
  generalize w.alloc _ = W0 at L0 ⊢
  go_loopg [3, 7] 4 (fun g s3 s7 wx => ∃ (i : Nat) (v : Value), i ≤ 4 ∧ g = 4 - i ∧ s7 = .int .i64 (i : Int) ∧ v = s3 ∧ Hid (LI s i w wx v))
  case atStart => exact ⟨0, _, by omega, by omega, rfl, rfl, L0⟩
  case round =>
    obtain ⟨i, v, hi, rfl, rfl, rfl, hL⟩ := hrel
    clear L0
    obtain rfl | rfl | rfl | rfl | rfl : i = 0 ∨ i = 1 ∨ i = 2 ∨ i = 3 ∨ i = 4 := by omega
    · have hb := hL.out.b
      unfold fCells at hb
      have k0 := hb.cell 0 (show _ = some (Value.bool (s 0)) from rfl)
      have k1 := hb.cell 1 (show _ = some (Value.bool (s 1)) from rfl)
      have k2 := hb.cell 2 (show _ = some (Value.bool (s 2)) from rfl)
      have k3 := hb.cell 3 (show _ = some (Value.bool (s 3)) from rfl)
      have HY : Hid (s 0 = true → listTo s (0 + 1) = listTo s 0 ++ [0]) := Lib.hid (fun h => by unfold listTo; rw [show ([0, 1, 2, 3] : List Int).take (0 + 1) = ([0, 1, 2, 3] : List Int).take 0 ++ [0] from rfl, List.filter_append]; simp [List.filter, h])
      have HX : Hid (s 0 = false → listTo s (0 + 1) = listTo s 0) := Lib.hid (fun h => by unfold listTo; rw [show ([0, 1, 2, 3] : List Int).take (0 + 1) = ([0, 1, 2, 3] : List Int).take 0 ++ [0] from rfl, List.filter_append]; simp [List.filter, h])
      have HL4 := Lib.hid (HLN.out 0)
      have OW := Lib.hid hL.out.ow
      have SZ := Lib.hid hL.out.sz
      have PU := Lib.hid (fun w1 v' (he : listTo s (0 + 1) = listTo s 0 ++ [0]) hg ho => hL.out.push (w1 := w1) (v' := v') (x := 0) (o := .cells #[.int .i64 0] 3) he hg ho)
      generalize hs : s 0 = b at *
      clear hs hb
      cases b
      · have N1 := Lib.hid (hL.out.same (HX.out (by first | rfl | trivial)))
        clear hL OW PU
        go_wp2_with fail
        rw [fidx0]
        go_wp2_with fail
        go_roundg (4 - (0 + 1))
        case measure => omega
        case rel => exact ⟨0 + 1, _, by omega, rfl, by simp, rfl, N1⟩
      · have HE := Lib.hid (HY.out (by first | rfl | trivial))
        generalize listTo s 0 = xs at *
        go_wp2_with fail
        rw [fidx0]
        go_wp2_with (at_builtin; go_must (refine wpList_append_own_at _ rfl _ _ 25 rfl (w.heap.size + 1) 3 i0 _ 1 8 Try.underlying25 hi0 hy0 hy1 hy2 rfl (by decide) v xs.length (xs.map (Value.int .i64)) rfl (OW.out.alloc _) ⟨wr.heap.size, 0, none⟩ 1 1 [.int .i64 0] rfl (by rfl) (cell_one_new _ _ _) (by simp [Value.oneCell']) (by unfold maxLen; have := HL4.out; omega) (by have := HL4.out; omega) (by have := SZ.out; simp; omega) ?_); intro v' w1 hown' hgrow hnil hloc; have N1 := Lib.hid (PU.out w1 v' HE.out hgrow hown'); clear hown' hgrow hnil hloc)
        clear hL OW PU k0 k1 k2 k3
        go_roundg (4 - (0 + 1))
        case measure => omega
        case rel => exact ⟨0 + 1, _, by omega, rfl, by simp, rfl, N1⟩
    · have hb := hL.out.b
      unfold fCells at hb
      have k0 := hb.cell 0 (show _ = some (Value.bool (s 0)) from rfl)
      have k1 := hb.cell 1 (show _ = some (Value.bool (s 1)) from rfl)
      have k2 := hb.cell 2 (show _ = some (Value.bool (s 2)) from rfl)
      have k3 := hb.cell 3 (show _ = some (Value.bool (s 3)) from rfl)
      have HY : Hid (s 1 = true → listTo s (1 + 1) = listTo s 1 ++ [1]) := Lib.hid (fun h => by unfold listTo; rw [show ([0, 1, 2, 3] : List Int).take (1 + 1) = ([0, 1, 2, 3] : List Int).take 1 ++ [1] from rfl, List.filter_append]; simp [List.filter, h])
      have HX : Hid (s 1 = false → listTo s (1 + 1) = listTo s 1) := Lib.hid (fun h => by unfold listTo; rw [show ([0, 1, 2, 3] : List Int).take (1 + 1) = ([0, 1, 2, 3] : List Int).take 1 ++ [1] from rfl, List.filter_append]; simp [List.filter, h])
      have HL4 := Lib.hid (HLN.out 1)
      have OW := Lib.hid hL.out.ow
      have SZ := Lib.hid hL.out.sz
      have PU := Lib.hid (fun w1 v' (he : listTo s (1 + 1) = listTo s 1 ++ [1]) hg ho => hL.out.push (w1 := w1) (v' := v') (x := 1) (o := .cells #[.int .i64 1] 3) he hg ho)
      generalize hs : s 1 = b at *
      clear hs hb
      cases b
      · have N1 := Lib.hid (hL.out.same (HX.out (by first | rfl | trivial)))
        clear hL OW PU
        go_wp2_with fail
        rw [fidx1]
        go_wp2_with fail
        go_roundg (4 - (1 + 1))
        case measure => omega
        case rel => exact ⟨1 + 1, _, by omega, rfl, by simp, rfl, N1⟩
      · have HE := Lib.hid (HY.out (by first | rfl | trivial))
        generalize listTo s 1 = xs at *
        go_wp2_with fail
        rw [fidx1]
        go_wp2_with (at_builtin; go_must (refine wpList_append_own_at _ rfl _ _ 25 rfl (w.heap.size + 1) 3 i0 _ 1 8 Try.underlying25 hi0 hy0 hy1 hy2 rfl (by decide) v xs.length (xs.map (Value.int .i64)) rfl (OW.out.alloc _) ⟨wr.heap.size, 0, none⟩ 1 1 [.int .i64 1] rfl (by rfl) (cell_one_new _ _ _) (by simp [Value.oneCell']) (by unfold maxLen; have := HL4.out; omega) (by have := HL4.out; omega) (by have := SZ.out; simp; omega) ?_); intro v' w1 hown' hgrow hnil hloc; have N1 := Lib.hid (PU.out w1 v' HE.out hgrow hown'); clear hown' hgrow hnil hloc)
        clear hL OW PU k0 k1 k2 k3
        go_roundg (4 - (1 + 1))
        case measure => omega
        case rel => exact ⟨1 + 1, _, by omega, rfl, by simp, rfl, N1⟩
    · have hb := hL.out.b
      unfold fCells at hb
      have k0 := hb.cell 0 (show _ = some (Value.bool (s 0)) from rfl)
      have k1 := hb.cell 1 (show _ = some (Value.bool (s 1)) from rfl)
      have k2 := hb.cell 2 (show _ = some (Value.bool (s 2)) from rfl)
      have k3 := hb.cell 3 (show _ = some (Value.bool (s 3)) from rfl)
      have HY : Hid (s 2 = true → listTo s (2 + 1) = listTo s 2 ++ [2]) := Lib.hid (fun h => by unfold listTo; rw [show ([0, 1, 2, 3] : List Int).take (2 + 1) = ([0, 1, 2, 3] : List Int).take 2 ++ [2] from rfl, List.filter_append]; simp [List.filter, h])
      have HX : Hid (s 2 = false → listTo s (2 + 1) = listTo s 2) := Lib.hid (fun h => by unfold listTo; rw [show ([0, 1, 2, 3] : List Int).take (2 + 1) = ([0, 1, 2, 3] : List Int).take 2 ++ [2] from rfl, List.filter_append]; simp [List.filter, h])
      have HL4 := Lib.hid (HLN.out 2)
      have OW := Lib.hid hL.out.ow
      have SZ := Lib.hid hL.out.sz
      have PU := Lib.hid (fun w1 v' (he : listTo s (2 + 1) = listTo s 2 ++ [2]) hg ho => hL.out.push (w1 := w1) (v' := v') (x := 2) (o := .cells #[.int .i64 2] 3) he hg ho)
      generalize hs : s 2 = b at *
      clear hs hb
      cases b
      · have N1 := Lib.hid (hL.out.same (HX.out (by first | rfl | trivial)))
        clear hL OW PU
        go_wp2_with fail
        rw [fidx2]
        go_wp2_with fail
        go_roundg (4 - (2 + 1))
        case measure => omega
        case rel => exact ⟨2 + 1, _, by omega, rfl, by simp, rfl, N1⟩
      · have HE := Lib.hid (HY.out (by first | rfl | trivial))
        generalize listTo s 2 = xs at *
        go_wp2_with fail
        rw [fidx2]
        go_wp2_with (at_builtin; go_must (refine wpList_append_own_at _ rfl _ _ 25 rfl (w.heap.size + 1) 3 i0 _ 1 8 Try.underlying25 hi0 hy0 hy1 hy2 rfl (by decide) v xs.length (xs.map (Value.int .i64)) rfl (OW.out.alloc _) ⟨wr.heap.size, 0, none⟩ 1 1 [.int .i64 2] rfl (by rfl) (cell_one_new _ _ _) (by simp [Value.oneCell']) (by unfold maxLen; have := HL4.out; omega) (by have := HL4.out; omega) (by have := SZ.out; simp; omega) ?_); intro v' w1 hown' hgrow hnil hloc; have N1 := Lib.hid (PU.out w1 v' HE.out hgrow hown'); clear hown' hgrow hnil hloc)
        clear hL OW PU k0 k1 k2 k3
        go_roundg (4 - (2 + 1))
        case measure => omega
        case rel => exact ⟨2 + 1, _, by omega, rfl, by simp, rfl, N1⟩
    · have hb := hL.out.b
      unfold fCells at hb
      have k0 := hb.cell 0 (show _ = some (Value.bool (s 0)) from rfl)
      have k1 := hb.cell 1 (show _ = some (Value.bool (s 1)) from rfl)
      have k2 := hb.cell 2 (show _ = some (Value.bool (s 2)) from rfl)
      have k3 := hb.cell 3 (show _ = some (Value.bool (s 3)) from rfl)
      have HY : Hid (s 3 = true → listTo s (3 + 1) = listTo s 3 ++ [3]) := Lib.hid (fun h => by unfold listTo; rw [show ([0, 1, 2, 3] : List Int).take (3 + 1) = ([0, 1, 2, 3] : List Int).take 3 ++ [3] from rfl, List.filter_append]; simp [List.filter, h])
      have HX : Hid (s 3 = false → listTo s (3 + 1) = listTo s 3) := Lib.hid (fun h => by unfold listTo; rw [show ([0, 1, 2, 3] : List Int).take (3 + 1) = ([0, 1, 2, 3] : List Int).take 3 ++ [3] from rfl, List.filter_append]; simp [List.filter, h])
      have HL4 := Lib.hid (HLN.out 3)
      have OW := Lib.hid hL.out.ow
      have SZ := Lib.hid hL.out.sz
      have PU := Lib.hid (fun w1 v' (he : listTo s (3 + 1) = listTo s 3 ++ [3]) hg ho => hL.out.push (w1 := w1) (v' := v') (x := 3) (o := .cells #[.int .i64 3] 3) he hg ho)
      generalize hs : s 3 = b at *
      clear hs hb
      cases b
      · have N1 := Lib.hid (hL.out.same (HX.out (by first | rfl | trivial)))
        clear hL OW PU
        go_wp2_with fail
        rw [fidx3]
        go_wp2_with fail
        go_roundg (4 - (3 + 1))
        case measure => omega
        case rel => exact ⟨3 + 1, _, by omega, rfl, by simp, rfl, N1⟩
      · have HE := Lib.hid (HY.out (by first | rfl | trivial))
        generalize listTo s 3 = xs at *
        go_wp2_with fail
        rw [fidx3]
        go_wp2_with (at_builtin; go_must (refine wpList_append_own_at _ rfl _ _ 25 rfl (w.heap.size + 1) 3 i0 _ 1 8 Try.underlying25 hi0 hy0 hy1 hy2 rfl (by decide) v xs.length (xs.map (Value.int .i64)) rfl (OW.out.alloc _) ⟨wr.heap.size, 0, none⟩ 1 1 [.int .i64 3] rfl (by rfl) (cell_one_new _ _ _) (by simp [Value.oneCell']) (by unfold maxLen; have := HL4.out; omega) (by have := HL4.out; omega) (by have := SZ.out; simp; omega) ?_); intro v' w1 hown' hgrow hnil hloc; have N1 := Lib.hid (PU.out w1 v' HE.out hgrow hown'); clear hown' hgrow hnil hloc)
        clear hL OW PU k0 k1 k2 k3
        go_roundg (4 - (3 + 1))
        case measure => omega
        case rel => exact ⟨3 + 1, _, by omega, rfl, by simp, rfl, N1⟩
    · have hO := hL.out.ow
      obtain ⟨a, c, rfl⟩ := own_len hO
      have hI := (own_intsAt hO).1
      have HE := Lib.hid (show listTo s 4 = listS s from rfl)
      have HI := Lib.hid hI
      have HBB := Lib.hid (show ∀ g o, a = some ⟨g, o, none⟩ → w.heap.size ≤ g ∧ g < wr.heap.size from fun g o e => by
        have := hO.lt g (by rw [e]; rfl)
        omega)
      rw [HE.out] at HI hO
      clear hI hO
      go_wp2_with fail
      go_returns
      first
      | exact ⟨a, ⟨c, rfl⟩, HI.out, HBB.out, hL.out.bl⟩
      | exact ⟨a, c, rfl, HI.out, HBB.out, hL.out.bl⟩

def leastL (l : Lan) : List Int := if faultW l = 0 then listS (leastS (possB l)) else []
def LeastR (l : Lan) (w : World) (e : Ending) (w' : World) : Prop := ∃ a c, e = .returned (.tuple #[.slice a (leastL l).length c, .int .i64 (faultW l)]) ∧ IntsAt w' a (leastL l) ∧ (∀ g o, a = some ⟨g, o, none⟩ → w.heap.size ≤ g ∧ g < w'.heap.size) ∧ Below w.heap.size w w'

set_option maxRecDepth 100000 in
set_option maxHeartbeats 8000000 in
theorem leastP_any (l : Lan) (w : World) (hL : WdsAt w l.wa l.ws) (hn : l.ws.length ≤ 1000) (hga : ∀ g o, l.wa = some ⟨g, o, none⟩ → g < w.heap.size) :
    Calls Try.prog 32 #[l.val] w (LeastR l w) := by
  have CL := Lib.hid (fun W (hb : Below w.heap.size w W) => checkLane_any l W (hL.lo hb) hn)
  have EP := Lib.hid (fun W (hb : Below w.heap.size w W) => explainer_any l W (hL.lo hb))
  have LE := Lib.hid (fun (hF : faultW l = 0) (bM bMap bLn : Nat) W (hb : Below w.heap.size w W) (hE : EX l (possB l) bM bMap bLn 0 W) (hne : bMap ≠ bM ∧ bMap ≠ bLn ∧ ∀ g o, l.wa = some ⟨g, o, none⟩ → bMap ≠ g) =>
    least_any l bM bMap bLn 0 W hE (fault0 hF).1 hn (by have := (fault0 hF).2.2.1; omega) (fault0 hF).2.2.2.1 (fun g o e => Nat.lt_of_lt_of_le (hga g o e) hb.size) (by omega) hne)
  have LS := Lib.hid (fun s W => list_any s W)
  have HLL : Hid (leastL l = if faultW l = 0 then listS (leastS (possB l)) else []) := Lib.hid rfl
  have HGA := Lib.hid hga
  have B0 := Lib.hid (below_al w (.cells #[.int .i64 l.fs, .slice l.wa l.ws.length l.wc] 32))
  have K0 := Lib.hid (Blk.new w #[.int .i64 l.fs, .slice l.wa l.ws.length l.wc] 32)
  unfold LeastR
  unfold LRes at LE
  unfold RetI at LS
  generalize leastL l = LL at *
  generalize leastS (possB l) = S at *
  generalize faultW l = F at *
  unfold Lan.val at *
  clear hL hn hga
  go_enter Try.func32, Try.ntmps32
  go_wp2_with fail
  generalize w.alloc _ = W0 at K0 B0 ⊢
  refine (CL.out _ B0.out).mono ?_
  rintro e w1 ⟨rfl, hb1⟩
  have B1 := Lib.hid (below_go B0.out hb1)
  have K1 := Lib.hid (Blk.alt (p := fun _ => False) K0.out (Alt.of_below hb1 (fun k hk e => by omega)) id)
  have Z1 := Lib.hid (Nat.le_trans B0.out.size hb1.size)
  have k0 := K1.out.cell 0 (show _ = some (Value.int .i64 l.fs) from rfl)
  have k1 := K1.out.cell 1 (show _ = some (Value.slice l.wa l.ws.length l.wc) from rfl)
  clear hb1 B0 K0 CL
  by_cases hF : F = 0
  · subst hF
    have HLS : Hid (LL = listS S) := Lib.hid (by rw [HLL.out, if_pos rfl])
    go_wp2_with fail
    refine (EP.out _ B1.out).mono ?_
    rintro e w2 ⟨rfl, hx2, hb2, hz2⟩
    have B2 := Lib.hid (below_go B1.out hb2)
    have L2 := Lib.hid (LE.out (by first | rfl | trivial) _ _ _ w2 B2.out hx2 ⟨by omega, by omega, fun g o e => by have := HGA.out g o e; have := Z1.out; omega⟩)
    have ZM := Lib.hid (show w.heap.size ≤ w1.heap.size + 1 by have := Z1.out; omega)
    clear hx2 hb2 hz2 EP k0 k1 B1
    go_wp2_with fail
    refine L2.out.mono ?_
    rintro e w3 ⟨rfl, n3, hn3, hx3, ha3⟩
    have B3 := Lib.hid (((Alt.of_below (p := fun k => w.heap.size ≤ k) B2.out (fun k hk e => e)).trans (ha3.mono fun k _ e => by have := ZM.out; omega)).below (Nat.le_refl _) fun _ e => e)
    have L3 := Lib.hid (LS.out S w3)
    unfold fVal fCells at L3 ⊢
    rw [← HLS.out] at L3
    clear hn3 hx3 ha3 L2
    go_wp2_with fail
    refine L3.out.mono ?_
    rintro e w4 ⟨a, c, rfl, hI, hB, hb4⟩
    have B4 := Lib.hid (below_go B3.out hb4)
    have HI := Lib.hid hI
    have HBB := Lib.hid (show ∀ g o, a = some ⟨g, o, none⟩ → w.heap.size ≤ g ∧ g < w4.heap.size from fun g o e => ⟨Nat.le_trans B3.out.size (hB g o e).1, (hB g o e).2⟩)
    clear hI hB hb4 L3
    go_wp2_with fail
    go_returns
    first
    | exact ⟨a, c, rfl, HI.out, HBB.out, B4.out⟩
    | exact ⟨a, ⟨c, rfl⟩, HI.out, HBB.out, B4.out⟩
  · have hF2 : (F == 0) = false := by simpa using hF
    have HLS : Hid (LL = []) := Lib.hid (by rw [HLL.out, if_neg hF])
    go_wp2_with fail
    go_returns
    refine ⟨none, 0, ?_, ?_, ?_, B1.out⟩
    · rw [HLS.out]; first | done | rfl
    · rw [HLS.out]; exact fun i v h => by simp at h
    · intro g o e; cases e

end Go.Proofs.Ytbbndcfnpfedpaa
