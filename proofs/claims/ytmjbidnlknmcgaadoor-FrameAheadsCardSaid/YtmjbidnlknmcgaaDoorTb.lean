/- The contract of the reference's throw: a tail behind a ball. -/
import Derived.Test.YtmjbidnlknmcgaaDoorTa
import Derived.Test.YtmjbidnlknmcgaaDoorDr
set_option linter.unusedVariables false
set_option linter.unusedSimpArgs false
namespace Go.Proofs.YtmjbidnlknmcgaaDoor
open Go.RowKit

theorem beh_xyT {l : Lw} {s : Sd} {k c : Int} (hf : s.f < l.fr) (hc : cnt l s k = c) :
    (behS l s k).x = s.y + (if s.f < l.fr - 1 ∧ s.s = c ∧ s.b ≤ 1 then 1 else 0) ∧ (behS l s k).y = (if s.f < l.fr - 1 ∧ s.s = c ∧ s.b ≤ 0 then 1 else 0) := by
  unfold behS finS midS thrS
  rw [hc]
  obtain ⟨f, b, ss, fr, mo, x, y⟩ := s
  obtain ⟨F, P, B, T⟩ := l
  unfold allS endS nextS setS
  simp only at *
  by_cases h1 : ss - c = 0
  · have h1' : ss = c := by omega
    by_cases h2 : f = F - 1
    · have h3 : ¬ f < F - 1 := by omega
      simp only [h1, h2, if_true, true_and, h1', Int.lt_irrefl, false_and, if_false]
      constructor <;> (repeat' split) <;> simp_all
    · have h3 : f < F - 1 := by omega
      simp only [h1, h2, h3, h1', if_true, if_false, true_and]
      have h4 : (b + 1 ≤ 2) ↔ (b ≤ 1) := by omega
      have h5 : (b + 1 ≤ 1) ↔ (b ≤ 0) := by omega
      simp only [h4, h5]
      constructor <;> (repeat' split) <;> simp_all
  · have h1' : ¬ ss = c := by omega
    simp only [h1, h1', if_false, false_and, and_false]
    constructor <;> (repeat' split) <;> simp_all

/-- A tail in its block. -/
structure TL (W : World) (g : Nat) (t : St) (x y : Int) : Prop where
  blk : W.heap[g]? = some (.cells #[.int .i64 t.f, .int .i64 t.b, .int .i64 t.s, .bool t.set, .int .i64 t.has, .int .i64 x, .int .i64 y] 105 (0, 0))
theorem TL.lo {W W' : World} {g : Nat} {t : St} {x y : Int} (h : Hid (TL W g t x y)) (hb : Below W.heap.size W W') : Hid (TL W' g t x y) := Lib.hid ⟨(hb.block _ (lt_of_block h.out.blk)).trans h.out.blk⟩
theorem TL.dr {W : World} {g : Nat} {t : St} {x y : Int} (h : Hid (TL W g t x y)) : Hid (TL W.drew g t x y) := TL.lo h ⟨rfl, rfl, rfl, Nat.le_refl _, fun _ _ => rfl⟩
theorem TL.new (W : World) (t : St) (x y : Int) : Hid (TL (W.alloc (.cells #[.int .i64 t.f, .int .i64 t.b, .int .i64 t.s, .bool t.set, .int .i64 t.has, .int .i64 x, .int .i64 y] 105)) W.heap.size t x y) := Lib.hid ⟨heap_alloc_new W _⟩
theorem TL.new1 (W : World) (o : Obj) (t : St) (x y : Int) : Hid (TL ((W.alloc o).alloc (.cells #[.int .i64 t.f, .int .i64 t.b, .int .i64 t.s, .bool t.set, .int .i64 t.has, .int .i64 x, .int .i64 y] 105)) (W.heap.size + 1) t x y) := Lib.hid ⟨by
  have e : W.heap.size + 1 = (W.alloc o).heap.size := by simp
  rw [e]
  exact heap_alloc_new _ _⟩
theorem TL.new2 (W : World) (o o' : Obj) (t : St) (x y : Int) : Hid (TL (((W.alloc o).alloc o').alloc (.cells #[.int .i64 t.f, .int .i64 t.b, .int .i64 t.s, .bool t.set, .int .i64 t.has, .int .i64 x, .int .i64 y] 105)) (W.heap.size + 1 + 1) t x y) := Lib.hid ⟨by
  have e : W.heap.size + 1 + 1 = ((W.alloc o).alloc o').heap.size := by simp
  rw [e]
  exact heap_alloc_new _ _⟩
theorem TL.at {W : World} {g : Nat} {t : St} {x y : Int} (h : Hid (TL W g t x y)) : W.cell? ⟨g, 0, none⟩ = some (.int .i64 t.f) ∧ W.cell? ⟨g, 1, none⟩ = some (.int .i64 t.b) ∧ W.cell? ⟨g, 2, none⟩ = some (.int .i64 t.s) ∧ W.cell? ⟨g, 3, none⟩ = some (.bool t.set) ∧ W.cell? ⟨g, 4, none⟩ = some (.int .i64 t.has) ∧ W.cell? ⟨g, 5, none⟩ = some (.int .i64 x) ∧ W.cell? ⟨g, 6, none⟩ = some (.int .i64 y) := by
  have h := h.out.blk
  exact ⟨by simp [World.cell?, h], by simp [World.cell?, h], by simp [World.cell?, h], by simp [World.cell?, h], by simp [World.cell?, h], by simp [World.cell?, h], by simp [World.cell?, h]⟩
theorem TL.fz {W : World} {g : Nat} {t : St} {x y : Int} (h : Hid (TL W g t x y)) : W.frozen? ⟨g, 0, none⟩ = false ∧ W.frozen? ⟨g, 1, none⟩ = false ∧ W.frozen? ⟨g, 2, none⟩ = false ∧ W.frozen? ⟨g, 3, none⟩ = false ∧ W.frozen? ⟨g, 4, none⟩ = false ∧ W.frozen? ⟨g, 5, none⟩ = false ∧ W.frozen? ⟨g, 6, none⟩ = false := by
  have h := h.out.blk
  exact ⟨by simp [World.frozen?, h], by simp [World.frozen?, h], by simp [World.frozen?, h], by simp [World.frozen?, h], by simp [World.frozen?, h], by simp [World.frozen?, h], by simp [World.frozen?, h]⟩
theorem TL.set5 {W : World} {g : Nat} {t : St} {x y : Int} (h : Hid (TL W g t x y)) (x' : Int) : Hid (TL (W.setCell ⟨g, 5, none⟩ (.int .i64 x')) g t x' y) := Lib.hid ⟨by simpa using blk_setCell h.out.blk 5 (.int .i64 x')⟩
theorem TL.set6 {W : World} {g : Nat} {t : St} {x y : Int} (h : Hid (TL W g t x y)) (y' : Int) : Hid (TL (W.setCell ⟨g, 6, none⟩ (.int .i64 y')) g t x y') := Lib.hid ⟨by simpa using blk_setCell h.out.blk 6 (.int .i64 y')⟩
theorem TL.put {W : World} {g : Nat} {t t' : St} {x y x' y' : Int} (h : Hid (TL W g t x y)) : Hid (TL (((((((W.setCell ⟨g, 0, none⟩ (.int .i64 t'.f)).setCell ⟨g, 1, none⟩ (.int .i64 t'.b)).setCell ⟨g, 2, none⟩ (.int .i64 t'.s)).setCell ⟨g, 3, none⟩ (.bool t'.set)).setCell ⟨g, 4, none⟩ (.int .i64 t'.has)).setCell ⟨g, 5, none⟩ (.int .i64 x')).setCell ⟨g, 6, none⟩ (.int .i64 y')) g t' x' y') :=
  Lib.hid ⟨by simpa using blk_setCell (blk_setCell (blk_setCell (blk_setCell (blk_setCell (blk_setCell (blk_setCell h.out.blk 0 (.int .i64 t'.f)) 1 (.int .i64 t'.b)) 2 (.int .i64 t'.s)) 3 (.bool t'.set)) 4 (.int .i64 t'.has)) 5 (.int .i64 x')) 6 (.int .i64 y')⟩
theorem BL.put7 {w W : World} (h : Hid (BL w W)) {g : Nat} (hg : w.heap.size ≤ g) (a b c d e f k : Value) : Hid (BL w (((((((W.setCell ⟨g, 0, none⟩ a).setCell ⟨g, 1, none⟩ b).setCell ⟨g, 2, none⟩ c).setCell ⟨g, 3, none⟩ d).setCell ⟨g, 4, none⟩ e).setCell ⟨g, 5, none⟩ f).setCell ⟨g, 6, none⟩ k)) :=
  Lib.hid ⟨((((((h.out.b.setCell (p := ⟨g, 0, none⟩) hg a).setCell (p := ⟨g, 1, none⟩) hg b).setCell (p := ⟨g, 2, none⟩) hg c).setCell (p := ⟨g, 3, none⟩) hg d).setCell (p := ⟨g, 4, none⟩) hg e).setCell (p := ⟨g, 5, none⟩) hg f).setCell (p := ⟨g, 6, none⟩) hg k⟩
theorem TL.far {W : World} {g g' i : Nat} {t : St} {x y : Int} (h : Hid (TL W g t x y)) (hne : g ≠ g') (v : Value) : Hid (TL (W.setCell ⟨g', i, none⟩ v) g t x y) :=
  Lib.hid ⟨(Below.heap_setCell _ _ _ _ (fun e => hne e)).trans h.out.blk⟩

set_option maxRecDepth 100000 in
set_option maxHeartbeats 16000000 in
theorem throwT (l : Lw) (s : Sd) (k : Int) (w : World) (ok : l.Ok) (v : Vd l s) (hf : s.f ≠ l.fr) (k0 : 0 ≤ k) (k1 : k ≤ s.s) :
    Calls Tryd.prog 74 #[l.val, tlv l s, .int .i64 k] w fun e w' => e = .returned (.tuple #[tlv l (behS l s k), .int .i64 (cnt l s k * (1 + s.x))]) ∧ Below w.heap.size w w' := by
  have hflt : s.f < l.fr := by have := v.f2; omega
  have hk10 : k ≤ 10 := by have := v.s2; have := ok.p2; omega
  obtain ⟨t, ht⟩ : ∃ t, refS l s = t := ⟨_, rfl⟩
  obtain ⟨s1, hs1⟩ : ∃ s1, behS l s k = s1 := ⟨_, rfl⟩
  obtain ⟨t1, ht1⟩ : ∃ t1, refS l s1 = t1 := ⟨_, rfl⟩
  obtain ⟨c, hc⟩ : ∃ c, cnt l s k = c := ⟨_, rfl⟩
  have hxy := beh_xyT (l := l) (s := s) (k := k) hflt hc
  have hcl := cnt_le ok v (by omega : -1 ≤ k) k1
  have htf : t.f = s.f ∧ t.b = s.b ∧ t.s = s.s := by rw [← ht, refS, if_neg hf]; exact ⟨rfl, rfl, rfl⟩
  have THR := Lib.hid (fun (W : World) => show Calls Tryd.prog 45 #[.agg #[.int .i64 l.fr, .int .i64 l.pn, .int .i64 l.bl, .int .i64 l.tp], .agg #[.int .i64 t.f, .int .i64 t.b, .int .i64 t.s, .bool t.set, .int .i64 t.has], .int .i64 k] W fun e W' =>
      e = .returned (.tuple #[.agg #[.int .i64 t1.f, .int .i64 t1.b, .int .i64 t1.s, .bool t1.set, .int .i64 t1.has], .int .i64 c]) ∧ Below W.heap.size W W' from by
    have h := throw_ref l t k W ok (by have := v.f1; omega) (by have := ok.f2; omega) (by have := v.b1; omega) (by have := v.b2; omega) (by have := v.s1; omega) (by have := v.s2; have := ok.p2; omega) (by omega) hk10
    have e1 : nR l t k = c := by rw [← ht, nr_cnt ok hf (by omega), hc]
    have e2 : thrR l t c = t1 := by rw [← ht, ← hc, thr_eq ok v hflt (by omega) k1, hs1, ht1]
    rw [e1, e2] at h
    exact h)
  unfold tlv
  rw [ht, hs1, ht1, hc]
  rw [hs1] at hxy
  rw [hc] at hcl
  obtain ⟨q1, q2, q3⟩ := htf
  obtain ⟨x, hx⟩ : ∃ x, s.x = x := ⟨_, rfl⟩
  obtain ⟨y, hy⟩ : ∃ y, s.y = y := ⟨_, rfl⟩
  have x1 := v.x1
  have x2 := v.x2
  have y1 := v.y1
  have y2 := v.y2
  have tb0 := v.b1
  have ss1 := v.s2
  have pp := ok.p2
  have ff1 := ok.f1
  have ff2 := ok.f2
  rw [← q1, ← q2, ← q3, hy] at hxy
  rw [← q3] at hcl ss1
  rw [← q2] at tb0
  rw [hx] at x1 x2 ⊢
  rw [hy] at y1 y2 ⊢
  have hm1 : 0 ≤ c * (1 + x) := Int.mul_nonneg hcl.1 (by omega)
  have hm2 : c * (1 + x) ≤ 30 := by
    have : c * (1 + x) ≤ 10 * 3 := Int.mul_le_mul (by omega) (by omega) (by omega) (by omega)
    omega
  have w1e : IntKind.i64.wrap (1 + x) = 1 + x := IntWalk.i64_in _ (by omega)
  have w2e : IntKind.i64.wrap (c * (1 + x)) = c * (1 + x) := IntWalk.i64_in _ (by omega)
  have w3e : IntKind.i64.wrap (y + 1) = y + 1 := IntWalk.i64_in _ (by omega)
  have w4e : IntKind.i64.wrap (l.fr - 1) = l.fr - 1 := IntWalk.i64_in _ (by omega)
  obtain ⟨X1, hX1⟩ : ∃ X1, s1.x = X1 := ⟨_, rfl⟩
  obtain ⟨Y1, hY1⟩ : ∃ Y1, s1.y = Y1 := ⟨_, rfl⟩
  rw [hX1, hY1] at hxy ⊢
  have HXY := Lib.hid hxy
  clear hxy hX1 hY1 hs1 ht1 hc ht q1 q2 q3 hx hy ok v hf k0 k1 hk10 hflt hm1 hm2
  unfold Lw.val
  go_enter Tryd.func74, Tryd.ntmps74
  go_upto_region 1 with fail
  have A1 := WL.al (WL.al (WL.start w l) (.cells #[.int .i64 t.f, .int .i64 t.b, .int .i64 t.s, .bool t.set, .int .i64 t.has, .int .i64 x, .int .i64 y] 105)) (.cells #[.int .i64 0, .int .i64 0, .int .i64 0, .bool false, .int .i64 0, .int .i64 0, .int .i64 0] 105)
  have T1 := TL.lo (TL.new1 w (.cells #[.int .i64 l.fr, .int .i64 l.pn, .int .i64 l.bl, .int .i64 l.tp] 23) t x y) (below_al _ (.cells #[.int .i64 0, .int .i64 0, .int .i64 0, .bool false, .int .i64 0, .int .i64 0, .int .i64 0] 105))
  have Z1 := TL.new2 w (.cells #[.int .i64 l.fr, .int .i64 l.pn, .int .i64 l.bl, .int .i64 l.tp] 23) (.cells #[.int .i64 t.f, .int .i64 t.b, .int .i64 t.s, .bool t.set, .int .i64 t.has, .int .i64 x, .int .i64 y] 105) ⟨0, 0, 0, false, 0⟩ 0 0
  generalize World.alloc (World.alloc (World.alloc w _) _) _ = w1 at A1 T1 Z1 ⊢
  obtain ⟨k0, k1, k2, k3⟩ := WL.at A1
  obtain ⟨d0, d1, d2, d3, d4, d5, d6⟩ := TL.at T1
  go_wp2_with fail
  refine (THR.out w1).mono ?_
  rintro e w2 ⟨rfl, hb⟩
  have hal := below_al w2 (.cells #[.int .i64 t1.f, .int .i64 t1.b, .int .i64 t1.s, .bool t1.set, .int .i64 t1.has] 36)
  have A3 := WL.lo (WL.lo A1 hb) hal
  have T3 := TL.lo (TL.lo T1 hb) hal
  have Z3 := TL.lo (TL.lo Z1 hb) hal
  have S3 : Hid ((w2.alloc (.cells #[.int .i64 t1.f, .int .i64 t1.b, .int .i64 t1.s, .bool t1.set, .int .i64 t1.has] 36)).heap[w2.heap.size]? = some (.cells #[.int .i64 t1.f, .int .i64 t1.b, .int .i64 t1.s, .bool t1.set, .int .i64 t1.has] 36 (0, 0))) := Lib.hid (heap_alloc_new w2 _)
  clear hb hal A1 T1 Z1 k0 k1 k2 k3 d0 d1 d2 d3 d4 d5 d6 THR
  go_upto_region 2 with fail
  obtain ⟨b5, hb5⟩ : ∃ b5, w2.heap.size = b5 := ⟨_, rfl⟩
  rw [hb5] at S3 ⊢
  clear hb5
  generalize World.alloc w2 _ = w3 at A3 T3 Z3 S3 ⊢
  obtain ⟨k0, k1, k2, k3⟩ := WL.at A3
  obtain ⟨d0, d1, d2, d3, d4, d5, d6⟩ := TL.at T3
  obtain ⟨e0, e1, e2, e3, e4⟩ : w3.cell? ⟨b5, 0, none⟩ = some (.int .i64 t1.f) ∧ w3.cell? ⟨b5, 1, none⟩ = some (.int .i64 t1.b) ∧ w3.cell? ⟨b5, 2, none⟩ = some (.int .i64 t1.s) ∧ w3.cell? ⟨b5, 3, none⟩ = some (.bool t1.set) ∧ w3.cell? ⟨b5, 4, none⟩ = some (.int .i64 t1.has) := by
    have h := S3.out
    exact ⟨by simp [World.cell?, h], by simp [World.cell?, h], by simp [World.cell?, h], by simp [World.cell?, h], by simp [World.cell?, h]⟩
  go_upto_region 4 with fail
  have hal := below_al w3 (.cells #[.int .i64 t1.f, .int .i64 t1.b, .int .i64 t1.s, .bool t1.set, .int .i64 t1.has, .int .i64 y, .int .i64 0] 105)
  have A4 := WL.lo A3 hal
  have T4 := TL.lo T3 hal
  have Z4 := TL.lo Z3 hal
  have O4 := TL.new w3 t1 y 0
  have hzb : w.heap.size + 1 + 1 ≠ w3.heap.size := by have := lt_of_block Z3.out.blk; omega
  have hbs : w.heap.size ≤ w3.heap.size := A3.out.bl.size
  clear hal A3 T3 Z3 S3 k0 k1 k2 k3 d0 d1 d2 d3 d4 d5 d6 e0 e1 e2 e3 e4
  obtain ⟨b7, hb7⟩ : ∃ b7, w3.heap.size = b7 := ⟨_, rfl⟩
  rw [hb7] at O4 hzb hbs ⊢
  clear hb7
  generalize World.alloc w3 _ = w4 at A4 T4 Z4 O4 ⊢
  obtain ⟨k0, k1, k2, k3⟩ := WL.at A4
  obtain ⟨d0, d1, d2, d3, d4, d5, d6⟩ := TL.at T4
  obtain ⟨o0, o1, o2, o3, o4, o5, o6⟩ := TL.at O4
  obtain ⟨p0, p1, p2, p3, p4, p5, p6⟩ := TL.fz O4
  have BB := Lib.hid A4.out.bl
  by_cases c1 : t.f < l.fr - 1
  · by_cases c2 : t.s = c
    · have c2b : (t.s == c) = true := by simpa using c2
      have C2 := Lib.hid c2
      clear c2
      by_cases c3 : t.b = 0
      · have c3b : (t.b == 0) = true := by simpa using c3
        have c4b : (t.b == 1) = false := by simp; omega
        have hX : X1 = y + 1 := by rw [HXY.out.1, if_pos ⟨c1, C2.out, by omega⟩]
        have hY : Y1 = 1 := by rw [HXY.out.2, if_pos ⟨c1, C2.out, by omega⟩]
        have HX := Lib.hid hX
        have HY := Lib.hid hY
        clear hX hY c3
        go_upto_region 10 with fail
        have B5 : Hid (Below w.heap.size w _) := Lib.hid ((BB.out.setCell (p := ⟨b7, 5, none⟩) hbs (.int .i64 (y + 1))).setCell (p := ⟨b7, 6, none⟩) hbs (.int .i64 1))
        have O5 := TL.set6 (TL.set5 O4 (y + 1)) 1
        have Z5 := TL.far (i := 6) (TL.far (i := 5) Z4 hzb (.int .i64 (y + 1))) hzb (.int .i64 1)
        clear k0 k1 k2 k3 d0 d1 d2 d3 d4 d5 d6 o0 o1 o2 o3 o4 o5 o6 p0 p1 p2 p3 p4 p5 p6 A4 T4 O4 Z4 BB
        generalize World.setCell _ _ _ = w5 at B5 O5 Z5 ⊢
        rw [← HX.out, ← HY.out] at O5
        obtain ⟨o0, o1, o2, o3, o4, o5, o6⟩ := TL.at O5
        obtain ⟨d0, d1, d2, d3, d4, d5, d6⟩ := TL.at Z5
        obtain ⟨p0, p1, p2, p3, p4, p5, p6⟩ := TL.fz Z5
        go_wp2_with fail
        have RP := TL.put (t' := t1) (x' := X1) (y' := Y1) Z5
        have BP := Lib.hid (BL.put7 (w := w) (Lib.hid ⟨B5.out⟩) (g := w.heap.size + 1 + 1) (by omega) (.int .i64 t1.f) (.int .i64 t1.b) (.int .i64 t1.s) (.bool t1.set) (.int .i64 t1.has) (.int .i64 X1) (.int .i64 Y1)).out.b
        clear o0 o1 o2 o3 o4 o5 o6 d0 d1 d2 d3 d4 d5 d6 p0 p1 p2 p3 p4 p5 p6 Z5 O5 B5
        generalize World.setCell _ _ _ = W9 at RP BP ⊢
        obtain ⟨c0, c1, c2, c3, c4, c5, c6⟩ := TL.at RP
        refine bodyPost_ret (v := .tuple #[.agg #[.int .i64 t1.f, .int .i64 t1.b, .int .i64 t1.s, .bool t1.set, .int .i64 t1.has, .int .i64 X1, .int .i64 Y1], .int .i64 (c * (1 + x))]) (by simp [results, Tryd.results74, go_sem, c0, c1, c2, c3, c4, c5, c6]) rfl ?_
        exact ⟨rfl, BP.out⟩
      · have c3b : (t.b == 0) = false := by simpa using c3
        by_cases c4 : t.b = 1
        · have c4b : (t.b == 1) = true := by simpa using c4
          have hX : X1 = y + 1 := by rw [HXY.out.1, if_pos ⟨c1, C2.out, by omega⟩]
          have hY : Y1 = 0 := by rw [HXY.out.2, if_neg (fun h => by have := h.2.2; omega)]
          have HX := Lib.hid hX
          have HY := Lib.hid hY
          clear hX hY c3 c4
          go_upto_region 10 with fail
          have B5 : Hid (Below w.heap.size w _) := Lib.hid (BB.out.setCell (p := ⟨b7, 5, none⟩) hbs (.int .i64 (y + 1)))
          have O5 := TL.set5 O4 (y + 1)
          have Z5 := TL.far (i := 5) Z4 hzb (.int .i64 (y + 1))
          clear k0 k1 k2 k3 d0 d1 d2 d3 d4 d5 d6 o0 o1 o2 o3 o4 o5 o6 p0 p1 p2 p3 p4 p5 p6 A4 T4 O4 Z4 BB
          generalize World.setCell _ _ _ = w5 at B5 O5 Z5 ⊢
          rw [← HX.out, ← HY.out] at O5
          obtain ⟨o0, o1, o2, o3, o4, o5, o6⟩ := TL.at O5
          obtain ⟨d0, d1, d2, d3, d4, d5, d6⟩ := TL.at Z5
          obtain ⟨p0, p1, p2, p3, p4, p5, p6⟩ := TL.fz Z5
          go_wp2_with fail
          have RP := TL.put (t' := t1) (x' := X1) (y' := Y1) Z5
          have BP := Lib.hid (BL.put7 (w := w) (Lib.hid ⟨B5.out⟩) (g := w.heap.size + 1 + 1) (by omega) (.int .i64 t1.f) (.int .i64 t1.b) (.int .i64 t1.s) (.bool t1.set) (.int .i64 t1.has) (.int .i64 X1) (.int .i64 Y1)).out.b
          clear o0 o1 o2 o3 o4 o5 o6 d0 d1 d2 d3 d4 d5 d6 p0 p1 p2 p3 p4 p5 p6 Z5 O5 B5
          generalize World.setCell _ _ _ = W9 at RP BP ⊢
          obtain ⟨c0, c1, c2, c3, c4, c5, c6⟩ := TL.at RP
          refine bodyPost_ret (v := .tuple #[.agg #[.int .i64 t1.f, .int .i64 t1.b, .int .i64 t1.s, .bool t1.set, .int .i64 t1.has, .int .i64 X1, .int .i64 Y1], .int .i64 (c * (1 + x))]) (by simp [results, Tryd.results74, go_sem, c0, c1, c2, c3, c4, c5, c6]) rfl ?_
          exact ⟨rfl, BP.out⟩
        · have c4b : (t.b == 1) = false := by simpa using c4
          have hX : X1 = y := by rw [HXY.out.1, if_neg (fun h => by have := h.2.2; omega)]; omega
          have hY : Y1 = 0 := by rw [HXY.out.2, if_neg (fun h => by have := h.2.2; omega)]
          have HX := Lib.hid hX
          have HY := Lib.hid hY
          clear hX hY c3 c4
          go_upto_region 10 with fail
          have B5 : Hid (Below w.heap.size w _) := BB
          have O5 := O4
          have Z5 := Z4
          clear k0 k1 k2 k3 d0 d1 d2 d3 d4 d5 d6 o0 o1 o2 o3 o4 o5 o6 p0 p1 p2 p3 p4 p5 p6 A4 T4 O4 Z4 BB
          rw [← HX.out, ← HY.out] at O5
          obtain ⟨o0, o1, o2, o3, o4, o5, o6⟩ := TL.at O5
          obtain ⟨d0, d1, d2, d3, d4, d5, d6⟩ := TL.at Z5
          obtain ⟨p0, p1, p2, p3, p4, p5, p6⟩ := TL.fz Z5
          go_wp2_with fail
          have RP := TL.put (t' := t1) (x' := X1) (y' := Y1) Z5
          have BP := Lib.hid (BL.put7 (w := w) (Lib.hid ⟨B5.out⟩) (g := w.heap.size + 1 + 1) (by omega) (.int .i64 t1.f) (.int .i64 t1.b) (.int .i64 t1.s) (.bool t1.set) (.int .i64 t1.has) (.int .i64 X1) (.int .i64 Y1)).out.b
          clear o0 o1 o2 o3 o4 o5 o6 d0 d1 d2 d3 d4 d5 d6 p0 p1 p2 p3 p4 p5 p6 Z5 O5 B5
          generalize World.setCell _ _ _ = W9 at RP BP ⊢
          obtain ⟨c0, c1, c2, c3, c4, c5, c6⟩ := TL.at RP
          refine bodyPost_ret (v := .tuple #[.agg #[.int .i64 t1.f, .int .i64 t1.b, .int .i64 t1.s, .bool t1.set, .int .i64 t1.has, .int .i64 X1, .int .i64 Y1], .int .i64 (c * (1 + x))]) (by simp [results, Tryd.results74, go_sem, c0, c1, c2, c3, c4, c5, c6]) rfl ?_
          exact ⟨rfl, BP.out⟩
    · have c2b : (t.s == c) = false := by simpa using c2
      have hX : X1 = y := by rw [HXY.out.1, if_neg (fun h => c2 h.2.1)]; omega
      have hY : Y1 = 0 := by rw [HXY.out.2, if_neg (fun h => c2 h.2.1)]
      have HX := Lib.hid hX
      have HY := Lib.hid hY
      clear hX hY c2
      go_upto_region 10 with fail
      have B5 : Hid (Below w.heap.size w _) := BB
      have O5 := O4
      have Z5 := Z4
      clear k0 k1 k2 k3 d0 d1 d2 d3 d4 d5 d6 o0 o1 o2 o3 o4 o5 o6 p0 p1 p2 p3 p4 p5 p6 A4 T4 O4 Z4 BB
      rw [← HX.out, ← HY.out] at O5
      obtain ⟨o0, o1, o2, o3, o4, o5, o6⟩ := TL.at O5
      obtain ⟨d0, d1, d2, d3, d4, d5, d6⟩ := TL.at Z5
      obtain ⟨p0, p1, p2, p3, p4, p5, p6⟩ := TL.fz Z5
      go_wp2_with fail
      have RP := TL.put (t' := t1) (x' := X1) (y' := Y1) Z5
      have BP := Lib.hid (BL.put7 (w := w) (Lib.hid ⟨B5.out⟩) (g := w.heap.size + 1 + 1) (by omega) (.int .i64 t1.f) (.int .i64 t1.b) (.int .i64 t1.s) (.bool t1.set) (.int .i64 t1.has) (.int .i64 X1) (.int .i64 Y1)).out.b
      clear o0 o1 o2 o3 o4 o5 o6 d0 d1 d2 d3 d4 d5 d6 p0 p1 p2 p3 p4 p5 p6 Z5 O5 B5
      generalize World.setCell _ _ _ = W9 at RP BP ⊢
      obtain ⟨c0, c1, c2, c3, c4, c5, c6⟩ := TL.at RP
      refine bodyPost_ret (v := .tuple #[.agg #[.int .i64 t1.f, .int .i64 t1.b, .int .i64 t1.s, .bool t1.set, .int .i64 t1.has, .int .i64 X1, .int .i64 Y1], .int .i64 (c * (1 + x))]) (by simp [results, Tryd.results74, go_sem, c0, c1, c2, c3, c4, c5, c6]) rfl ?_
      exact ⟨rfl, BP.out⟩
  · have hX : X1 = y := by rw [HXY.out.1, if_neg (fun h => c1 h.1)]; omega
    have hY : Y1 = 0 := by rw [HXY.out.2, if_neg (fun h => c1 h.1)]
    have HX := Lib.hid hX
    have HY := Lib.hid hY
    clear hX hY
    go_upto_region 10 with fail
    have B5 : Hid (Below w.heap.size w _) := BB
    have O5 := O4
    have Z5 := Z4
    clear k0 k1 k2 k3 d0 d1 d2 d3 d4 d5 d6 o0 o1 o2 o3 o4 o5 o6 p0 p1 p2 p3 p4 p5 p6 A4 T4 O4 Z4 BB
    rw [← HX.out, ← HY.out] at O5
    obtain ⟨o0, o1, o2, o3, o4, o5, o6⟩ := TL.at O5
    obtain ⟨d0, d1, d2, d3, d4, d5, d6⟩ := TL.at Z5
    obtain ⟨p0, p1, p2, p3, p4, p5, p6⟩ := TL.fz Z5
    go_wp2_with fail
    have RP := TL.put (t' := t1) (x' := X1) (y' := Y1) Z5
    have BP := Lib.hid (BL.put7 (w := w) (Lib.hid ⟨B5.out⟩) (g := w.heap.size + 1 + 1) (by omega) (.int .i64 t1.f) (.int .i64 t1.b) (.int .i64 t1.s) (.bool t1.set) (.int .i64 t1.has) (.int .i64 X1) (.int .i64 Y1)).out.b
    clear o0 o1 o2 o3 o4 o5 o6 d0 d1 d2 d3 d4 d5 d6 p0 p1 p2 p3 p4 p5 p6 Z5 O5 B5
    generalize World.setCell _ _ _ = W9 at RP BP ⊢
    obtain ⟨c0, c1, c2, c3, c4, c5, c6⟩ := TL.at RP
    refine bodyPost_ret (v := .tuple #[.agg #[.int .i64 t1.f, .int .i64 t1.b, .int .i64 t1.s, .bool t1.set, .int .i64 t1.has, .int .i64 X1, .int .i64 Y1], .int .i64 (c * (1 + x))]) (by simp [results, Tryd.results74, go_sem, c0, c1, c2, c3, c4, c5, c6]) rfl ?_
    exact ⟨rfl, BP.out⟩

end Go.Proofs.YtmjbidnlknmcgaaDoor
