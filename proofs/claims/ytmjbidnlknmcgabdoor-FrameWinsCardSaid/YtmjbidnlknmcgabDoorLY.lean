/- The contract of the span of a set. -/
import Derived.Test.YtmjbidnlknmcgabDoorLX
import Derived.Test.YtmjbidnlknmcgabDoorLT
import Derived.Laws.EntriesVeiled
set_option linter.unusedVariables false
set_option linter.unusedSimpArgs false
namespace Go.Proofs.YtmjbidnlknmcgabDoor
open Go.RowKit

structure SpI (w W : World) (g : Nat → Nat) : Prop where
  bx : T5 W w.heap.size (fun i => ((g i : Nat) : Int))
  rr : W.heap[w.heap.size + 1]? = some (.cells #[.int .i64 0, .int .i64 0] 48 (0, 0))
  fn : W.heap[w.heap.size + 2]? = some (.cells #[.func (.func 53) #[] #[], .func (.func 54) #[] #[]] 112 (0, 0))
  tab : TabOK W
  bl : Below w.heap.size w W

/-- The cells that the region reads. -/
structure SpC (w W : World) (g : Nat → Nat) : Prop where
  f0 : W.cell? ⟨w.heap.size + 1 + 1, 0, none⟩ = some (.func (.func 53) #[] #[])
  f1 : W.cell? ⟨w.heap.size + 1 + 1, 1, none⟩ = some (.func (.func 54) #[] #[])
  t0 : W.cell? ⟨w.heap.size, 0, none⟩ = some (.int .u64 ((g 0 : Nat) : Int))
  t1 : W.cell? ⟨w.heap.size, 1, none⟩ = some (.int .u64 ((g 1 : Nat) : Int))
  t2 : W.cell? ⟨w.heap.size, 2, none⟩ = some (.int .u64 ((g 2 : Nat) : Int))
  t3 : W.cell? ⟨w.heap.size, 3, none⟩ = some (.int .u64 ((g 3 : Nat) : Int))
  t4 : W.cell? ⟨w.heap.size, 4, none⟩ = some (.int .u64 ((g 4 : Nat) : Int))
  q0 : W.frozen? ⟨w.heap.size + 1, 0, none⟩ = false
  q1 : W.frozen? ⟨w.heap.size + 1, 1, none⟩ = false
  r0 : W.cell? ⟨w.heap.size + 1, 0, none⟩ = some (.int .i64 0)
  r1 : W.cell? ⟨w.heap.size + 1, 1, none⟩ = some (.int .i64 0)

theorem SpI.cells {w W : World} {g : Nat → Nat} (h : SpI w W g) : SpC w W g := by
  have hf := h.fn
  have hr := h.rr
  exact ⟨by simp [World.cell?, hf], by simp [World.cell?, hf], h.bx.cell 0 (by omega), h.bx.cell 1 (by omega), h.bx.cell 2 (by omega), h.bx.cell 3 (by omega), h.bx.cell 4 (by omega), by simp [World.frozen?, hr], by simp [World.frozen?, hr], by simp [World.cell?, hr], by simp [World.cell?, hr]⟩

theorem SpI.step {w W W' : World} {g : Nat → Nat} (h : SpI w W g) (hb : Below W.heap.size W W') : SpI w W' g :=
  ⟨⟨(hb.block _ (lt_of_block h.bx.blk)).trans h.bx.blk⟩, (hb.block _ (lt_of_block h.rr)).trans h.rr, (hb.block _ (lt_of_block h.fn)).trans h.fn, h.tab.below hb h.tab.pos, h.bl.trans (hb.mono h.bl.size)⟩

theorem least_sp {w W : World} {g : Nat → Nat} (hg : ∀ i, g i < 2 ^ 64) (h : Hid (SpI w W g)) :
    Calls Tryd.prog 53 #[.agg #[.int .u64 ((g 0 : Nat) : Int), .int .u64 ((g 1 : Nat) : Int), .int .u64 ((g 2 : Nat) : Int), .int .u64 ((g 3 : Nat) : Int), .int .u64 ((g 4 : Nat) : Int)]] W fun e W' =>
      e = .returned (.int .i64 ((loW g : Nat) : Int)) ∧ Hid (SpI w W' g) ∧ SpC w W' g :=
  (least_any g hg W h.out.tab).mono fun _ _ ⟨a, b⟩ => ⟨a, Lib.hid (h.out.step b), (h.out.step b).cells⟩

theorem greatest_sp {w W : World} {g : Nat → Nat} (hg : ∀ i, g i < 2 ^ 64) (h : Hid (SpI w W g)) :
    Calls Tryd.prog 54 #[.agg #[.int .u64 ((g 0 : Nat) : Int), .int .u64 ((g 1 : Nat) : Int), .int .u64 ((g 2 : Nat) : Int), .int .u64 ((g 3 : Nat) : Int), .int .u64 ((g 4 : Nat) : Int)]] W fun e W' =>
      e = .returned (.int .i64 ((hiW g : Nat) : Int)) ∧ Hid (SpI w W' g) ∧ SpC w W' g :=
  (greatest_any g hg W).mono fun _ _ ⟨a, b⟩ => ⟨a, Lib.hid (h.out.step b), (h.out.step b).cells⟩

theorem SpI.start {w : World} {g : Nat → Nat} (hT : TabOK w) :
    SpI w (((w.alloc (.cells #[.int .u64 ((g 0 : Nat) : Int), .int .u64 ((g 1 : Nat) : Int), .int .u64 ((g 2 : Nat) : Int), .int .u64 ((g 3 : Nat) : Int), .int .u64 ((g 4 : Nat) : Int)] 82)).alloc (.cells #[.int .i64 0, .int .i64 0] 48)).alloc (.cells #[.func (.func 53) #[] #[], .func (.func 54) #[] #[]] 112)) g := by
  have hb : Below w.heap.size w (((w.alloc (.cells #[.int .u64 ((g 0 : Nat) : Int), .int .u64 ((g 1 : Nat) : Int), .int .u64 ((g 2 : Nat) : Int), .int .u64 ((g 3 : Nat) : Int), .int .u64 ((g 4 : Nat) : Int)] 82)).alloc (.cells #[.int .i64 0, .int .i64 0] 48)).alloc (.cells #[.func (.func 53) #[] #[], .func (.func 54) #[] #[]] 112)) := (((Below.refl _ _).alloc (Nat.le_refl _) _).alloc (by simp) _).alloc (by simp; omega) _
  refine ⟨T5.alloc (T5.alloc (g := fun i => ((g i : Nat) : Int)) ⟨heap_alloc_new w _⟩ _) _, ?_, ?_, hT.below hb hT.pos, hb⟩
  · refine (Below.heap_alloc _ _ _ (by simp)).trans ?_
    have := heap_alloc_new (w.alloc (.cells #[.int .u64 ((g 0 : Nat) : Int), .int .u64 ((g 1 : Nat) : Int), .int .u64 ((g 2 : Nat) : Int), .int .u64 ((g 3 : Nat) : Int), .int .u64 ((g 4 : Nat) : Int)] 82)) (.cells #[.int .i64 0, .int .i64 0] 48)
    rwa [World.size_alloc] at this
  · have := heap_alloc_new ((w.alloc (.cells #[.int .u64 ((g 0 : Nat) : Int), .int .u64 ((g 1 : Nat) : Int), .int .u64 ((g 2 : Nat) : Int), .int .u64 ((g 3 : Nat) : Int), .int .u64 ((g 4 : Nat) : Int)] 82)).alloc (.cells #[.int .i64 0, .int .i64 0] 48)) (.cells #[.func (.func 53) #[] #[], .func (.func 54) #[] #[]] 112)
    simp only [World.size_alloc] at this
    exact this

set_option maxRecDepth 100000 in
set_option maxHeartbeats 20000000 in
theorem span_any (g : Nat → Nat) (hg : ∀ i, g i < 2 ^ 64) (w : World) (hT : TabOK w) :
    Calls Tryd.prog 35 #[tval fun i => ((g i : Nat) : Int)] w fun e w' => e = .returned (.agg #[.int .i64 ((loW g : Nat) : Int), .int .i64 ((hiW g : Nat) : Int)]) ∧ Below w.heap.size w w' := by
  have S0 := Lib.hid (SpI.start (g := g) hT)
  have HG := Lib.hid hg
  clear hg hT
  unfold tval
  go_enter Tryd.func35, Tryd.ntmps35
  go_wp2_with fail
  generalize World.alloc (World.alloc (World.alloc w _) _) _ = w1 at S0 ⊢
  obtain ⟨f0, f1, t0, t1, t2, t3, t4, q0, q1, r0, r1⟩ := S0.out.cells
  have S1 : Hid (SpI w w1.drew g) := Lib.hid (S0.out.step ⟨rfl, rfl, rfl, Nat.le_refl _, fun _ _ => rfl⟩)
  clear S0
  go_region_with (first | (go_at_call 53; refine (least_sp HG.out (by assumption)).mono ?_; rintro e w' ⟨rfl, hA, ⟨f0, f1, t0, t1, t2, t3, t4, q0, q1, r0, r1⟩⟩) | (go_at_call 54; refine (greatest_sp HG.out (by assumption)).mono ?_; rintro e w' ⟨rfl, hA, ⟨f0, f1, t0, t1, t2, t3, t4, q0, q1, r0, r1⟩⟩))
  all_goals
    have R2 := blk_setCell (blk_setCell hA.out.rr 0 (.int .i64 ((loW g : Nat) : Int))) 1 (.int .i64 ((hiW g : Nat) : Int))
    have L2 := Lib.hid ((hA.out.bl.setCell (p := ⟨w.heap.size + 1, 0, none⟩) (by simp) (.int .i64 ((loW g : Nat) : Int))).setCell (p := ⟨w.heap.size + 1, 1, none⟩) (by simp) (.int .i64 ((hiW g : Nat) : Int)))
    generalize World.setCell (World.setCell _ _ _) _ _ = w9 at R2 L2 ⊢
    have c0 : w9.cell? ⟨w.heap.size + 1, 0, none⟩ = some (.int .i64 ((loW g : Nat) : Int)) := by simp [World.cell?, R2]
    have c1 : w9.cell? ⟨w.heap.size + 1, 1, none⟩ = some (.int .i64 ((hiW g : Nat) : Int)) := by simp [World.cell?, R2]
    clear R2
    go_wp2_with fail
    refine bodyPost_ret (v := .agg #[.int .i64 ((loW g : Nat) : Int), .int .i64 ((hiW g : Nat) : Int)]) (by simp [results, Tryd.results35, go_sem, c0, c1]) rfl ⟨rfl, L2.out⟩

end Go.Proofs.YtmjbidnlknmcgabDoor
