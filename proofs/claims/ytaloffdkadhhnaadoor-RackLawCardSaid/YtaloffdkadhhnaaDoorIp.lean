/- The contracts of inOnePiece, kind and Kind. -/
import Derived.Test.YtaloffdkadhhnaaDoorOp
set_option linter.unusedVariables false
set_option linter.unusedSimpArgs false
namespace Go.Proofs.YtaloffdkadhhnaaDoor
open Go.RowKit Go.Shelf

attribute [local go_sem] Oper.semAt_some

def pieceN (r : Rk) (lv : Nat) : Nat := reachF r lv 16 (Lib.ctz 16 lv : Nat) 0
def pieceB (r : Rk) (lv : Nat) : Bool := decide (pieceN r lv = lv)

set_option maxRecDepth 100000 in
set_option maxHeartbeats 4000000 in
theorem piece_any (r : Rk) (lv : Nat) (w : World) (ok : r.Ok) (hlv : lv < 65536) (h0 : lv ≠ 0) (hp : ∀ x ∈ els lv, x < pinsN r.rows) (hTab : TabOK w) :
    Calls Tryd.prog 90 #[r.val, .int .u16 (lv : Nat)] w fun e w' => e = .returned (.bool (pieceB r lv)) ∧ Below w.heap.size w w' := by
  have tb := tz_bit h0 hlv
  have hct : ((Lib.ctz 16 lv : Nat) : Int) ∈ els lv := (mem_els _ _).2 ⟨by omega, by omega, by simpa using tb.2.1⟩
  have hpc := hp _ hct
  have RA := Lib.hid (fun bR bK bV bG hb W => reach_any r lv bR bK bV bG ok hb hlv 16 (Lib.ctz 16 lv : Nat) 0 W (by omega) hpc (by omega) (by have := @els_len (dif lv 0); omega) (by simpa using tb.2.1) (by simp))
  have FI := Lib.hid (fun W (hT : TabOK W) => first_any lv W h0 hlv hT)
  have HP : Hid (pieceB r lv = decide (pieceN r lv = lv)) := Lib.hid rfl
  have HN : Hid (pieceN r lv = reachF r lv 16 (Lib.ctz 16 lv : Nat) 0) := Lib.hid rfl
  obtain ⟨V, hV⟩ : ∃ V, Hid (V = r.val) := ⟨_, Lib.hid rfl⟩
  obtain ⟨C, hC⟩ : ∃ C, Hid (C = (Lib.ctz 16 lv : Nat)) := ⟨_, Lib.hid rfl⟩
  rw [← hC.out] at FI RA HN
  rw [← hV.out]
  generalize pieceB r lv = PB at *
  generalize pieceN r lv = PN at *
  clear hct hpc tb hp h0 hC
  have B0 : Below w.heap.size w ((((w.alloc (.cells (rCells r) 32)).alloc (.cells #[.int .u16 (lv : Nat)] 100)).alloc (.cells #[.int .u16 0] 100)).alloc (.cells #[.func (.func 105) #[] #[.pointer (some ⟨w.heap.size + 1 + 1, 0, none⟩), .pointer (some ⟨w.heap.size, 0, none⟩), .pointer (some ⟨w.heap.size + 1, 0, none⟩), .pointer (some ⟨w.heap.size + 1 + 1 + 1, 0, none⟩)]] 156)) := below_al2 (below_al2 (below_al2 (below_al w _) _) _) _
  have bK : Blk ((((w.alloc (.cells (rCells r) 32)).alloc (.cells #[.int .u16 (lv : Nat)] 100)).alloc (.cells #[.int .u16 0] 100)).alloc (.cells #[.func (.func 105) #[] #[.pointer (some ⟨w.heap.size + 1 + 1, 0, none⟩), .pointer (some ⟨w.heap.size, 0, none⟩), .pointer (some ⟨w.heap.size + 1, 0, none⟩), .pointer (some ⟨w.heap.size + 1 + 1 + 1, 0, none⟩)]] 156)) w.heap.size (rCells r) 32 :=
    Blk.alt (p := fun _ => False) (Blk.new w _ _) ((((Alt.refl _ _).alloc _).alloc _).alloc _) id
  have bV : Boxed ((((w.alloc (.cells (rCells r) 32)).alloc (.cells #[.int .u16 (lv : Nat)] 100)).alloc (.cells #[.int .u16 0] 100)).alloc (.cells #[.func (.func 105) #[] #[.pointer (some ⟨w.heap.size + 1 + 1, 0, none⟩), .pointer (some ⟨w.heap.size, 0, none⟩), .pointer (some ⟨w.heap.size + 1, 0, none⟩), .pointer (some ⟨w.heap.size + 1 + 1 + 1, 0, none⟩)]] 156)) (w.heap.size + 1) 100 (.int .u16 (lv : Nat)) := by
    have := ((Boxed.new (w.alloc (.cells (rCells r) 32)) 100 (.int .u16 (lv : Nat))).alloc (.cells #[.int .u16 0] 100)).alloc (.cells #[.func (.func 105) #[] #[.pointer (some ⟨w.heap.size + 1 + 1, 0, none⟩), .pointer (some ⟨w.heap.size, 0, none⟩), .pointer (some ⟨w.heap.size + 1, 0, none⟩), .pointer (some ⟨w.heap.size + 1 + 1 + 1, 0, none⟩)]] 156)
    rwa [World.size_alloc] at this
  have bR : Boxed ((((w.alloc (.cells (rCells r) 32)).alloc (.cells #[.int .u16 (lv : Nat)] 100)).alloc (.cells #[.int .u16 0] 100)).alloc (.cells #[.func (.func 105) #[] #[.pointer (some ⟨w.heap.size + 1 + 1, 0, none⟩), .pointer (some ⟨w.heap.size, 0, none⟩), .pointer (some ⟨w.heap.size + 1, 0, none⟩), .pointer (some ⟨w.heap.size + 1 + 1 + 1, 0, none⟩)]] 156)) (w.heap.size + 1 + 1) 100 (.int .u16 0) := by
    have := (Boxed.new ((w.alloc (.cells (rCells r) 32)).alloc (.cells #[.int .u16 (lv : Nat)] 100)) 100 (.int .u16 0)).alloc (.cells #[.func (.func 105) #[] #[.pointer (some ⟨w.heap.size + 1 + 1, 0, none⟩), .pointer (some ⟨w.heap.size, 0, none⟩), .pointer (some ⟨w.heap.size + 1, 0, none⟩), .pointer (some ⟨w.heap.size + 1 + 1 + 1, 0, none⟩)]] 156)
    rwa [World.size_alloc, World.size_alloc] at this
  have bG : Boxed ((((w.alloc (.cells (rCells r) 32)).alloc (.cells #[.int .u16 (lv : Nat)] 100)).alloc (.cells #[.int .u16 0] 100)).alloc (.cells #[.func (.func 105) #[] #[.pointer (some ⟨w.heap.size + 1 + 1, 0, none⟩), .pointer (some ⟨w.heap.size, 0, none⟩), .pointer (some ⟨w.heap.size + 1, 0, none⟩), .pointer (some ⟨w.heap.size + 1 + 1 + 1, 0, none⟩)]] 156)) (w.heap.size + 1 + 1 + 1) 156 (.func (.func 105) #[] #[.pointer (some ⟨w.heap.size + 1 + 1, 0, none⟩), .pointer (some ⟨w.heap.size, 0, none⟩), .pointer (some ⟨w.heap.size + 1, 0, none⟩), .pointer (some ⟨w.heap.size + 1 + 1 + 1, 0, none⟩)]) := by
    have := Boxed.new (((w.alloc (.cells (rCells r) 32)).alloc (.cells #[.int .u16 (lv : Nat)] 100)).alloc (.cells #[.int .u16 0] 100)) 156 (.func (.func 105) #[] #[.pointer (some ⟨w.heap.size + 1 + 1, 0, none⟩), .pointer (some ⟨w.heap.size, 0, none⟩), .pointer (some ⟨w.heap.size + 1, 0, none⟩), .pointer (some ⟨w.heap.size + 1 + 1 + 1, 0, none⟩)])
    rwa [World.size_alloc, World.size_alloc, World.size_alloc] at this
  have hz : ((((w.alloc (.cells (rCells r) 32)).alloc (.cells #[.int .u16 (lv : Nat)] 100)).alloc (.cells #[.int .u16 0] 100)).alloc (.cells #[.func (.func 105) #[] #[.pointer (some ⟨w.heap.size + 1 + 1, 0, none⟩), .pointer (some ⟨w.heap.size, 0, none⟩), .pointer (some ⟨w.heap.size + 1, 0, none⟩), .pointer (some ⟨w.heap.size + 1 + 1 + 1, 0, none⟩)]] 156)).heap.size = w.heap.size + 4 := by simp
  have BB := Lib.hid B0
  have HT := Lib.hid hTab
  have HZ := Lib.hid hz
  have hS := Lib.hid (show RS r lv (w.heap.size + 1 + 1) w.heap.size (w.heap.size + 1) (w.heap.size + 1 + 1 + 1) _ 0 from ⟨bR, bK, bV, bG⟩)
  clear B0 bK bV bR bG hz hTab
  unfold rCells at BB HZ hS
  rw [hV.out]
  unfold Rk.val
  clear hV
  go_enter Tryd.func90, Tryd.ntmps90
  go_wp2_with fail
  generalize (((w.alloc _).alloc _).alloc _).alloc _ = W0 at *
  have cG := hS.out.g.cell
  have cV := hS.out.v.cell
  have HTD : Hid (TabOK W0.drew) := Lib.hid ((HT.out.lo BB.out).alt (Alt.refl (fun _ => False) W0).drew id)
  clear HT hlv ok
  refine wp_region_still_tail 3 (by kernel_rfl) (by kernel_rfl) ?_
  simp only [List.take_succ_cons, List.take_zero, List.drop_succ_cons, List.drop_zero]
  still_step
  still_step
  still_call ((FI.out W0.drew HTD.out).mono fun e w h => ⟨h.1, h.2.symm⟩)
  refine wpStill_nil ?_
  have HS1 : Hid (RS r lv (w.heap.size + 1 + 1) w.heap.size (w.heap.size + 1) (w.heap.size + 1 + 1 + 1) W0.drew 0) := Lib.hid (hS.out.far (Alt.refl (fun _ => False) W0).drew id id id id)
  have FX := Lib.hid (RA.out _ _ _ _ ⟨by omega, by omega, by omega⟩ _ HS1.out)
  go_wp2_with fail
  refine FX.out.mono ?_
  rintro e W1 ⟨rfl, b1, a1⟩
  rw [← HN.out] at b1
  have B1 := Lib.hid (((Alt.of_below (p := fun k => w.heap.size ≤ k) BB.out (fun k _ h => h)).trans (((Alt.refl _ W0).drew).trans (a1.mono fun k _ e => by omega))).below (Nat.le_refl _) (fun k h => h))
  have HE : Hid (((PN : Int) == (lv : Int)) = PB) := Lib.hid (by rw [HP.out, Bool.eq_iff_iff]; simp only [beq_iff_eq, decide_eq_true_eq]; omega)
  have cR1 := b1.cell
  have cV1 := (Boxed.alt HS1.out.v a1 (by omega)).cell
  clear b1 a1 cG cV
  go_wp2_with fail
  go_ret
  exact ⟨congrArg (fun b => Ending.returned (.bool b)) HE.out, B1.out⟩

end Go.Proofs.YtaloffdkadhhnaaDoor
