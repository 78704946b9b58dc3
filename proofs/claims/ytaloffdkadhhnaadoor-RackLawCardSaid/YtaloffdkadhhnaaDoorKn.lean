/- The contracts of kind and Kind. -/
import Derived.Test.YtaloffdkadhhnaaDoorIp
set_option linter.unusedVariables false
set_option linter.unusedSimpArgs false
namespace Go.Proofs.YtaloffdkadhhnaaDoor
open Go.RowKit Go.Shelf

attribute [local go_sem] Oper.semAt_some

def kindN (r : Rk) (lv : Nat) : Int := if lv = 0 then 0 else if sizeN lv = 1 then 1 else if pieceB r lv then 2 else if lv.testBit 0 then 4 else 3

set_option maxRecDepth 100000 in
set_option maxHeartbeats 4000000 in
theorem kind_any (r : Rk) (lv : Nat) (w : World) (ok : r.Ok) (hlv : lv < 65536) (hp : ∀ x ∈ els lv, x < pinsN r.rows) (hTab : TabOK w) :
    Calls Tryd.prog 56 #[r.val, .int .u16 (lv : Nat)] w fun e w' => e = .returned (.int .u8 (kindN r lv)) ∧ Below w.heap.size w w' := by
  have SZ := Lib.hid (fun W => size_any lv W hlv)
  have PI := Lib.hid (fun (h0 : lv ≠ 0) W (hb : Below w.heap.size w W) => piece_any r lv W ok hlv h0 hp (hTab.lo hb))
  have HB := Lib.hid (fun W => has_bit lv 0 W hlv (by omega) (by omega))
  have HK : Hid (kindN r lv = if lv = 0 then 0 else if sizeN lv = 1 then 1 else if pieceB r lv then 2 else if lv.testBit 0 then 4 else 3) := Lib.hid rfl
  generalize kindN r lv = RES at *
  generalize pieceB r lv = PB at *
  generalize sizeN lv = SN at *
  simp only [Int.toNat_zero] at HB
  generalize lv.testBit 0 = TB at *
  obtain ⟨V, hV⟩ : ∃ V, Hid (V = r.val) := ⟨_, Lib.hid rfl⟩
  have B0 := Lib.hid (below_al w (.cells (rCells r) 32))
  have C0 := Lib.hid (fun i v (h : (rCells r)[i]? = some v) => new_cell w (t := 32) h)
  have Z0 := Lib.hid (show w.heap.size < (w.alloc (.cells (rCells r) 32)).heap.size by simp)
  unfold rCells at B0 C0 Z0
  unfold Rk.val at PI ⊢
  clear hTab hp hlv ok hV
  go_enter Tryd.func56, Tryd.ntmps56
  by_cases h0 : lv = 0
  · have HR := Lib.hid (show RES = 0 by rw [HK.out, if_pos h0])
    have hz : ((lv : Int) == 0) = true := by subst h0; rfl
    clear h0
    go_wp2_with fail
    refine bodyPost_ret (results_tmp rfl _ _ _) rfl ?_
    exact ⟨by rw [HR.out]; rfl, B0.out⟩
  · have hz : ((lv : Int) == 0) = false := by simpa using h0
    have H0 := Lib.hid h0
    clear h0
    go_wp2_with fail
    refine (SZ.out _).mono ?_
    rintro e w1 ⟨rfl, n, rfl⟩
    have B1 := Lib.hid (Below.drewN' B0.out n)
    have k0 : ((w.alloc (.cells #[.int .i64 r.rows, .int .i64 r.mid, .int .i64 r.gap, .int .i64 r.reach, .slice r.la r.ls.length r.lc] 32)).drewN n).cell? ⟨w.heap.size, 0, none⟩ = some (.int .i64 r.rows) := C0.out 0 _ rfl
    have k1 : ((w.alloc (.cells #[.int .i64 r.rows, .int .i64 r.mid, .int .i64 r.gap, .int .i64 r.reach, .slice r.la r.ls.length r.lc] 32)).drewN n).cell? ⟨w.heap.size, 1, none⟩ = some (.int .i64 r.mid) := C0.out 1 _ rfl
    have k2 : ((w.alloc (.cells #[.int .i64 r.rows, .int .i64 r.mid, .int .i64 r.gap, .int .i64 r.reach, .slice r.la r.ls.length r.lc] 32)).drewN n).cell? ⟨w.heap.size, 2, none⟩ = some (.int .i64 r.gap) := C0.out 2 _ rfl
    have k3 : ((w.alloc (.cells #[.int .i64 r.rows, .int .i64 r.mid, .int .i64 r.gap, .int .i64 r.reach, .slice r.la r.ls.length r.lc] 32)).drewN n).cell? ⟨w.heap.size, 3, none⟩ = some (.int .i64 r.reach) := C0.out 3 _ rfl
    have k4 : ((w.alloc (.cells #[.int .i64 r.rows, .int .i64 r.mid, .int .i64 r.gap, .int .i64 r.reach, .slice r.la r.ls.length r.lc] 32)).drewN n).cell? ⟨w.heap.size, 4, none⟩ = some (.slice r.la r.ls.length r.lc) := C0.out 4 _ rfl
    generalize (w.alloc _).drewN n = W1 at *
    by_cases h1 : SN = 1
    · have HR := Lib.hid (show RES = 1 by rw [HK.out, if_neg H0.out, if_pos h1])
      have hs : ((SN : Int) == 1) = true := by subst h1; rfl
      clear h1
      go_wp2_with fail
      refine bodyPost_ret (results_tmp rfl _ _ _) rfl ?_
      exact ⟨by rw [HR.out]; rfl, B1.out⟩
    · have hs : ((SN : Int) == 1) = false := by simp; omega
      have H1 := Lib.hid h1
      clear h1
      go_wp2_with fail
      refine (PI.out H0.out _ B1.out).mono ?_
      rintro e w2 ⟨rfl, hb⟩
      have B2 := Lib.hid (below_go B1.out hb)
      clear hb k0 k1 k2 k3 k4
      cases PB
      · go_wp2_with fail
        refine (HB.out _).mono ?_
        rintro e w3 ⟨rfl, rfl⟩
        cases TB
        · have HR := Lib.hid (show RES = 3 by rw [HK.out, if_neg H0.out, if_neg H1.out]; rfl)
          go_wp2_with fail
          refine bodyPost_ret (results_tmp rfl _ _ _) rfl ?_
          exact ⟨by rw [HR.out]; rfl, B2.out⟩
        · have HR := Lib.hid (show RES = 4 by rw [HK.out, if_neg H0.out, if_neg H1.out]; rfl)
          go_wp2_with fail
          refine bodyPost_ret (results_tmp rfl _ _ _) rfl ?_
          exact ⟨by rw [HR.out]; rfl, B2.out⟩
      · have HR := Lib.hid (show RES = 2 by rw [HK.out, if_neg H0.out, if_neg H1.out]; rfl)
        go_wp2_with fail
        refine bodyPost_ret (results_tmp rfl _ _ _) rfl ?_
        exact ⟨by rw [HR.out]; rfl, B2.out⟩

end Go.Proofs.YtaloffdkadhhnaaDoor
