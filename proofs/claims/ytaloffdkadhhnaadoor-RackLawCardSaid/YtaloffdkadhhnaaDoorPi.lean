/- The contracts of the law's fault and pinned. -/
import Derived.Test.YtaloffdkadhhnaaDoorFu
import Derived.Test.YtaloffdkadhhnaaDoorRl
set_option linter.unusedVariables false
set_option linter.unusedSimpArgs false
namespace Go.Proofs.YtaloffdkadhhnaaDoor
open Go.RowKit

attribute [local go_sem] Oper.semAt_some

set_option maxRecDepth 100000 in
set_option maxHeartbeats 4000000 in
theorem lawFault_any (r : Rk) (w : World) (hL : LinksAt w r.la r.ls) (hn : r.ls.length ≤ 1000) :
    Calls Tryd.prog 22 #[r.val] w fun e w' => e = .returned (.int .i64 (faultN r)) ∧ Below w.heap.size w w' := by
  have hF := Lib.hid (fun W (hb : Below w.heap.size w W) => refFault_any r W (hL.lo hb) hn)
  generalize faultN r = R at *
  have B0 := Lib.hid (below_al w (.cells (rCells r) 24))
  unfold rCells at B0
  unfold Rk.val at *
  clear hL
  go_enter Tryd.func22, Tryd.ntmps22
  go_wp2_with fail
  refine (hF.out _ B0.out).mono ?_
  rintro e w1 ⟨rfl, hb⟩
  have B1 := Lib.hid (below_go B0.out hb)
  clear hb
  go_wp2_with fail
  go_returns
  exact ⟨rfl, B1.out⟩

set_option maxRecDepth 100000 in
set_option maxHeartbeats 4000000 in
theorem pinned_any (r : Rk) (xs : List Int) (a : Option Addr) (c : Nat) (w : World) (hL : LinksAt w r.la r.ls) (hn : r.ls.length ≤ 1000) (hX : IntsAt w a xs) (hm : xs.length ≤ 1000) :
    Calls Tryd.prog 26 #[r.val, .slice a xs.length c] w fun e w' => e = .returned (.int .i64 (chkE r xs)) ∧ Below w.heap.size w w' := by
  have hF := Lib.hid (fun W (hb : Below w.heap.size w W) => lawFault_any r W (hL.lo hb) hn)
  have hR := Lib.hid (fun W (h1 : 1 ≤ r.rows) (h2 : r.rows ≤ 4) (hb : Below w.heap.size w W) => rising_any r xs a c W h1 h2 (hX.lo hb) hm)
  have HE : Hid (chkE r xs = if faultN r = 0 then (if hasL r xs then 0 else 2) else faultN r) := Lib.hid rfl
  have HO := Lib.hid (@faultN_ok r)
  generalize chkE r xs = E at *
  generalize hasL r xs = HB at *
  have B0 := Lib.hid (below_al w (.cells (rCells r) 24))
  have R0 : Hid (Blk (w.alloc (.cells (rCells r) 24)) w.heap.size (rCells r) 24) := Lib.hid (Blk.new w _ _)
  by_cases h0 : faultN r = 0
  · obtain ⟨hok, _⟩ := HO.out h0
    have hR := Lib.hid (fun W hb => hR.out W hok.r1 hok.r2 hb)
    rw [h0] at hF
    have HV := Lib.hid (show E = if HB then 0 else 2 by rw [HE.out, if_pos h0])
    clear HO HE h0 hok hL hX
    unfold rCells at B0 R0
    unfold Rk.val at hF hR
    unfold Rk.val
    go_enter Tryd.func26, Tryd.ntmps26
    go_wp2_with fail
    refine (hF.out _ B0.out).mono ?_
    rintro e w1 ⟨rfl, hb⟩
    have B1 := Lib.hid (below_go B0.out hb)
    have R1 := Lib.hid (Blk.alt R0.out (Alt.of_below (p := fun _ => False) hb (fun k hk h => by omega)) id)
    clear hb R0
    have r0 : w1.cell? ⟨w.heap.size, 0, none⟩ = some (.int .i64 r.rows) := R1.out.cell 0 rfl
    have r1 : w1.cell? ⟨w.heap.size, 1, none⟩ = some (.int .i64 r.mid) := R1.out.cell 1 rfl
    have r2 : w1.cell? ⟨w.heap.size, 2, none⟩ = some (.int .i64 r.gap) := R1.out.cell 2 rfl
    have r3 : w1.cell? ⟨w.heap.size, 3, none⟩ = some (.int .i64 r.reach) := R1.out.cell 3 rfl
    have r4 : w1.cell? ⟨w.heap.size, 4, none⟩ = some (.slice r.la r.ls.length r.lc) := R1.out.cell 4 rfl
    go_wp2_with fail
    refine (hR.out _ B1.out).mono ?_
    rintro e w2 ⟨rfl, hb⟩
    have B2 := Lib.hid (below_go B1.out hb)
    clear hb r0 r1 r2 r3 r4
    cases HB
    · go_wp2_with fail
      go_returns
      exact ⟨by rw [HV.out]; rfl, B2.out⟩
    · go_wp2_with fail
      go_returns
      exact ⟨by rw [HV.out]; rfl, B2.out⟩
  · have HV := Lib.hid (show E = faultN r by rw [HE.out, if_neg h0])
    have hE' : (faultN r == 0) = false := by simpa using h0
    generalize faultN r = F at *
    clear HO HE h0 hL hX hR
    unfold rCells at B0 R0
    unfold Rk.val at hF
    unfold Rk.val
    go_enter Tryd.func26, Tryd.ntmps26
    go_wp2_with fail
    refine (hF.out _ B0.out).mono ?_
    rintro e w1 ⟨rfl, hb⟩
    have B1 := Lib.hid (below_go B0.out hb)
    clear hb R0
    go_wp2_with fail
    go_returns
    exact ⟨by rw [HV.out]; first | done | rfl, B1.out⟩

end Go.Proofs.YtaloffdkadhhnaaDoor
