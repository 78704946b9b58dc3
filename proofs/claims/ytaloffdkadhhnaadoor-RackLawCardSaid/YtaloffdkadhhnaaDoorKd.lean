/- The contract of Kind. -/
import Derived.Test.YtaloffdkadhhnaaDoorKn
import Derived.Test.YtaloffdkadhhnaaDoorCw
set_option linter.unusedVariables false
set_option linter.unusedSimpArgs false
namespace Go.Proofs.YtaloffdkadhhnaaDoor
open Go.RowKit Go.Shelf

attribute [local go_sem] Oper.semAt_some

def kndN (r : Rk) (xs : List Int) : Int := if chkE r xs = 0 then kindN r (setN xs) else 0

set_option maxRecDepth 100000 in
set_option maxHeartbeats 4000000 in
theorem Kind_any (r : Rk) (xs : List Int) (a : Option Addr) (c : Nat) (w : World) (hL : LinksAt w r.la r.ls) (hn : r.ls.length ≤ 1000) (hX : IntsAt w a xs) (hm : xs.length ≤ 1000) (hT : TabOK w) :
    Calls Tryd.prog 19 #[r.val, .slice a xs.length c] w fun e w' => e = .returned (.tuple #[.int .u8 (kndN r xs), .int .i64 (chkE r xs)]) ∧ Below w.heap.size w w' := by
  have CR := Lib.hid (fun W (hb : Below w.heap.size w W) => check_any r xs a c W (hL.lo hb) hn (hX.lo hb) hm)
  have HR : Hid (kndN r xs = if chkE r xs = 0 then kindN r (setN xs) else 0) := Lib.hid rfl
  have hNc : chkN r xs = if chkE r xs = 0 then setN xs else 0 := rfl
  generalize kndN r xs = RES at *
  have B0 := Lib.hid (below_al w (.cells (rCells r) 32))
  have R0 : Hid (Blk (w.alloc (.cells (rCells r) 32)) w.heap.size (rCells r) 32) := Lib.hid (Blk.new w _ _)
  by_cases hE : chkE r xs = 0
  · have hfl := (chk_ok hE).1
    obtain ⟨hs1, hs2, _⟩ := chk_set hE
    have hok := (faultN_ok hfl).1
    rw [if_pos hE] at hNc
    rw [hNc, hE] at CR
    rw [hE]
    have HR2 : Hid (RES = kindN r (setN xs)) := Lib.hid (by rw [HR.out, if_pos hE])
    have KI := Lib.hid (fun W (hb : Below w.heap.size w W) => kind_any r (setN xs) W hok hs1 hs2 (hT.lo hb))
    clear HR hNc hE hfl hok hL hX hm hT hs2
    generalize kindN r (setN xs) = KN at *
    generalize setN xs = St at *
    unfold rCells at B0 R0
    unfold Rk.val at CR KI
    unfold Rk.val
    go_enter Tryd.func19, Tryd.ntmps19
    go_wp2_with fail
    refine (CR.out _ B0.out).mono ?_
    rintro e w1 ⟨rfl, hb⟩
    have B1 := Lib.hid (below_go B0.out hb)
    have R1 := Lib.hid (Blk.alt R0.out (Alt.of_below (p := fun _ => False) hb (fun k hk h => by omega)) id)
    clear hb R0 CR
    have r0 : w1.cell? ⟨w.heap.size, 0, none⟩ = some (.int .i64 r.rows) := R1.out.cell 0 rfl
    have r1 : w1.cell? ⟨w.heap.size, 1, none⟩ = some (.int .i64 r.mid) := R1.out.cell 1 rfl
    have r2 : w1.cell? ⟨w.heap.size, 2, none⟩ = some (.int .i64 r.gap) := R1.out.cell 2 rfl
    have r3 : w1.cell? ⟨w.heap.size, 3, none⟩ = some (.int .i64 r.reach) := R1.out.cell 3 rfl
    have r4 : w1.cell? ⟨w.heap.size, 4, none⟩ = some (.slice r.la r.ls.length r.lc) := R1.out.cell 4 rfl
    go_wp2_with fail
    refine (KI.out _ B1.out).mono ?_
    rintro e w2 ⟨rfl, hb⟩
    have B2 := Lib.hid (below_go B1.out hb)
    clear hb r0 r1 r2 r3 r4
    go_wp2_with fail
    refine bodyPost_ret (v := .tuple #[.int .u8 KN, .int .i64 0]) (by simp [results, Tryd.results19, go_sem]) rfl ⟨by rw [HR2.out], B2.out⟩
  · have hE' : (chkE r xs == 0) = false := by simpa using hE
    have HR2 := Lib.hid (show RES = 0 from by rw [HR.out, if_neg hE])
    rw [if_neg hE] at hNc
    rw [hNc] at CR
    generalize chkE r xs = E at *
    clear HR hNc hE hL hX hm hT
    unfold rCells at B0 R0
    unfold Rk.val at CR
    unfold Rk.val
    go_enter Tryd.func19, Tryd.ntmps19
    go_wp2_with fail
    refine (CR.out _ B0.out).mono ?_
    rintro e w1 ⟨rfl, hb⟩
    have B1 := Lib.hid (below_go B0.out hb)
    clear hb R0 CR
    go_wp2_with fail
    refine bodyPost_ret (v := .tuple #[.int .u8 0, .int .i64 E]) (by simp [results, Tryd.results19, go_sem]) rfl ⟨by rw [HR2.out], B1.out⟩

end Go.Proofs.YtaloffdkadhhnaaDoor
