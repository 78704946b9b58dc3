/- The contract of Read, where the sheet is no game's; and of Read of any sheet, by what it hands back. -/
import Derived.Test.YtmjbidnlknmcgabDoorLWk
set_option linter.unusedVariables false
set_option linter.unusedSimpArgs false
namespace Go.Proofs.YtmjbidnlknmcgabDoor
open Go.RowKit

set_option maxRecDepth 100000 in
set_option maxHeartbeats 4000000 in
theorem rd_bad (l : Lw) (bs : List Int) (a : Option Addr) (c : Nat) (w : World) (hs : BallsAt w a bs) (h : rdE l bs ≠ 0) :
    Calls Tryd.prog 12 #[l.val, .slice a bs.length c] w fun e w' => e = .returned (.tuple #[.agg #[.slice none 0 0, .slice none 0 0, .int .i64 0, .bool false], .int .i64 (rdE l bs)]) ∧ Below w.heap.size w w' := by
  have HR := Lib.hid (fun w hs => read_bad l bs a c w hs h)
  have HS := Lib.hid hs
  unfold Lw.val at *
  have hne : (rdE l bs == 0) = false := by simpa using h
  generalize rdE l bs = er at *
  clear h hs
  go_enter Tryd.func12, Tryd.ntmps12
  go_wp2_with fail
  obtain ⟨hz2, hB1, H50, hc0⟩ := rd_start w l
  generalize World.alloc (World.alloc w _) _ = w1 at hz2 hB1 H50 hc0 ⊢
  have k0 : w1.cell? ⟨w.heap.size, 0, none⟩ = some (.int .i64 l.fr) := by simp [World.cell?, hc0]
  have k1 : w1.cell? ⟨w.heap.size, 1, none⟩ = some (.int .i64 l.pn) := by simp [World.cell?, hc0]
  have k2 : w1.cell? ⟨w.heap.size, 2, none⟩ = some (.int .i64 l.bl) := by simp [World.cell?, hc0]
  have k3 : w1.cell? ⟨w.heap.size, 3, none⟩ = some (.int .i64 l.tp) := by simp [World.cell?, hc0]
  clear hc0
  go_wp2_with fail
  refine (HR.out _ (HS.out.after hB1.out)).mono ?_
  rintro e w2 ⟨rfl, hb2⟩
  unfold zval
  have HB2 := Lib.hid (hB1.out.trans (hb2.mono hB1.out.size))
  have HD2 : Hid (w.heap.size + 1 < w2.heap.size) := Lib.hid (Nat.lt_of_lt_of_le hz2.out hb2.size)
  have h52 := (Below.heap_alloc w2 (.cells #[.int .i64 0, .int .i64 0, .int .i64 0, .int .i64 0, .int .i64 0, .int .i64 0, .int .i64 0, .bool false, .bool false, .int .i64 0, .int .i64 0, .slice none 0 0, .slice none 0 0, .int .i64 0] 74) _ HD2.out).trans ((hb2.block _ hz2.out).trans H50.out)
  have H52 := Lib.hid h52
  have HB3 := Lib.hid (HB2.out.alloc HB2.out.size (.cells #[.int .i64 0, .int .i64 0, .int .i64 0, .int .i64 0, .int .i64 0, .int .i64 0, .int .i64 0, .bool false, .bool false, .int .i64 0, .int .i64 0, .slice none 0 0, .slice none 0 0, .int .i64 0] 74))
  obtain ⟨d0, d1, d2, d3, z0, z1, z2, z3⟩ : RT w (w2.alloc (.cells #[.int .i64 0, .int .i64 0, .int .i64 0, .int .i64 0, .int .i64 0, .int .i64 0, .int .i64 0, .bool false, .bool false, .int .i64 0, .int .i64 0, .slice none 0 0, .slice none 0 0, .int .i64 0] 74)) := by
    constructor <;> first | (simp only [World.cell?, h52]; rfl) | (simp only [World.frozen?, h52]; rfl)
  clear hb2 k0 k1 k2 k3 HR HS hB1 H50 hz2 h52
  go_wp2_with fail
  have a0 := blk_setCell H52.out 0 (.slice none 0 0)
  have a1 := blk_setCell a0 1 (.slice none 0 0)
  have a2 := blk_setCell a1 2 (.int .i64 0)
  have a3 := blk_setCell a2 3 (.bool false)
  have HG := Lib.hid (grown_set (grown_set (grown_set (grown_set (World.grownBy.refl (w2.alloc (.cells #[.int .i64 0, .int .i64 0, .int .i64 0, .int .i64 0, .int .i64 0, .int .i64 0, .int .i64 0, .bool false, .bool false, .int .i64 0, .int .i64 0, .slice none 0 0, .slice none 0 0, .int .i64 0] 74)) (some (w.heap.size + 1))) 0 (.slice none 0 0)) 1 (.slice none 0 0)) 2 (.int .i64 0)) 3 (.bool false))
  clear a0 a1 a2 d0 d1 d2 d3 z0 z1 z2 z3
  generalize World.setCell _ _ _ = W9 at a3 HG ⊢
  have c0 : W9.cell? ⟨w.heap.size + 1, 0, none⟩ = some (.slice none 0 0) := by simp [World.cell?, a3]
  have c1 : W9.cell? ⟨w.heap.size + 1, 1, none⟩ = some (.slice none 0 0) := by simp [World.cell?, a3]
  have c2 : W9.cell? ⟨w.heap.size + 1, 2, none⟩ = some (.int .i64 0) := by simp [World.cell?, a3]
  have c3 : W9.cell? ⟨w.heap.size + 1, 3, none⟩ = some (.bool false) := by simp [World.cell?, a3]
  refine bodyPost_ret (v := .tuple #[.agg #[.slice none 0 0, .slice none 0 0, .int .i64 0, .bool false], .int .i64 er]) (by simp [results, Tryd.results12, go_sem, c0, c1, c2, c3]) rfl ?_
  exact ⟨rfl, HB3.out.grown HG.out HB3.out.size (fun k e => by cases e; exact Nat.le_succ _)⟩

/-- What Read hands back of any sheet. -/
def rdN (l : Lw) (bs : List Int) : Nat := if rdE l bs = 0 then (recS l bs).fs.length else 0
def rdM (l : Lw) (bs : List Int) : List Int := if rdE l bs = 0 then setL l (recS l bs) else []
def rdS (l : Lw) (bs : List Int) : Int := if rdE l bs = 0 then (recS l bs).s.s else 0
def rdD (l : Lw) (bs : List Int) : Bool := if rdE l bs = 0 then ((recS l bs).s.f == l.fr) else false
def rdF (l : Lw) (bs : List Int) : List (List Int) := if rdE l bs = 0 then (recS l bs).fs else []

theorem own_ballsAt0 (w : World) : BallsAt w none [] := fun i v h => by simp at h

theorem rd_any (l : Lw) (bs : List Int) (a : Option Addr) (c : Nat) (w : World) (hs : BallsAt w a bs) :
    Calls Tryd.prog 12 #[l.val, .slice a bs.length c] w fun e w' => ∃ fa fc qa qc, e = .returned (.tuple #[.agg #[.slice fa (rdN l bs) fc, .slice qa (rdM l bs).length qc, .int .i64 (rdS l bs), .bool (rdD l bs)], .int .i64 (rdE l bs)]) ∧
      BallsAt w' qa (rdM l bs) ∧ (∃ base vs, w'.ownsRow base 28 1 (.slice fa (rdN l bs) fc) (rdN l bs) vs ∧ (∀ p ∈ vs.zip (rdF l bs), ∃ xa xc, p.1 = .slice xa p.2.length xc ∧ BallsAt w' xa p.2) ∧ vs.length = (rdF l bs).length) ∧ Below w.heap.size w w' := by
  by_cases h : rdE l bs = 0
  · refine (rd_good l bs a c w hs h).mono ?_
    rintro e w' ⟨fv, qv, rfl, ⟨base, cv, vs, how, hln, _⟩, ⟨base2, hq, _⟩, hb⟩
    have o24 := how.own (28, fv, vs) (by simp [items])
    simp only at o24
    obtain ⟨fa, fc, rfl⟩ := own_len o24
    obtain ⟨qa, qc, rfl⟩ := own_len hq
    have e1 : rdN l bs = vs.length := by rw [rdN, if_pos h, hln]
    have e2 : rdM l bs = setL l (recS l bs) := by rw [rdM, if_pos h]
    have e3 : rdF l bs = (recS l bs).fs := by rw [rdF, if_pos h]
    refine ⟨fa, fc, qa, qc, ?_, ?_, ?_, hb⟩
    · rw [e1, e2, rdS, rdD, if_pos h, if_pos h, h, gameV]
    · rw [e2]; exact own_ballsAt hq
    · rw [e1, e3]
      refine ⟨base, vs, o24, ?_, hln⟩
      intro p hp
      obtain ⟨i, hi⟩ := List.mem_iff_getElem?.1 hp
      have hm : (3, p.1, p.2.map (Value.int .i64)) ∈ items (.slice fa vs.length fc) cv vs (recS l bs).fs (recS l bs).cs := by
        simp only [items, List.mem_cons, List.mem_map]
        exact .inr (.inr ⟨p, hp, rfl⟩)
      have o3 := how.own _ hm
      simp only [List.length_map] at o3
      obtain ⟨xa, xc, hx⟩ := own_len o3
      rw [hx] at o3
      exact ⟨xa, xc, hx, own_ballsAt o3⟩
  · refine (rd_bad l bs a c w hs h).mono ?_
    rintro e w' ⟨rfl, hb⟩
    have e1 : rdN l bs = 0 := by rw [rdN, if_neg h]
    have e2 : rdM l bs = [] := by rw [rdM, if_neg h]
    have e3 : rdF l bs = [] := by rw [rdF, if_neg h]
    refine ⟨none, 0, none, 0, ?_, ?_, ?_, hb⟩
    · rw [e1, e2, rdS, rdD, if_neg h, if_neg h]; rfl
    · rw [e2]; exact own_ballsAt0 w'
    · rw [e1, e3]
      exact ⟨0, [], World.ownsRow_nil _ _ _ _, by simp, rfl⟩

end Go.Proofs.YtmjbidnlknmcgabDoor
