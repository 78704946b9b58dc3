/- The contract of Read, where the sheet is a game's. The contract of Shows. -/
import Derived.Test.YtmjbidnlknmcgabDoorLSet
import Derived.Test.YtmjbidnlknmcgabDoorLZ
import Derived.Deep.RegionHeld3
import Derived.Test.YtmjbidnlknmcgabDoorLEnd
set_option linter.unusedVariables false
set_option linter.unusedSimpArgs false
namespace Go.Proofs.YtmjbidnlknmcgabDoor
open Go.RowKit

/-- The game that is handed back, with its rows. -/
def gameV (l : Lw) (r : Rc) (fv qv : Value) : Value := .agg #[fv, qv, .int .i64 r.s.s, .bool (r.s.f == l.fr)]

structure RdI (w w' : World) (l : Lw) (r : Rc) (fv qv : Value) : Prop where
  fr : ∃ base cv vs, Owns w' base (items fv cv vs r.fs r.cs) ∧ vs.length = r.fs.length ∧ w.heap.size ≤ base
  co : ∃ base, w'.ownsRow base 3 1 qv (setL l r).length ((setL l r).map (Value.int .i64)) ∧ w.heap.size ≤ base
  bl : Below w.heap.size w w'

theorem rd_start (w : World) (l : Lw) :
    Hid (w.heap.size + 1 < ((w.alloc (.cells #[.int .i64 l.fr, .int .i64 l.pn, .int .i64 l.bl, .int .i64 l.tp] 34)).alloc (.cells #[.slice none 0 0, .slice none 0 0, .int .i64 0, .bool false] 38)).heap.size) ∧
      Hid (Below w.heap.size w ((w.alloc (.cells #[.int .i64 l.fr, .int .i64 l.pn, .int .i64 l.bl, .int .i64 l.tp] 34)).alloc (.cells #[.slice none 0 0, .slice none 0 0, .int .i64 0, .bool false] 38))) ∧
      Hid (((w.alloc (.cells #[.int .i64 l.fr, .int .i64 l.pn, .int .i64 l.bl, .int .i64 l.tp] 34)).alloc (.cells #[.slice none 0 0, .slice none 0 0, .int .i64 0, .bool false] 38)).heap[w.heap.size + 1]? = some (.cells #[.slice none 0 0, .slice none 0 0, .int .i64 0, .bool false] 38 (0, 0))) ∧
      ((w.alloc (.cells #[.int .i64 l.fr, .int .i64 l.pn, .int .i64 l.bl, .int .i64 l.tp] 34)).alloc (.cells #[.slice none 0 0, .slice none 0 0, .int .i64 0, .bool false] 38)).heap[w.heap.size]? = some (.cells #[.int .i64 l.fr, .int .i64 l.pn, .int .i64 l.bl, .int .i64 l.tp] 34 (0, 0)) := by
  refine ⟨Lib.hid (by simp), Lib.hid (((Below.refl _ _).alloc (Nat.le_refl _) _).alloc (by simp) _), Lib.hid ?_, (Below.heap_alloc _ _ _ (by simp)).trans (heap_alloc_new w _)⟩
  have := heap_alloc_new (w.alloc (.cells #[.int .i64 l.fr, .int .i64 l.pn, .int .i64 l.bl, .int .i64 l.tp] 34)) (.cells #[.slice none 0 0, .slice none 0 0, .int .i64 0, .bool false] 38)
  rwa [World.size_alloc] at this

/-- What stays while a game is handed back. -/
structure RK (w W : World) (b base : Nat) (l : Lw) (r : Rc) (fv cv : Value) (vs : List Value) : Prop where
  rb : RB W b l r.s fv cv r.tot
  ow : Owns W base (items fv cv vs r.fs r.cs)
  h5 : W.heap[w.heap.size + 1]? = some (.cells #[.slice none 0 0, .slice none 0 0, .int .i64 0, .bool false] 38 (0, 0))
  bl : Below w.heap.size w W

theorem RK.below {w W W' : World} {b base : Nat} {l : Lw} {r : Rc} {fv cv : Value} {vs : List Value} (h : RK w W b base l r fv cv vs) (hb : Below W.heap.size W W') : RK w W' b base l r fv cv vs :=
  ⟨h.rb.grown (below_row hb) (fun e => by cases e), h.ow.kept (below_row hb) (fun k e => by cases e), (hb.block _ (lt_of_block h.h5)).trans h.h5, h.bl.trans (hb.mono h.bl.size)⟩

theorem RK.drewN {w W : World} {b base : Nat} {l : Lw} {r : Rc} {fv cv : Value} {vs : List Value} (h : RK w W b base l r fv cv vs) (n : Nat) : RK w (W.drewN n) b base l r fv cv vs :=
  ⟨h.rb.drewN n, h.ow.kept (grown_drewN (World.grownBy.refl W none) n) (fun k e => by cases e), by cases n <;> exact h.h5, below_drewN h.bl n⟩

theorem RK.s {w W : World} {b base : Nat} {l : Lw} {r : Rc} {fv cv : Value} {vs : List Value} (h : Hid (RK w W b base l r fv cv vs)) : W.cell? ⟨b, 11, none⟩ = some fv ∧ W.cell? ⟨b, 6, none⟩ = some (.int .i64 r.s.s) := ⟨h.out.rb.c11, h.out.rb.at.c6⟩

structure RT (w W : World) : Prop where
  d0 : W.cell? ⟨w.heap.size + 1, 0, none⟩ = some (.slice none 0 0)
  d1 : W.cell? ⟨w.heap.size + 1, 1, none⟩ = some (.slice none 0 0)
  d2 : W.cell? ⟨w.heap.size + 1, 2, none⟩ = some (.int .i64 0)
  d3 : W.cell? ⟨w.heap.size + 1, 3, none⟩ = some (.bool false)
  z0 : W.frozen? ⟨w.heap.size + 1, 0, none⟩ = false
  z1 : W.frozen? ⟨w.heap.size + 1, 1, none⟩ = false
  z2 : W.frozen? ⟨w.heap.size + 1, 2, none⟩ = false
  z3 : W.frozen? ⟨w.heap.size + 1, 3, none⟩ = false

theorem RK.t {w W : World} {b base : Nat} {l : Lw} {r : Rc} {fv cv : Value} {vs : List Value} (h : RK w W b base l r fv cv vs) : RT w W := by
  have h5 := h.h5
  constructor <;> first | simp [World.cell?, h5] | simp [World.frozen?, h5]

theorem RK.set {w W : World} {b base : Nat} {l : Lw} {r : Rc} {fv cv : Value} {vs : List Value} (h : Hid (RK w W b base l r fv cv vs)) (hb : Hid (w.heap.size + 1 < b)) (v0 v1 v2 v3 : Value) :
    ((((W.setCell ⟨w.heap.size + 1, 0, none⟩ v0).setCell ⟨w.heap.size + 1, 1, none⟩ v1).setCell ⟨w.heap.size + 1, 2, none⟩ v2).setCell ⟨w.heap.size + 1, 3, none⟩ v3).cell? ⟨b, 11, none⟩ = some fv ∧
      ((((W.setCell ⟨w.heap.size + 1, 0, none⟩ v0).setCell ⟨w.heap.size + 1, 1, none⟩ v1).setCell ⟨w.heap.size + 1, 2, none⟩ v2).setCell ⟨w.heap.size + 1, 3, none⟩ v3).cell? ⟨b, 6, none⟩ = some (.int .i64 r.s.s) := by
  have hg := grown_set (grown_set (grown_set (grown_set (World.grownBy.refl W (some (w.heap.size + 1))) 0 v0) 1 v1) 2 v2) 3 v3
  have hr := h.out.rb.grown hg (fun e => by cases e; have := hb.out; omega)
  exact ⟨hr.c11, hr.at.c6⟩

theorem rd_end {w W : World} {b base : Nat} {l : Lw} {r : Rc} {fv cv qv : Value} {vs : List Value} {s4 : Nat} (h : Hid (RK w W b base l r fv cv vs)) (hln : Hid (vs.length = r.fs.length)) (hba : Hid (w.heap.size ≤ base)) (hbb : Hid (w.heap.size + 1 < base))
    (hq : Hid (W.ownsRow s4 3 1 qv (setL l r).length ((setL l r).map (Value.int .i64)))) (h4 : w.heap.size + 2 ≤ s4) :
    let W9 := (((W.setCell ⟨w.heap.size + 1, 0, none⟩ fv).setCell ⟨w.heap.size + 1, 1, none⟩ qv).setCell ⟨w.heap.size + 1, 2, none⟩ (.int .i64 r.s.s)).setCell ⟨w.heap.size + 1, 3, none⟩ (.bool (r.s.f == l.fr))
    Hid (RdI w W9 l r fv qv) ∧ W9.cell? ⟨w.heap.size + 1, 0, none⟩ = some fv ∧ W9.cell? ⟨w.heap.size + 1, 1, none⟩ = some qv ∧ W9.cell? ⟨w.heap.size + 1, 2, none⟩ = some (.int .i64 r.s.s) ∧ W9.cell? ⟨w.heap.size + 1, 3, none⟩ = some (.bool (r.s.f == l.fr)) := by
  intro W9
  have hg : W.grownBy W9 (some (w.heap.size + 1)) := grown_set (grown_set (grown_set (grown_set (World.grownBy.refl W (some (w.heap.size + 1))) 0 fv) 1 qv) 2 (.int .i64 r.s.s)) 3 (.bool (r.s.f == l.fr))
  have a3 := blk_setCell (blk_setCell (blk_setCell (blk_setCell h.out.h5 0 fv) 1 qv) 2 (.int .i64 r.s.s)) 3 (.bool (r.s.f == l.fr))
  have a4 : W9.heap[w.heap.size + 1]? = some (.cells #[fv, qv, .int .i64 r.s.s, .bool (r.s.f == l.fr)] 38 (0, 0)) := by simpa using a3
  refine ⟨Lib.hid ⟨⟨base, cv, vs, h.out.ow.kept hg (fun k e => by cases e; exact hbb.out), hln.out, hba.out⟩, ⟨s4, hq.out.kept hg ?_, by omega⟩, h.out.bl.grown hg h.out.bl.size (fun k e => by cases e; omega)⟩, by simp [World.cell?, a4], by simp [World.cell?, a4], by simp [World.cell?, a4], by simp [World.cell?, a4]⟩
  cases hk : qv.ownBlock with
  | none => exact .inl rfl
  | some g => exact .inr (fun e => by have := (hq.out.lt g hk).1; simp at e; omega)

set_option maxRecDepth 100000 in
set_option maxHeartbeats 8000000 in
theorem rd_good (l : Lw) (bs : List Int) (a : Option Addr) (c : Nat) (w : World) (hs : BallsAt w a bs) (h : rdE l bs = 0) :
    Calls Tryd.prog 12 #[l.val, .slice a bs.length c] w fun e w' => ∃ fv qv, e = .returned (.tuple #[gameV l (recS l bs) fv qv, .int .i64 0]) ∧ RdI w w' l (recS l bs) fv qv := by
  have HR := Lib.hid (fun w hs => read_good l bs a c w hs h)
  have HS := Lib.hid hs
  have HSE := Lib.hid (fun fv cv vs base b w => settled_any l bs fv cv vs base b w h)
  unfold Lw.val at *
  generalize recS l bs = r at *
  clear h hs
  go_enter Tryd.func12, Tryd.ntmps12
  go_wp2_with fail
  obtain ⟨hz2, hB1, H50, hc0⟩ := rd_start w l
  generalize World.alloc (World.alloc w _) _ = w1 at hz2 hB1 H50 hc0 ⊢
  have k0 : w1.cell? ⟨w.heap.size, 0, none⟩ = some (.int .i64 l.fr) := by simp [World.cell?, hc0]
  have k1 : w1.cell? ⟨w.heap.size, 1, none⟩ = some (.int .i64 l.pn) := by simp [World.cell?, hc0]
  have k2 : w1.cell? ⟨w.heap.size, 2, none⟩ = some (.int .i64 l.bl) := by simp [World.cell?, hc0]
  have k3 : w1.cell? ⟨w.heap.size, 3, none⟩ = some (.int .i64 l.tp) := by simp [World.cell?, hc0]
  clear hc0
  go_wp2_with fail
  refine (HR.out _ (HS.out.after hB1.out)).mono ?_
  rintro e w2 ⟨base, fv, cv, vs, rfl, how, hln, hbase, hb2⟩
  obtain ⟨fa, fm, fc, rfl⟩ := ownsRow_shape (how.own (28, fv, vs) (by simp [items]))
  obtain ⟨ca, cm, cc, rfl⟩ := ownsRow_shape (how.own (3, cv, r.cs.map (Value.int .i64)) (by simp [items]))
  have HB2 := Lib.hid (hB1.out.trans (hb2.mono hB1.out.size))
  have H52 := Lib.hid ((hb2.block _ hz2.out).trans H50.out)
  have HD2 : Hid (w.heap.size + 1 < w2.heap.size) := Lib.hid (Nat.lt_of_lt_of_le hz2.out hb2.size)
  have OW2 := Lib.hid how
  have HBA : Hid (w.heap.size ≤ base) := Lib.hid (Nat.le_trans hB1.out.size hbase)
  have HBB : Hid (w.heap.size + 1 < base) := Lib.hid (Nat.lt_of_lt_of_le hz2.out hbase)
  have HLN := Lib.hid hln
  clear how hln hbase hb2 k0 k1 k2 k3 HR HS hB1 H50 hz2
  unfold rval
  go_wp2_with fail
  have RB3 := Lib.hid (show RB (w2.alloc (.cells #[.int .i64 l.fr, .int .i64 l.pn, .int .i64 l.bl, .int .i64 l.tp, .int .i64 r.s.f, .int .i64 r.s.b, .int .i64 r.s.s, .bool r.s.fresh, .bool r.s.more, .int .i64 r.s.x, .int .i64 r.s.y, .slice fa fm fc, .slice ca cm cc, .int .i64 r.tot] 74)) w2.heap.size l r.s (.slice fa fm fc) (.slice ca cm cc) r.tot from ⟨heap_alloc_new w2 _⟩)
  have H53 := Lib.hid ((Below.heap_alloc w2 (.cells #[.int .i64 l.fr, .int .i64 l.pn, .int .i64 l.bl, .int .i64 l.tp, .int .i64 r.s.f, .int .i64 r.s.b, .int .i64 r.s.s, .bool r.s.fresh, .bool r.s.more, .int .i64 r.s.x, .int .i64 r.s.y, .slice fa fm fc, .slice ca cm cc, .int .i64 r.tot] 74) _ HD2.out).trans H52.out)
  have HB3 := Lib.hid (HB2.out.alloc HB2.out.size (.cells #[.int .i64 l.fr, .int .i64 l.pn, .int .i64 l.bl, .int .i64 l.tp, .int .i64 r.s.f, .int .i64 r.s.b, .int .i64 r.s.s, .bool r.s.fresh, .bool r.s.more, .int .i64 r.s.x, .int .i64 r.s.y, .slice fa fm fc, .slice ca cm cc, .int .i64 r.tot] 74))
  have OW3 := Lib.hid (OW2.out.kept (World.grownBy_alloc w2 (.cells #[.int .i64 l.fr, .int .i64 l.pn, .int .i64 l.bl, .int .i64 l.tp, .int .i64 r.s.f, .int .i64 r.s.b, .int .i64 r.s.s, .bool r.s.fresh, .bool r.s.more, .int .i64 r.s.x, .int .i64 r.s.y, .slice fa fm fc, .slice ca cm cc, .int .i64 r.tot] 74) none) (fun k e => by cases e))
  generalize World.alloc w2 _ = w3 at RB3 H53 HB3 OW3 ⊢
  clear HB2 H52 OW2
  have K3 : Hid (RK w w3.drew w2.heap.size base l r (.slice fa fm fc) (.slice ca cm cc) vs) := Lib.hid ⟨RB3.out.drewN 1, OW3.out.kept (grown_drewN (World.grownBy.refl w3 none) 1) (fun k e => by cases e), H53.out, below_drewN HB3.out 1⟩
  clear RB3 OW3 H53 HB3
  go_region_held3 (fun W => W.cell? ⟨w2.heap.size, 11, none⟩ = some (.slice fa fm fc) ∧ W.cell? ⟨w2.heap.size, 6, none⟩ = some (.int .i64 r.s.s))
    (first | exact RK.s (by assumption) | exact RK.set (by assumption) (by assumption) _ _ _ _)
    (first
      | (go_at_call 29; refine (HSE.out _ _ _ _ _ _ K3.out.rb K3.out.ow HLN.out).mono ?_; rintro e w4 ⟨qv, rfl, hqv, hb4⟩; have K4 := Lib.hid (K3.out.below hb4); obtain ⟨qa, qc, rfl⟩ := own_len hqv; have Q4 := Lib.hid hqv; clear hb4 hqv)
      | (go_at_call 30; refine (done_any _ l r.s _ K4.out.rb.at).mono ?_; rintro e w' ⟨rfl, n, rfl⟩; have K5 := Lib.hid (K4.out.drewN n); have Q5 := Lib.hid (own_drewN Q4.out n); obtain ⟨d0, d1, d2, d3, z0, z1, z2, z3⟩ := K5.out.t))
  have hs4 : w.heap.size + 2 ≤ w3.drew.heap.size := lt_of_block K3.out.h5
  go_wp2_with fail
  have HE := rd_end K5 HLN HBA HBB Q5 hs4
  clear d0 d1 d2 d3 z0 z1 z2 z3
  generalize World.setCell _ _ _ = W9 at HE ⊢
  obtain ⟨hI, c0, c1, c2, c3⟩ := HE
  refine bodyPost_ret (v := .tuple #[.agg #[.slice fa fm fc, .slice qa (setL l r).length qc, .int .i64 r.s.s, .bool (r.s.f == l.fr)], .int .i64 0]) (by simp [results, Tryd.results12, go_sem, c0, c1, c2, c3]) rfl ?_
  exact ⟨_, _, rfl, hI.out⟩

end Go.Proofs.YtmjbidnlknmcgabDoor

namespace Go.Proofs.YtmjbidnlknmcgabDoor
open Go.RowKit

/-- What Shows answers to a sheet that is a game's. -/
def shL (l : Lw) (bs : List Int) (n : Int) : List Int := if hasB (finN l bs) n = true then endL l (recS l bs).s (n - (recS l bs).tot) else []
def shE (l : Lw) (bs : List Int) (n : Int) : Int := if hasB (finN l bs) n = true then 0 else 9

theorem fin_has {l : Lw} {bs : List Int} {n : Int} (h : hasB (finN l bs) n = true) (h0 : 0 ≤ (recS l bs).tot) : 0 ≤ n - (recS l bs).tot ∧ n - (recS l bs).tot ≤ 300 := by
  have hb := hasB_bd h
  unfold hasB finN at h
  rw [Nat.testBit_shiftLeft] at h
  simp at h
  omega

set_option maxRecDepth 100000 in
set_option maxHeartbeats 8000000 in
theorem sh_good (l : Lw) (bs : List Int) (a : Option Addr) (c : Nat) (n : Int) (w : World) (hs : BallsAt w a bs) (h : rdE l bs = 0) :
    Calls Tryd.prog 17 #[l.val, .slice a bs.length c, .int .i64 n] w fun e w' => ∃ v, e = .returned (.tuple #[v, .int .i64 (shE l bs n)]) ∧
      (∃ base, w'.ownsRow base 3 1 v (shL l bs n).length ((shL l bs n).map (Value.int .i64)) ∧ w.heap.size ≤ base) ∧ Below w.heap.size w w' := by
  obtain ⟨ok, hw, ht⟩ := recS_ok h
  have HR := Lib.hid (fun w hs => read_good l bs a c w hs h)
  have HS := Lib.hid hs
  have HW := Lib.hid hw
  have OK := Lib.hid ok
  have HTT := Lib.hid ht
  have hfin : Hid (finN l bs = Rs l (recS l bs).s <<< (recS l bs).tot.toNat) := Lib.hid rfl
  obtain ⟨hb, hhb⟩ : ∃ hb, Hid (hasB (finN l bs) n = hb) := ⟨_, Lib.hid rfl⟩
  have HFH : Hid (hb = true → 0 ≤ n - (recS l bs).tot ∧ n - (recS l bs).tot ≤ 300) := Lib.hid (fun e => fin_has (hhb.out.trans e) hw.t1)
  obtain ⟨E, hE⟩ : ∃ E, Hid (shE l bs n = E) := ⟨_, Lib.hid rfl⟩
  obtain ⟨L, hL⟩ : ∃ L, Hid (shL l bs n = L) := ⟨_, Lib.hid rfl⟩
  rw [hE.out, hL.out]
  have hE1 := Lib.hid (show E = if hb = true then 0 else 9 from by rw [← hE.out, shE, hhb.out])
  have hL1 := Lib.hid (show L = if hb = true then endL l (recS l bs).s (n - (recS l bs).tot) else [] from by rw [← hL.out, shL, hhb.out])
  unfold Lw.val at *
  clear hE hL
  generalize recS l bs = r at *
  generalize finN l bs = N at *
  clear h ok hw ht hs
  go_enter Tryd.func17, Tryd.ntmps17
  go_wp2_with fail
  have hB1 := Lib.hid ((Below.refl w.heap.size w).alloc (Nat.le_refl _) (.cells #[.int .i64 l.fr, .int .i64 l.pn, .int .i64 l.bl, .int .i64 l.tp] 34))
  generalize World.alloc w _ = w1 at hB1 ⊢
  refine (HR.out _ (HS.out.after hB1.out)).mono ?_
  rintro e w2 ⟨base, fv, cv, vs, rfl, how, hln, hbase, hb2⟩
  obtain ⟨fa, fm, fc, rfl⟩ := ownsRow_shape (how.own (28, fv, vs) (by simp [items]))
  obtain ⟨ca, cm, cc, rfl⟩ := ownsRow_shape (how.own (3, cv, r.cs.map (Value.int .i64)) (by simp [items]))
  have HB2 := Lib.hid (hB1.out.trans (hb2.mono hB1.out.size))
  clear how hln hbase hb2 HR HS hB1
  unfold rval
  go_wp2_with fail
  have RB3 := Lib.hid (show RB (w2.alloc (.cells #[.int .i64 l.fr, .int .i64 l.pn, .int .i64 l.bl, .int .i64 l.tp, .int .i64 r.s.f, .int .i64 r.s.b, .int .i64 r.s.s, .bool r.s.fresh, .bool r.s.more, .int .i64 r.s.x, .int .i64 r.s.y, .slice fa fm fc, .slice ca cm cc, .int .i64 r.tot] 74)) w2.heap.size l r.s (.slice fa fm fc) (.slice ca cm cc) r.tot from ⟨heap_alloc_new w2 _⟩)
  have HB3 := Lib.hid (HB2.out.alloc HB2.out.size (.cells #[.int .i64 l.fr, .int .i64 l.pn, .int .i64 l.bl, .int .i64 l.tp, .int .i64 r.s.f, .int .i64 r.s.b, .int .i64 r.s.s, .bool r.s.fresh, .bool r.s.more, .int .i64 r.s.x, .int .i64 r.s.y, .slice fa fm fc, .slice ca cm cc, .int .i64 r.tot] 74))
  generalize World.alloc w2 _ = w3 at RB3 HB3 ⊢
  have hb3 := Lib.hid (lt_of_block RB3.out.blk)
  refine (search_any l _).mono ?_
  rintro e w4 ⟨rfl, hsw, hb4⟩
  have RB4 := Lib.hid (show RB w4 w2.heap.size l r.s (.slice fa fm fc) (.slice ca cm cc) r.tot from ⟨(hb4.block _ hb3.out).trans RB3.out.blk⟩)
  have HB4 := Lib.hid (HB3.out.trans (hb4.mono HB3.out.size))
  have HSW := Lib.hid hsw
  clear hb4 hsw RB3
  go_wp2_with fail
  have htt : Hid (r.tot = ((r.tot.toNat / 64 * 64 + r.tot.toNat % 64 : Nat) : Int)) := Lib.hid (by have := HW.out.t1; omega)
  have hN : Hid (N = Rs l r.s <<< (r.tot.toNat / 64 * 64 + r.tot.toNat % 64)) := Lib.hid (by rw [hfin.out]; congr 1; omega)
  refine (finals_any w2.heap.size l r.s r.tot _ _ _ (r.tot.toNat / 64) (r.tot.toNat % 64) w4 HW.out.vd (Lib.hid (rest_ok l OK.out _ _ _)) ⟨RB4.out.at, RB4.out.c13⟩ HSW.out (by have := hb3.out; omega) (lt_of_block RB4.out.blk) htt.out (by omega) (by have := HTT.out; have := HW.out.t1; omega)).mono ?_
  rintro e w5 ⟨rfl, hsw5, hg5⟩
  rw [← hN.out]
  have RB5 := Lib.hid (RB4.out.grown hg5.out (fun e => by have := hb3.out; have := Option.some.inj e; omega))
  have HB5 := Lib.hid (HB4.out.grown hg5.out HB4.out.size (fun k e => by cases e; exact HB3.out.size))
  clear hg5 HSW RB4
  go_wp2_with fail
  refine (has_any N n w5).mono ?_
  rintro e w6 ⟨rfl, hb6⟩
  rw [hhb.out]
  have RB6 := Lib.hid (RB5.out.grown (below_row hb6) (fun e => by cases e))
  have HB6 := Lib.hid (HB5.out.trans (hb6.mono HB5.out.size))
  have SW6 := Lib.hid (hsw5.out.below (below_row hb6))
  clear hb6 hsw5 RB5
  cases hb
  · simp only [Bool.false_eq_true, if_false] at hE1 hL1
    go_wp2_with fail
    go_returns
    exact ⟨.slice none 0 0, by rw [hE1.out]; rfl, ⟨w.heap.size, by rw [hL1.out]; exact World.ownsRow_nil _ _ _ _, Nat.le_refl _⟩, HB6.out⟩
  · simp only [if_true] at hE1 hL1
    have hbd := HFH.out rfl
    have e1 : IntKind.i64.wrap (n - r.tot) = n - r.tot := IntWalk.i64_in _ (by omega)
    obtain ⟨h0, h1, h2, h3, h4, h5, h6, h7, h8, h9, h10⟩ := RB6.out.at
    have h13 := RB6.out.c13
    go_wp2_with fail
    refine (ending_any l OK.out _ _ _ r.s (n - r.tot) w6 HW.out.vd hbd.1 hbd.2 SW6.out).mono ?_
    rintro e w7 ⟨v, rfl, hov, hsw7, hg7⟩
    have HOV := Lib.hid hov
    have HB7 := Lib.hid (HB6.out.grown hg7 HB6.out.size (fun k e => by cases e; exact HB3.out.size))
    clear hov hsw7 hg7 h0 h1 h2 h3 h4 h5 h6 h7 h8 h9 h10 h13 e1 hbd
    obtain ⟨va, vc, rfl⟩ := row_slice HOV.out
    go_wp2_with fail
    go_returns
    exact ⟨.slice va _ vc, by rw [hE1.out]; rfl, ⟨w6.heap.size, by rw [hL1.out]; exact HOV.out, HB6.out.size⟩, HB7.out⟩

end Go.Proofs.YtmjbidnlknmcgabDoor
