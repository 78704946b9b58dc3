/- The settled counts of a record, as mathematics. The contract of the settled counts. The contract of the settled counts. The contract of the settled counts, whole. -/
import Derived.Test.YtmjbidnlknmcgabDoorLQ
import Derived.Test.YtmjbidnlknmcgabDoorLSum
import Derived.Deep.LoopGhost
import Derived.Deep.CutBlock
import Derived.Deep.DeepCutAuto
import Derived.Deep.QuietTactic
import Derived.BigQuiet
set_option linter.unusedVariables false
set_option linter.unusedSimpArgs false
namespace Go.Proofs.YtmjbidnlknmcgabDoor
open Go.RowKit

/-- What lies from f on, m of it. -/
def partL (cs : List Int) (f m : Nat) : List Int := (cs.drop f).take m

/-- How many balls, from its first one on, the count of a frame of m balls needs. -/
def needs (pn : Int) (cs : List Int) (f m : Nat) : Nat := if pn ≤ (partL cs f m).sum then 3 else m

def lastC (acc : List Int) : Int := acc.getLast?.getD 0

def setGo (pn : Int) (cs : List Int) : List (List Int) → Nat → List Int → List Int
  | [], _, acc => acc
  | b :: bs, f, acc =>
    if cs.length < f + needs pn cs f b.length then acc
    else setGo pn cs bs (f + b.length) (acc ++ [(partL cs f (needs pn cs f b.length)).sum + lastC acc])

def setL (l : Lw) (r : Rc) : List Int := setGo l.pn r.cs (r.fs.take r.s.f.toNat) 0 []

/-- The frames of a record lie in its counted balls. -/
structure RcS (l : Lw) (r : Rc) : Prop where
  f1 : r.s.f.toNat ≤ r.fs.length
  len : (r.fs.map List.length).sum = r.cs.length
  cb : ∀ c ∈ r.cs, 0 ≤ c ∧ c ≤ 10
  cl : r.cs.length ≤ 40
  ne : ∀ zs ∈ r.fs, 0 < zs.length

theorem part_balls (cs : List Int) (f m : Nat) (h : ∀ c ∈ cs, 0 ≤ c ∧ c ≤ 10) : ∀ c ∈ partL cs f m, 0 ≤ c ∧ c ≤ 10 :=
  fun c hc => h c (List.mem_of_mem_drop (List.mem_of_mem_take hc))

theorem part_len (cs : List Int) (f m : Nat) (h : f + m ≤ cs.length) : (partL cs f m).length = m := by
  simp [partL]; omega

theorem part_at (cs : List Int) (f m i : Nat) (v : Int) (h : (partL cs f m)[i]? = some v) : cs[f + i]? = some v := by
  unfold partL at h
  rw [List.getElem?_take] at h
  split at h
  · rwa [List.getElem?_drop] at h
  · cases h

theorem setGo_len (pn : Int) (cs : List Int) : ∀ (bs : List (List Int)) (f : Nat) (acc : List Int), (setGo pn cs bs f acc).length ≤ acc.length + bs.length
  | [], _, _ => by simp [setGo]
  | b :: bs, f, acc => by
    rw [setGo]
    split
    · simp
    · have := setGo_len pn cs bs (f + b.length) (acc ++ [(partL cs f (needs pn cs f b.length)).sum + lastC acc])
      simp only [List.length_append, List.length_cons, List.length_nil] at this ⊢
      omega

theorem set_sum : ∀ (L : List (List Int)) (i : Nat) (y : List Int) (k : Int), L[i]? = some y → ((L.set i (y ++ [k])).map List.length).sum = (L.map List.length).sum + 1
  | [], i, y, k, h => by simp at h
  | a :: L, 0, y, k, h => by
    simp only [List.getElem?_cons_zero, Option.some.injEq] at h
    subst h
    simp only [List.set_cons_zero, List.map_cons, List.sum_cons, List.length_append, List.length_cons, List.length_nil]
    omega
  | a :: L, i + 1, y, k, h => by
    have := set_sum L i y k (by simpa using h)
    simp only [List.set_cons_succ, List.map_cons, List.sum_cons, this]
    omega

/-- What lies in frames is what was counted. -/
structure LenS (r : Rc) : Prop where
  len : (r.fs.map List.length).sum = r.cs.length
  cb : ∀ c ∈ r.cs, 0 ≤ c ∧ c ≤ 10
  ne : ∀ zs ∈ r.fs, 0 < zs.length

theorem LenS.note {l : Lw} {r : Rc} {i : Nat} {k : Int} (h : LenS r) (hw : RcW l r i) (ok : l.Ok) (ht : okT l r.s k = true) : LenS (noteR l r k) := by
  obtain ⟨hf, hk1, hk2⟩ := okT_out ht
  have hv := hw.vd
  have hc := cnt_le ok hv hk1 hk2
  have hs10 : r.s.s ≤ 10 := by have := hv.s2; have := ok.p2; omega
  have hnl : ((noteFs r).length : Int) = r.s.f + 1 := by
    have := hw.fl
    unfold noteFs
    split
    · rename_i hb; rw [if_pos hb] at this; simp; omega
    · rename_i hb; rw [if_neg hb] at this; omega
  have hns : ((noteFs r).map List.length).sum = r.cs.length := by
    rw [← h.len]
    unfold noteFs
    split <;> simp
  have hv1 := hv.f1
  refine ⟨?_, ?_, ?_⟩
  · show (((noteFs r).set r.s.f.toNat (((noteFs r)[r.s.f.toNat]?).getD [] ++ [k])).map List.length).sum = (r.cs ++ [_]).length
    have hy : (noteFs r)[r.s.f.toNat]? = some ((noteFs r)[r.s.f.toNat]'(by omega)) := List.getElem?_eq_getElem _
    rw [hy]
    simp only [Option.getD_some]
    rw [set_sum _ _ _ _ hy, hns]
    simp
  · intro c hc'
    rcases List.mem_append.1 hc' with hc' | hc'
    · exact h.cb c hc'
    · simp only [List.mem_cons, List.not_mem_nil, or_false] at hc'
      subst hc'
      omega
  · intro zs hzs
    obtain ⟨j, hj⟩ := List.mem_iff_getElem?.1 hzs
    have hj : ((noteFs r).set r.s.f.toNat (((noteFs r)[r.s.f.toNat]?).getD [] ++ [k]))[j]? = some zs := hj
    rw [List.getElem?_set] at hj
    split at hj
    · split at hj
      · cases hj; simp
      · cases hj
    · rename_i hne
      unfold noteFs at hj
      split at hj
      · rename_i hb
        have hfl := hw.fl
        rw [if_pos hb] at hfl
        rw [List.getElem?_append] at hj
        split at hj
        · exact h.ne zs (List.mem_of_getElem? hj)
        · rename_i hge
          have hj0 : j - r.fs.length = 0 := by
            apply Classical.byContradiction
            intro h0
            rw [List.getElem?_eq_none (by simp; omega)] at hj
            cases hj
          omega
      · exact h.ne zs (List.mem_of_getElem? hj)

theorem fol_lenS {l : Lw} (ok : l.Ok) : ∀ (bs : List Int) (r : Rc) (i : Nat), RcW l r i → LenS r → LenS (fol l r bs).1
  | [], r, i, _, h => by simpa [fol] using h
  | k :: ks, r, i, hw, h => by
    rw [fol]
    split
    · rename_i ht
      exact fol_lenS ok ks (noteR l r k) (i + 1) (hw.note ok ht) (h.note hw ok ht)
    · simpa using h

theorem rec0_lenS (l : Lw) : LenS (rec0 l) := ⟨rfl, by simp [rec0], by simp [rec0]⟩

theorem RcW.f1 {l : Lw} {r : Rc} {i : Nat} (h : RcW l r i) : r.s.f.toNat ≤ r.fs.length := by
  have h1 := h.fl
  have h2 := h.vd.f1
  split at h1 <;> omega

theorem recS_rcs {l : Lw} {bs : List Int} (h : rdE l bs = 0) : RcS l (recS l bs) := by
  obtain ⟨ok, hw, _⟩ := recS_ok h
  obtain ⟨h1, h2⟩ := rdE_zero h
  have hl := fol_lenS ok bs (rec0 l) 0 (rec0_rcw ok) (rec0_lenS l)
  have h3 := (errS_zero h1).2
  exact ⟨hw.f1, hl.len, hl.cb, by rw [hw.cs]; exact h3, hl.ne⟩

end Go.Proofs.YtmjbidnlknmcgabDoor

namespace Go.Proofs.YtmjbidnlknmcgabDoor
open Go.RowKit

theorem own_balls {w : World} {base g n c : Nat} {cs : List Int} (h : w.ownsRow base 3 1 (.slice (some ⟨g, 0, none⟩) n c) n (cs.map (Value.int .i64))) (f m : Nat) : BallsAt w (some ⟨g, f, none⟩) (partL cs f m) := by
  intro i v hv
  refine ⟨g, f, rfl, ?_⟩
  have h1 := part_at cs f m i v hv
  have := h.cells (g := g) rfl (f + i) (.int .i64 v) (by rw [List.getElem?_map, h1]; rfl)
  have e : (⟨g, 0, none⟩ : Addr).add (f + i) = ⟨g, f + i, none⟩ := by unfold Addr.add; split <;> simp_all
  rwa [e] at this

theorem own_cell {w : World} {base g n c : Nat} {e : TypeId} {xs : List Value} (h : w.ownsRow base e 1 (.slice (some ⟨g, 0, none⟩) n c) n xs) (i : Nat) (v : Value) (hv : xs[i]? = some v) : w.cell? ⟨g, i, none⟩ = some v := by
  have := h.cells (g := g) rfl i v hv
  have e : (⟨g, 0, none⟩ : Addr).add i = ⟨g, i, none⟩ := by unfold Addr.add; split <;> simp_all
  rwa [e] at this

theorem own_form {w : World} {base n : Nat} {e : TypeId} {v : Value} {xs : List Value} (h : w.ownsRow base e 1 v n xs) (hn : 0 < n) : ∃ g c, v = .slice (some ⟨g, 0, none⟩) n c ∧ base ≤ g ∧ g < w.heap.size ∧ n ≤ c ∧ c ≤ maxLen := by
  rcases h.2 with ⟨_, h0⟩ | ⟨g, cap, cur, hv, hb, hg, hc, hm, _⟩
  · omega
  · exact ⟨g, cap, hv, hb, lt_of_block hg, hc, hm⟩

theorem own_len {w : World} {base n : Nat} {e : TypeId} {v : Value} {xs : List Value} (h : w.ownsRow base e 1 v n xs) : ∃ a c, v = .slice a n c := by
  rcases h.2 with ⟨h1, h0⟩ | ⟨g, cap, cur, hv, hb, hg, hc, hm, _⟩
  · exact ⟨none, 0, by rw [h1, h0]⟩
  · exact ⟨_, _, hv⟩

theorem BallsAt.drewN {w : World} {a : Option Addr} {bs : List Int} (h : BallsAt w a bs) (n : Nat) : BallsAt (w.drewN n) a bs := by
  intro i v hv
  obtain ⟨g, o, e, hc⟩ := h i v hv
  exact ⟨g, o, e, by cases n <;> exact hc⟩

theorem BallsAt.lo {w w' : World} {a : Option Addr} {bs : List Int} (h : BallsAt w a bs) (hB : Below w.heap.size w w') : BallsAt w' a bs := by
  intro i v hv
  obtain ⟨g, o, e, hc⟩ := h i v hv
  exact ⟨g, o, e, (hB.cell (World.block_lt_of_cell? w _ hc)).trans hc⟩

theorem below_cell {w w' : World} {p : Addr} {v : Value} (hB : Below w.heap.size w w') (hc : w.cell? p = some v) : w'.cell? p = some v := (hB.cell (World.block_lt_of_cell? w _ hc)).trans hc

theorem below_drewN {B : Nat} {w w' : World} (h : Below B w w') (n : Nat) : Below B w (w'.drewN n) := by
  cases n with
  | zero => exact h
  | succ n => exact ⟨h.os, h.tape, h.output, h.size, h.block⟩

theorem own_drewN {w : World} {base n : Nat} {e : TypeId} {v : Value} {xs : List Value} (h : w.ownsRow base e 1 v n xs) (k : Nat) : (w.drewN k).ownsRow base e 1 v n xs := by
  cases k <;> exact h

theorem lens_take : ∀ (L : List (List Int)) (k : Nat) (b : List Int), L[k]? = some b → ((L.take (k + 1)).map List.length).sum = ((L.take k).map List.length).sum + b.length := by
  intro L k b h
  rw [List.take_add_one, h]
  simp

theorem lens_le : ∀ (L : List (List Int)) (k : Nat), ((L.take k).map List.length).sum ≤ (L.map List.length).sum
  | [], k => by simp
  | a :: L, 0 => by simp
  | a :: L, k + 1 => by
    have := lens_le L k
    simp only [List.take_succ_cons, List.map_cons, List.sum_cons]
    omega

theorem two_balls (w : World) (x y : Int) (t : TypeId) : BallsAt (w.alloc (.cells #[.int .i64 x, .int .i64 y] t)) (some ⟨w.heap.size, 0, none⟩) [x, y] := by
  intro i v hv
  refine ⟨w.heap.size, 0, rfl, ?_⟩
  have h := heap_alloc_new w (.cells #[.int .i64 x, .int .i64 y] t)
  generalize w.alloc _ = w1 at h ⊢
  unfold World.cell?
  simp only [h]
  match i, hv with
  | 0, hv => cases hv; rfl
  | 1, hv => cases hv; rfl
  | n + 2, hv => simp at hv

theorem lastC_at {acc : List Int} {j : Nat} (h : acc.length = j + 1) : acc[j]? = some (lastC acc) := by
  unfold lastC
  rw [List.getLast?_eq_getElem?, h]
  simp only [Nat.add_sub_cancel]
  rw [List.getElem?_eq_getElem (by omega)]
  rfl

end Go.Proofs.YtmjbidnlknmcgabDoor

namespace Go.Proofs.YtmjbidnlknmcgabDoor
open Go.RowKit

theorem sum_part {w : World} {base g n c f m c' : Nat} {cs : List Int} (h : w.ownsRow base 3 1 (.slice (some ⟨g, 0, none⟩) n c) n (cs.map (Value.int .i64))) (hb : ∀ c ∈ cs, 0 ≤ c ∧ c ≤ 10) (hl : cs.length ≤ 40) (hfm : f + m ≤ cs.length) :
    Calls Tryd.prog 44 #[.slice (some ⟨g, f, none⟩) m c'] w fun e w' => e = .returned (.int .i64 (partL cs f m).sum) ∧ w' = w := by
  have h1 := own_balls h f m
  have h2 := part_len cs f m hfm
  have := sum_same (partL cs f m) (some ⟨g, f, none⟩) c' w h1 (fun x hx => by have := part_balls cs f m hb x hx; omega) (by omega)
  rwa [h2] at this

theorem set_step {pn : Int} {cs : List Int} {L : List (List Int)} {k f : Nat} {acc zs : List Int} (h : L[k]? = some zs) :
    setGo pn cs (L.drop k) f acc = if cs.length < f + needs pn cs f zs.length then acc else setGo pn cs (L.drop (k + 1)) (f + zs.length) (acc ++ [(partL cs f (needs pn cs f zs.length)).sum + lastC acc]) := by
  obtain ⟨hlt, he⟩ := List.getElem?_eq_some_iff.1 h
  rw [List.drop_eq_getElem_cons hlt, he, setGo]

theorem part_bd (cs : List Int) (f n : Nat) (hb : ∀ c ∈ cs, 0 ≤ c ∧ c ≤ 10) (hl : cs.length ≤ 40) : 0 ≤ (partL cs f n).sum ∧ (partL cs f n).sum ≤ 400 := by
  have h1 : ∀ (xs : List Int), (∀ x ∈ xs, 0 ≤ x ∧ x ≤ 10) → 0 ≤ xs.sum ∧ xs.sum ≤ 10 * xs.length := by
    intro xs
    induction xs with
    | nil => simp
    | cons x xs ih =>
      intro h
      have h1 := h x (by simp)
      have h2 := ih (fun y hy => h y (by simp [hy]))
      simp only [List.sum_cons, List.length_cons]
      omega
  have h2 := h1 (partL cs f n) (part_balls cs f n hb)
  have h3 : (partL cs f n).length ≤ 40 := by simp [partL]; omega
  omega

set_option maxRecDepth 100000 in
set_option maxHeartbeats 4000000 in
theorem settled_pos (l : Lw) (r : Rc) (fv cv : Value) (vs : List Value) (base b : Nat) (w : World) (ok : l.Ok) (rb : RB w b l r.s fv cv r.tot) (ow : Owns w base (items fv cv vs r.fs r.cs)) (ln : vs.length = r.fs.length)
    (rs : RcS l r) (hf0 : 0 < r.s.f) (hf1 : r.s.f ≤ 10) (hc0 : 0 < r.cs.length) :
    Calls Tryd.prog 29 #[.pointer (some ⟨b, 0, none⟩)] w fun e w' => ∃ v, e = .returned v ∧
      w'.ownsRow w.heap.size 3 1 v (setL l r).length ((setL l r).map (Value.int .i64)) ∧ Below w.heap.size w w' := by
  obtain ⟨F, hF⟩ : ∃ F : Nat, r.s.f = (F : Int) := ⟨r.s.f.toNat, by omega⟩
  have hFn : r.s.f.toNat = F := by omega
  have hFl : F ≤ r.fs.length := by have := rs.f1; omega
  have o24 := ow.own (28, fv, vs) (by simp [items])
  have o3 : w.ownsRow base 3 1 cv r.cs.length (r.cs.map (Value.int .i64)) := by simpa using ow.own (3, cv, r.cs.map (Value.int .i64)) (by simp [items])
  simp only at o24
  obtain ⟨fa, fc, rfl, -, -, hfc, hfm⟩ := own_form o24 (by omega)
  obtain ⟨ca, cc, rfl, -, -, hcc, hcm⟩ := own_form o3 hc0
  have c1 : w.cell? ⟨b, 1, none⟩ = some (.int .i64 l.pn) := rb.at.c1
  have c4 : w.cell? ⟨b, 4, none⟩ = some (.int .i64 (F : Int)) := by rw [← hF]; exact rb.at.c4
  have c11 := rb.c11
  have c12 := rb.c12
  have hR := Lib.hid (show setGo l.pn r.cs (r.fs.take F) 0 [] = setL l r from by rw [setL, hFn])
  have RS := Lib.hid rs
  have OW := Lib.hid ow
  have O24 := Lib.hid o24
  have O3 := Lib.hid o3
  have B1 := Lib.hid c1
  have B12 := Lib.hid c12
  have hln := ln
  have hcl := rs.cl
  have p1 := ok.p1
  have p2 := ok.p2
  obtain ⟨i3, hi3, hy0, hy1, hy2⟩ := info_parts info3
  have g1 : (0 : Int) ≤ (F : Int) := by omega
  have g2 : (F : Int) ≤ (fc : Int) := by omega
  have g3 : F ≤ 10 := by omega
  clear rb ow o24 o3 rs hf0 hf1
  go_enter Tryd.func29, Tryd.ntmps29
  go_wp2
  go_quiet (fail)
  go_wp2
  have W0 := Lib.hid (below_drewN (Below.refl w.heap.size w) nq)
  generalize w.drewN nq = w0 at W0 ⊢
  go_loopg [3, 4, 21] F (fun g s3 s4 s21 wx => ∃ (k first : Nat) (acc : List Int), k ≤ F ∧ g = F - k ∧ s21 = .int .i64 (k : Int) ∧ s4 = .int .i64 (first : Int) ∧ acc.length = k ∧
    Hid (first = (((r.fs.take F).take k).map List.length).sum) ∧ Hid (∀ c ∈ acc, 0 ≤ c ∧ c ≤ 400 * (k : Int)) ∧ Hid (setGo l.pn r.cs ((r.fs.take F).drop k) first acc = setL l r) ∧
    Hid (wx.ownsRow w.heap.size 3 1 s3 k (acc.map (Value.int .i64))) ∧ Hid (Below w.heap.size w wx))
  case atStart => exact ⟨0, 0, [], by omega, rfl, rfl, rfl, rfl, Lib.hid (by simp), Lib.hid (by simp), Lib.hid (by simpa using hR.out), Lib.hid (World.ownsRow_nil _ _ _ _), W0⟩
  case round =>
    obtain ⟨k, first, acc, hk, rfl, rfl, rfl, hal, hfi, hab, hgo, how, hB⟩ := hrel
    by_cases hlt : k < F
    · have hk1 : (k : Int) < (F : Int) := by omega
      have hk0 : (0 : Int) ≤ (k : Int) := by omega
      obtain ⟨zs, hzs⟩ : ∃ zs, Hid (r.fs[k]? = some zs) := ⟨r.fs[k]'(by omega), Lib.hid (List.getElem?_eq_getElem _)⟩
      obtain ⟨vI, hvI⟩ : ∃ vI, Hid (vs[k]? = some vI) := ⟨vs[k]'(by omega), Lib.hid (List.getElem?_eq_getElem _)⟩
      have oI : w.ownsRow base 3 1 vI zs.length (zs.map (Value.int .i64)) := by
        have := OW.out.own (3, vI, zs.map (Value.int .i64)) (by
          simp only [items, List.mem_cons, List.mem_map]
          exact .inr (.inr ⟨(vI, zs), List.mem_iff_getElem?.2 ⟨k, by rw [List.getElem?_zip_eq_some]; exact ⟨hvI.out, hzs.out⟩⟩, rfl⟩))
        simpa using this
      obtain ⟨xa, xc, rfl⟩ := own_len oI
      clear oI
      have dk : wr.cell? ⟨fa, k, none⟩ = some (.slice xa zs.length xc) := below_cell hB.out (own_cell O24.out k _ hvI.out)
      have d1 : wr.cell? ⟨b, 1, none⟩ = some (.int .i64 l.pn) := below_cell hB.out B1.out
      have d12 : wr.cell? ⟨b, 12, none⟩ = some (.slice (some ⟨ca, 0, none⟩) r.cs.length cc) := below_cell hB.out B12.out
      obtain ⟨m, hm⟩ : ∃ m, zs.length = m := ⟨_, rfl⟩
      rw [hm] at dk
      have HM := Lib.hid hm
      have hF2 : (r.fs.take F)[k]? = some zs := by rw [List.getElem?_take, if_pos hlt]; exact hzs.out
      have hfm : first + m ≤ r.cs.length := by
        have h1 := lens_take (r.fs.take F) k zs hF2
        have h2 := lens_le (r.fs.take F) (k + 1)
        have h3 := lens_le r.fs F
        rw [RS.out.len] at h3
        rw [hfi.out]
        omega
      have HF2 := Lib.hid hF2
      clear hF2 hm
      have OR : Hid (wr.ownsRow base 3 1 (.slice (some ⟨ca, 0, none⟩) r.cs.length cc) r.cs.length (r.cs.map (Value.int .i64))) := Lib.hid (O3.out.kept (below_row hB.out) (.inr (fun e => by cases e)))
      have hcl10 := RS.out.cl
      obtain ⟨q, hq⟩ : ∃ q, first + m = q := ⟨_, rfl⟩
      have HQ := Lib.hid hq
      have z1 : (0 : Int) ≤ (first : Int) := by omega
      have z2 : (first : Int) ≤ (q : Int) := by omega
      have z3 : (q : Int) ≤ (cc : Int) := by omega
      have hm0 : 0 < m := by rw [← HM.out]; exact RS.out.ne zs (List.mem_of_getElem? hzs.out)
      have z4 : q - first = m := by omega
      have z5 : ¬ cc = first := by omega
      obtain ⟨S, hS⟩ : ∃ S, Hid ((partL r.cs first m).sum = S) := ⟨_, Lib.hid rfl⟩
      have S1 : Hid (∀ n c', Calls Tryd.prog 44 #[.slice (some ⟨ca, first, none⟩) m c'] (wr.drewN n) fun e w' => e = .returned (.int .i64 S) ∧ w' = wr.drewN n) := Lib.hid (fun n c' => by rw [← hS.out]; exact sum_part (own_drewN OR.out n) RS.out.cb hcl10 hfm)
      have e1 : IntKind.i64.wrap ((first : Int) + (m : Int)) = (q : Int) := by rw [IntWalk.i64_in _ (by omega)]; omega
      have HFM := Lib.hid hfm
      clear hq hfm
      go_wp2
      go_quiet ((go_at_call 44; exact Calls.quiet_of_same (S1.out _ _)))
      have D12 := Lib.hid (below_cell (below_drewN hB.out nq) B12.out)
      have OR1 := Lib.hid (own_drewN OR.out nq)
      have HW1 := Lib.hid (own_drewN how.out nq)
      have HB1 := Lib.hid (below_drewN hB.out nq)
      clear S1 OR how hB dk d1 d12 e1 z1 z2 z3 z4 z5
      generalize wr.drewN nq = w1 at D12 OR1 HW1 HB1 ⊢
      obtain ⟨N, hN⟩ : ∃ N : Nat, Hid (needs l.pn r.cs first m = N) := ⟨_, Lib.hid rfl⟩
      have hN0 := Lib.hid (show N = if l.pn ≤ S then 3 else m from by rw [← hN.out, needs, hS.out])
      go_upto_if 44 with fail
      go_cut [7] (fun s7 wx => s7 = .int .i64 (N : Int) ∧ w1 = wx)
      case first =>
        by_cases hp : l.pn ≤ S
        · have hd : decide (l.pn ≤ S) = true := by simpa using hp
          have hN1 : N = 3 := by rw [hN0.out, if_pos hp]
          subst hN1
          go_wp2
          go_meet
          exact ⟨rfl, rfl⟩
        · have hd : decide (l.pn ≤ S) = false := by simpa using hp
          have hN1 : N = m := by rw [hN0.out, if_neg hp]
          subst hN1
          go_wp2
          go_meet
          exact ⟨rfl, rfl⟩
      case rest =>
        obtain ⟨rfl, rfl⟩ := hcut
        have d12 := D12.out
        have hNm : N ≤ 40 := by have := HFM.out; rw [hN0.out]; split <;> omega
        obtain ⟨t, ht⟩ : ∃ t, first + N = t := ⟨_, rfl⟩
        have HT := Lib.hid ht
        have hst := Lib.hid (set_step (pn := l.pn) (cs := r.cs) (f := first) (acc := acc) HF2.out)
        have e2 : IntKind.i64.wrap ((first : Int) + (N : Int)) = (t : Int) := by rw [IntWalk.i64_in _ (by have := HFM.out; omega)]; omega
        by_cases hbr : r.cs.length < t
        · have hb1 : (r.cs.length : Int) < (t : Int) := by omega
          have hacc := Lib.hid (show acc = setL l r from by
            have h1 := hgo.out
            rw [hst.out, HM.out, hN.out, HT.out, if_pos hbr] at h1
            exact h1)
          clear ht hbr
          go_wp2_with fail
          go_returns
          exact ⟨_, rfl, by rw [← hacc.out, hal]; exact HW1.out, HB1.out⟩
        · have hb1 : ¬ (r.cs.length : Int) < (t : Int) := by omega
          have hgo2 := Lib.hid (show setGo l.pn r.cs ((r.fs.take F).drop (k + 1)) q (acc ++ [(partL r.cs first N).sum + lastC acc]) = setL l r from by
            have h1 := hgo.out
            rw [hst.out, HM.out, hN.out, HT.out, if_neg hbr, HQ.out] at h1
            exact h1)
          have hq40 : q ≤ 40 := by have := HFM.out; have := HQ.out; omega
          have z1 : (0 : Int) ≤ (first : Int) := by omega
          have z2 : (first : Int) ≤ (t : Int) := by omega
          have z3 : (t : Int) ≤ (cc : Int) := by omega
          have z4 : t - first = N := by omega
          have z5 : ¬ cc = first := by have := HFM.out; omega
          have hS2b := part_bd r.cs first N RS.out.cb hcl10
          have S2c : Hid (∀ c', Calls Tryd.prog 44 #[.slice (some ⟨ca, first, none⟩) N c'] w1 fun e w' => e = .returned (.int .i64 (partL r.cs first N).sum) ∧ w1 = w') := Lib.hid (fun c' => (sum_part OR1.out RS.out.cb hcl10 (by omega)).mono fun _ _ h => ⟨h.1, h.2.symm⟩)
          obtain ⟨S2, hS2⟩ : ∃ S2, (partL r.cs first N).sum = S2 := ⟨_, rfl⟩
          rw [hS2] at S2c hgo2 hS2b
          clear ht hbr hS2
          go_upto_if 65 with (go_at_call 44; refine (S2c.out _).mono ?_; rintro e w' ⟨rfl, rfl⟩)
          clear S2c z1 z2 z3 z4 z5 e2 d12
          have hlc := Lib.hid (show 0 ≤ lastC acc ∧ lastC acc ≤ 400 * (k : Int) from by
            cases k with
            | zero => rw [List.eq_nil_of_length_eq_zero hal]; decide
            | succ j => exact hab.out _ (List.mem_of_getElem? (lastC_at hal)))
          obtain ⟨c0, hc0'⟩ : ∃ c0, lastC acc = c0 := ⟨_, rfl⟩
          rw [hc0'] at hlc hgo2
          have HC0 := Lib.hid hc0'
          clear hc0'
          go_cut [8] (fun s8 wx => s8 = .int .i64 (S2 + c0) ∧ Hid (wx.ownsRow w.heap.size 3 1 u3 k (acc.map (Value.int .i64))) ∧ Hid (Below w.heap.size w wx))
          case first =>
            by_cases hk2 : k = 0
            · have hz : c0 = 0 := by rw [← HC0.out, List.eq_nil_of_length_eq_zero (hal.trans hk2)]; rfl
              have hd : ¬ (0 : Int) < (k : Int) := by omega
              subst hz
              clear hk2
              go_wp2
              go_meet
              exact ⟨by simp, HW1, HB1⟩
            · obtain ⟨j, hj⟩ : ∃ j, k = j + 1 := ⟨k - 1, by omega⟩
              have hd : (0 : Int) < (k : Int) := by omega
              obtain ⟨ga, capA, rfl, -, -, -, -⟩ := own_form HW1.out (by omega)
              have cA : w1.cell? ⟨ga, j, none⟩ = some (.int .i64 c0) := own_cell HW1.out j _ (by rw [List.getElem?_map, lastC_at (hal.trans hj), HC0.out]; rfl)
              have e3 : IntKind.i64.wrap ((k : Int) - 1) = (j : Int) := by rw [IntWalk.i64_in _ (by omega)]; omega
              have hj0 : (0 : Int) ≤ (j : Int) := by omega
              have hj1 : (j : Int) < (k : Int) := by omega
              have S3c : Hid (∀ c', Calls Tryd.prog 44 #[.slice (some ⟨w1.heap.size, 0, none⟩) 2 c'] (w1.alloc (.cells #[.int .i64 S2, .int .i64 c0] 3)) fun e w' => e = .returned (.int .i64 (S2 + c0)) ∧ w1.alloc (.cells #[.int .i64 S2, .int .i64 c0] 3) = w') :=
                Lib.hid (fun c' => (sum_same [S2, c0] (some ⟨w1.heap.size, 0, none⟩) c' _ (two_balls w1 S2 c0 3) (fun x hx => by
                  simp only [List.mem_cons, List.not_mem_nil, or_false] at hx
                  have := hlc.out
                  rcases hx with rfl | rfl <;> omega) (by simp)).mono fun _ _ h => ⟨by rw [h.1]; simp, h.2.symm⟩)
              have HW2 := Lib.hid (HW1.out.alloc (.cells #[.int .i64 S2, .int .i64 c0] 3))
              have HB2 := Lib.hid (HB1.out.alloc HB1.out.size (.cells #[.int .i64 S2, .int .i64 c0] 3))
              clear hk2 hj
              go_wp2_with (go_at_call 44; refine (S3c.out _).mono ?_; rintro e w' ⟨rfl, rfl⟩)
              go_meet
              exact ⟨rfl, HW2, HB2⟩
          case rest =>
            obtain ⟨rfl, how2, hB2⟩ := hcut
            obtain ⟨cN, hcN⟩ : ∃ cN, S2 + c0 = cN := ⟨_, rfl⟩
            rw [hcN] at hgo2 ⊢
            have hcb := Lib.hid (show 0 ≤ cN ∧ cN ≤ 400 * ((k + 1 : Nat) : Int) from by have := hlc.out; omega)
            have e4 : IntKind.i64.wrap ((first : Int) + (m : Int)) = (q : Int) := by have := HQ.out; rw [IntWalk.i64_in _ (by omega)]; omega
            have hsz := hB2.out.size
            have how0 := how2.out
            clear hcN hS2b HW1 HB1
            go_wp2_with (at_builtin; refine wpList_append_own_at _ rfl _ _ 28 rfl w.heap.size 3 i3 (.int .i64 0) 1 8 Tryd.underlying28 hi3 hy0 hy1 hy2 rfl (by decide) _ _ _ rfl (how0.alloc _) ⟨wc.heap.size, 0, none⟩ 1 1 [.int .i64 cN] rfl rfl (cell_one_new _ _ _) (by simp [Value.oneCell']) (by unfold maxLen; omega) (by omega) (by simp; omega) ?_; intro v' w9 hown' hgrow hnil hloc; have ho1 := Lib.hid hown'; have hB9 := Lib.hid (below_own (hB2.out.alloc hsz _) (how0.alloc _) hgrow); clear hown' hgrow hnil hloc)
            go_roundg (F - (k + 1))
            case measure => omega
            case rel =>
              refine ⟨k + 1, q, acc ++ [cN], by omega, rfl, by simp, rfl, by simp [hal], Lib.hid ?_, Lib.hid ?_, hgo2, Lib.hid ?_, hB9⟩
              · rw [lens_take _ _ _ HF2.out, ← hfi.out, HM.out, HQ.out]
              · intro c hc
                rcases List.mem_append.1 hc with hc | hc
                · have := hab.out c hc; omega
                · simp only [List.mem_cons, List.not_mem_nil, or_false] at hc
                  subst hc
                  exact hcb.out
              · rw [List.map_append]
                exact ho1.out
    · have hke : k = F := by omega
      subst hke
      have hd : List.drop k (r.fs.take k) = [] := List.drop_eq_nil_of_le (by simp; omega)
      have hacc := Lib.hid (show acc = setL l r from by have := hgo.out; rwa [hd, setGo] at this)
      clear hd hlt hgo
      go_wp2_with fail
      go_returns
      exact ⟨_, rfl, by rw [← hacc.out, hal]; exact how.out, hB.out⟩

end Go.Proofs.YtmjbidnlknmcgabDoor

namespace Go.Proofs.YtmjbidnlknmcgabDoor
open Go.RowKit

set_option maxRecDepth 100000 in
set_option maxHeartbeats 4000000 in
theorem settled_zero (l : Lw) (s : Sd) (tot : Int) (fv cv : Value) (n base b : Nat) (xs : List Value) (w : World) (rb : RB w b l s fv cv tot) (o24 : w.ownsRow base 28 1 fv n xs) (hf : s.f = 0) :
    Calls Tryd.prog 29 #[.pointer (some ⟨b, 0, none⟩)] w fun e w' => e = .returned (.slice none 0 0) ∧ Below w.heap.size w w' := by
  have c4 : w.cell? ⟨b, 4, none⟩ = some (.int .i64 0) := by rw [← hf]; exact rb.at.c4
  have c11 := rb.c11
  clear rb
  rcases o24.2 with ⟨rfl, -⟩ | ⟨fa, fc, cur, rfl, -, -, hfc, hfm, -⟩
  · clear o24
    go_enter Tryd.func29, Tryd.ntmps29
    go_wp2
    go_quiet (fail)
    go_wp2
    have W0 := Lib.hid (below_drewN (Below.refl w.heap.size w) nq)
    generalize w.drewN nq = w0 at W0 ⊢
    go_loopg [3, 4, 21] 0 (fun g s3 s4 s21 wx => s21 = .int .i64 0 ∧ s3 = .slice none 0 0 ∧ g = 0 ∧ Hid (Below w.heap.size w wx))
    case atStart => exact ⟨rfl, rfl, rfl, W0⟩
    case round =>
      obtain ⟨rfl, rfl, rfl, hB⟩ := hrel
      go_wp2_with fail
      go_returns
      exact ⟨rfl, hB.out⟩
  · have g0 : (0 : Int) ≤ (fc : Int) := by omega
    clear o24
    go_enter Tryd.func29, Tryd.ntmps29
    go_wp2
    go_quiet (fail)
    go_wp2
    have W0 := Lib.hid (below_drewN (Below.refl w.heap.size w) nq)
    generalize w.drewN nq = w0 at W0 ⊢
    go_loopg [3, 4, 21] 0 (fun g s3 s4 s21 wx => s21 = .int .i64 0 ∧ s3 = .slice none 0 0 ∧ g = 0 ∧ Hid (Below w.heap.size w wx))
    case atStart => exact ⟨rfl, rfl, rfl, W0⟩
    case round =>
      obtain ⟨rfl, rfl, rfl, hB⟩ := hrel
      go_wp2_with fail
      go_returns
      exact ⟨rfl, hB.out⟩

/-- A record of no balls stands at its first frame. -/
theorem recS_zero {l : Lw} {bs : List Int} (h : rdE l bs = 0) (h0 : (recS l bs).cs.length = 0) : (recS l bs).s.f = 0 := by
  obtain ⟨ok, hw, _⟩ := recS_ok h
  have h1 := hw.cs
  have h2 : bs = [] := List.eq_nil_of_length_eq_zero (by omega)
  subst h2
  rfl

theorem settled_any (l : Lw) (bs : List Int) (fv cv : Value) (vs : List Value) (base b : Nat) (w : World) (h : rdE l bs = 0) (rb : RB w b l (recS l bs).s fv cv (recS l bs).tot) (ow : Owns w base (items fv cv vs (recS l bs).fs (recS l bs).cs)) (ln : vs.length = (recS l bs).fs.length) :
    Calls Tryd.prog 29 #[.pointer (some ⟨b, 0, none⟩)] w fun e w' => ∃ v, e = .returned v ∧
      w'.ownsRow w.heap.size 3 1 v (setL l (recS l bs)).length ((setL l (recS l bs)).map (Value.int .i64)) ∧ Below w.heap.size w w' := by
  obtain ⟨ok, hw, _⟩ := recS_ok h
  have f1 := hw.vd.f1
  have f2 := hw.vd.f2
  have f3 := ok.f2
  by_cases hf : (recS l bs).s.f = 0
  · refine (settled_zero l (recS l bs).s (recS l bs).tot fv cv vs.length base b vs w rb (by simpa using ow.own (28, fv, vs) (by simp [items])) hf).mono ?_
    rintro e w' ⟨rfl, hB⟩
    have hs : setL l (recS l bs) = [] := by rw [setL, hf]; rfl
    exact ⟨_, rfl, by rw [hs]; exact World.ownsRow_nil _ _ _ _, hB⟩
  · have hc : 0 < (recS l bs).cs.length := by
      apply Classical.byContradiction
      intro h0
      exact hf (recS_zero h (by omega))
    exact settled_pos l (recS l bs) fv cv vs base b w ok rb ow ln (recS_rcs h) (by omega) (by omega) hc

end Go.Proofs.YtmjbidnlknmcgabDoor
