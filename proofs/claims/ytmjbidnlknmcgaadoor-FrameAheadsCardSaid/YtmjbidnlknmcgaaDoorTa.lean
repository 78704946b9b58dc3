/- What the reference remembers of the rests of endings: keys, and rows of bits. -/
import Derived.Test.YtmjbidnlknmcgaaDoorRf
import Derived.Test.YtmjbidnlknmcgaaDoorLVal
import Derived.Test.YtmjbidnlknmcgaaDoorLR
set_option linter.unusedVariables false
set_option linter.unusedSimpArgs false
namespace Go.Proofs.YtmjbidnlknmcgaaDoor
open Go.RowKit Go.Maps

/-- But for whether the last frame has more balls, the same. -/
structure Eqv (u v : Sd) : Prop where
  f : u.f = v.f
  b : u.b = v.b
  s : u.s = v.s
  fr : u.fresh = v.fresh
  x : u.x = v.x
  y : u.y = v.y

theorem Eqv.beh {l : Lw} (hb : l.bl = 3) {s s' : Sd} (h : Eqv s s') (k : Int) : Eqv (behS l s k) (behS l s' k) := by
  obtain ⟨f, b, ss, fr, mo, x, y⟩ := s
  obtain ⟨f', b', ss', fr', mo', x', y'⟩ := s'
  obtain ⟨h1, h2, h3, h4, h5, h6⟩ := h
  simp only at h1 h2 h3 h4 h5 h6
  subst h1 h2 h3 h4 h5 h6
  have hc : cnt l ⟨f, b, ss, fr, mo', x, y⟩ k = cnt l ⟨f, b, ss, fr, mo, x, y⟩ k := rfl
  unfold behS finS midS thrS
  rw [hc]
  generalize cnt l ⟨f, b, ss, fr, mo, x, y⟩ k = c
  unfold allS endS nextS setS
  simp only [hb]
  by_cases h1 : ss - c = 0 <;> by_cases h2 : f = l.fr - 1 <;> cases mo <;> cases mo' <;> by_cases h3 : b + 1 < 3 <;> by_cases h4 : b + 1 = 3 <;> by_cases h5 : f + 1 = l.fr <;>
    simp only [h1, h2, h3, h4, h5, if_true, if_false, Bool.true_or, Bool.false_or, Bool.or_true, Bool.or_false, decide_true, decide_false, beq_self_eq_true] <;>
    (first | (constructor <;> simp_all; done) | (exfalso; omega) | (split <;> constructor <;> simp_all; done) | (constructor <;> (repeat' split) <;> simp_all))

theorem Rs_eqv {l : Lw} (ok : l.Ok) (hb : l.bl = 3) : ∀ (n : Nat) (u v : Sd), mu l u < n → Vd l u → Vd l v → Eqv u v → Rs l u = Rs l v := by
  intro n
  induction n with
  | zero => intro u v h; omega
  | succ n ih =>
    intro u v hn hu hv he
    have hall : allB l u = allB l v := by unfold allB; rw [he.f, he.s]
    rw [Rs_eq ok u hu, Rs_eq ok v hv, ← hall]
    unfold part
    rw [he.f]
    refine foldl_same _ _ (fun k hk t => ?_)
    obtain ⟨hf, h0, h1⟩ := mem_allB hk
    have hs := hu.s1
    have b1 := beh_vd (k := k) ok hu (by have := hu.f2; omega) (by omega) (by omega)
    have b2 := beh_vd (k := k) ok hv (by have := hv.f2; rw [← he.f]; have := hu.f2; omega) (by omega) (by rw [← he.s]; omega)
    have had : ad l u k = ad l v k := by
      unfold ad cnt
      rw [he.fr, he.x]
    rw [ih _ _ (by omega) b1.1 b2.1 (he.beh hb k), had]

set_option maxRecDepth 100000 in
theorem row105 : (105 : TypeId) < Tryd.prog.types.size := of_decide_eq_true (by kernel_rfl)
set_option maxRecDepth 100000 in
theorem wide105 : (match Tryd.prog.underlying 105 with | some (.array _ _) | some (.struct _) => true | _ => false) = true := by rw [Tryd.underlying105]
set_option maxRecDepth 100000 in
theorem law105 : Keyed Tryd.prog 105 := Keyed.of_law (deep_law_laid laidOut (m := 4) (by omega) row105 (by kernel_rfl) wide105)
theorem deep105 : Tryd.prog.keyTypeAt (Tryd.prog.types.size + 1) 105 = true := by kernel_rfl
theorem cells105 : Tryd.prog.cellsOf 105 = 7 := by kernel_rfl
theorem cells36 : Tryd.prog.cellsOf 36 = 5 := by kernel_rfl

/-- A tail: how a game stands, and what the next balls count besides. -/
def tlv (l : Lw) (s : Sd) : Value := .agg #[.int .i64 (refS l s).f, .int .i64 (refS l s).b, .int .i64 (refS l s).s, .bool (refS l s).set, .int .i64 (refS l s).has, .int .i64 s.x, .int .i64 s.y]
def litsT (l : Lw) (s : Sd) : List Lit := [.int .i64 (refS l s).f, .int .i64 (refS l s).b, .int .i64 (refS l s).s, .bool (refS l s).set, .int .i64 (refS l s).has, .int .i64 s.x, .int .i64 s.y]
def kt (l : Lw) (s : Sd) : Lit := .string (keyBytes (litsT l s))

def WfT (l : Lw) (s : Sd) : Prop := (Lit.int .i64 (refS l s).f).wf = true ∧ (Lit.int .i64 (refS l s).b).wf = true ∧ (Lit.int .i64 (refS l s).s).wf = true ∧ (Lit.int .i64 (refS l s).has).wf = true ∧ (Lit.int .i64 s.x).wf = true ∧ (Lit.int .i64 s.y).wf = true

theorem keyLits105 (l : Lw) (s : Sd) (h : WfT l s) (d : Nat) : Tryd.prog.keyLits (d + 3) 105 (tlv l s).cells.toList = some (litsT l s) := by
  obtain ⟨h1, h2, h3, h4, h5, h6⟩ := h
  simp [Program.keyLits, Tryd.underlying105, Tryd.underlying36, Tryd.underlying3, Tryd.underlying4, cells105, cells36, cells3, cells4, tlv, Value.cells, litsT, h1, h2, h3, h4, h5, h6]
  rw [if_pos (by decide)]
  rfl

theorem key105 (l : Lw) (s : Sd) (h : WfT l s) : keyOf Tryd.prog 105 (tlv l s) = some (kt l s) := by
  have e : Tryd.prog.underlying 105 = _ := Tryd.underlying105
  unfold keyOf
  rw [e]
  have hk : Tryd.prog.keyType 105 = true := deep105
  have hf : (tlv l s).formed Tryd.prog 105 = true := by simp [Value.formed, tlv, Tryd.underlying105, cells105]
  simp only [hk, hf, Bool.and_self, if_true, size155]
  rw [keyLits105 l s h 153]
  rfl

theorem Vd.wfT {l : Lw} {s : Sd} (ok : l.Ok) (v : Vd l s) : WfT l s := by
  have o0 := ok.f1
  have o1 := ok.f2
  have o2 := ok.p2
  have o3 := ok.p1
  have o4 := ok.b
  have a1 := v.f1
  have a2 := v.f2
  have a3 := v.b1
  have a4 := v.b2
  have a5 := v.s1
  have a6 := v.s2
  have a7 := v.x1
  have a8 := v.x2
  have a9 := v.y1
  have a10 := v.y2
  unfold WfT refS
  split
  · exact ⟨wf_i (by simp; omega) (by simp; omega), wf_i (by simp) (by simp), wf_i (by simp; omega) (by simp; omega), wf_i (by simp; omega) (by simp; omega), wf_i (by omega) (by omega), wf_i (by omega) (by omega)⟩
  · refine ⟨wf_i (by simp; omega) (by simp; omega), wf_i (by simp; omega) (by simp; omega), wf_i (by simp; omega) (by simp; omega), wf_i ?_ ?_, wf_i (by omega) (by omega), wf_i (by omega) (by omega)⟩
    · simp only; split <;> omega
    · simp only; split <;> omega

/-- Equal keys, equal rests. -/
theorem kt_Rs {l : Lw} (ok : l.Ok) {u v : Sd} (hu : Vd l u) (hv : Vd l v) (fu : u.f ≠ l.fr) (fv : v.f ≠ l.fr) (e : kt l u = kt l v) : Rs l u = Rs l v := by
  have h1 := key105 l u (hu.wfT ok)
  rw [e] at h1
  have h2 := law105.inj h1 (key105 l v (hv.wfT ok))
  simp only [tlv, Value.agg.injEq, Array.mk.injEq, List.cons.injEq, Value.int.injEq, Value.bool.injEq, true_and, and_true] at h2
  obtain ⟨a, b, c, d, e, f, g⟩ := h2
  unfold refS at a b c d e
  rw [if_neg fu, if_neg fv] at a b c d e
  simp only at a b c d e
  rcases ok.b with hb | hb
  · rw [hb] at e
    have hm : u.more = v.more := by
      cases h3 : u.more <;> cases h4 : v.more <;> simp [h3, h4] at e ⊢
    rw [Sd.ext a b c d hm f g]
  · exact Rs_eqv ok hb _ _ _ (Nat.lt_succ_self _) hu hv ⟨a, b, c, d, f, g⟩

/-- How an element reads: a row's header. -/
def sread : Value → Option (DataW Unit × List MemPlace)
  | .slice (some ⟨g, 0, none⟩) n c => some (.agg [.lit (.int .i64 (g : Int)), .lit (.int .i64 (n : Int)), .lit (.int .i64 (c : Int))], [])
  | .slice none 0 0 => some (.agg [], [])
  | _ => none

def sdat (g n c : Nat) : DataW Unit := .agg [.lit (.int .i64 (g : Int)), .lit (.int .i64 (n : Int)), .lit (.int .i64 (c : Int))]
theorem sread_val (g n c : Nat) : sread (.slice (some ⟨g, 0, none⟩) n c) = some (sdat g n c, []) := rfl
theorem sread_inv {v : Value} {g n c : Nat} {ps : List MemPlace} (h : sread v = some (sdat g n c, ps)) : v = .slice (some ⟨g, 0, none⟩) n c := by
  unfold sread at h
  split at h
  · simp only [sdat, Option.some.injEq, Prod.mk.injEq, DataW.agg.injEq, List.cons.injEq, DataW.lit.injEq, Lit.int.injEq, true_and, and_true] at h
    obtain ⟨⟨h0, h1, h2⟩, _⟩ := h
    have e0 : _ = g := Int.ofNat_inj.1 h0
    have e1 : _ = n := Int.ofNat_inj.1 h1
    have e2 : _ = c := Int.ofNat_inj.1 h2
    rw [e0, e1, e2]
  · simp [sdat] at h
  · cases h

theorem zero102 (w : World) : (zeroValue 102).run Tryd.prog w = .ok (.slice none 0 0) w := by kernel_rfl
theorem sread_zero : sread (.slice none 0 0) = some (.agg [], []) := rfl

/-- A row of a number's bits. -/
structure BitsAt (w : World) (g n N : Nat) : Prop where
  c : ∀ j, j < n → w.cell? ⟨g, j, none⟩ = some (.bool (N.testBit j))
  lt : N < 2 ^ n
  pos : 0 < n
  le : n ≤ 1000
  top : N.testBit (n - 1) = true

theorem BitsAt.far {w w' : World} {g n N : Nat} {row : Option Nat} (h : BitsAt w g n N) (hg : w.grownBy w' row) (hne : some g ≠ row) : BitsAt w' g n N :=
  ⟨fun j hj => (hg.cell_far _ (World.block_lt_of_cell? w _ (h.c j hj)) hne).trans (h.c j hj), h.lt, h.pos, h.le, h.top⟩
theorem BitsAt.blk {w : World} {g n N : Nat} (h : BitsAt w g n N) : g < w.heap.size := World.block_lt_of_cell? w ⟨g, 0, none⟩ (h.c 0 h.pos)

/-- What the memory holds is so; F are blocks that it keeps away from. -/
structure GoodT (w : World) (F : Nat → Prop) (l : Lw) (D : DataW Unit) : Prop where
  tidy : Tidy D
  keys : ∀ es, D = .map es → ∀ p ∈ es, p.1 ∈ sdU.map (kt l)
  els : ∀ s, Vd l s → s.f ≠ l.fr → Maps.has D (kt l s) = true → ∀ z, ∃ g n c, D.atKey (kt l s) z = sdat g n c ∧ BitsAt w g n (Rs l s) ∧ ¬ F g

theorem GoodT.size {w : World} {F : Nat → Prop} {l : Lw} {D : DataW Unit} (h : GoodT w F l D) : Maps.size D ≤ 8712 := by
  obtain ⟨es, rfl, hp⟩ := h.tidy
  have h1 := len_le (es.map (·.1)) (sdU.map (kt l)) (by rw [List.Nodup, List.pairwise_map]; exact hp) (fun x hx => by
    obtain ⟨p, hp, rfl⟩ := List.mem_map.1 hx
    exact h.keys es rfl p hp)
  rw [List.length_map, List.length_map, sdU_len] at h1
  exact h1

theorem GoodT.put {w : World} {F : Nat → Prop} {l : Lw} {D : DataW Unit} {s : Sd} {g n c : Nat} (ok : l.Ok) (v : Vd l s) (hf : s.f ≠ l.fr) (h : GoodT w F l D) (hb : BitsAt w g n (Rs l s)) (hF : ¬ F g) : GoodT w F l (D.put (kt l s) (sdat g n c)) where
  tidy := h.tidy.put (law105.key (key105 l s (v.wfT ok))) _
  keys es he p hp := by
    obtain ⟨es0, rfl, _⟩ := h.tidy
    unfold DataW.put at he
    simp only [DataW.map.injEq] at he
    subst he
    rcases mem_insert _ hp with h1 | h1
    · rw [h1]; exact List.mem_map.2 ⟨s, mem_sdU ok v, rfl⟩
    · exact h.keys _ rfl p (List.mem_filter.1 h1).1
  els s' v' f' hh z := by
    by_cases e : kt l s' = kt l s
    · rw [e, atKey_put_same h.tidy.isMap (law105.key (key105 l s (v.wfT ok))), kt_Rs ok v' v f' hf e]
      exact ⟨g, n, c, rfl, hb, hF⟩
    · rw [atKey_put_other e]
      rw [has_put_other e] at hh
      exact h.els s' v' f' hh z

theorem GoodT.far {w w' : World} {F : Nat → Prop} {l : Lw} {D : DataW Unit} {row : Option Nat} (h : GoodT w F l D) (hg : w.grownBy w' row) (hr : ∀ g, (w.cell? ⟨g, 0, none⟩).isSome = true → ¬ F g → some g ≠ row) : GoodT w' F l D :=
  ⟨h.tidy, h.keys, fun s v f hh z => by
    obtain ⟨g, n, c, h1, h2, h3⟩ := h.els s v f hh z
    exact ⟨g, n, c, h1, h2.far hg (hr g (by rw [h2.c 0 h2.pos]; rfl) h3), h3⟩⟩

theorem goodT_empty (w : World) (F : Nat → Prop) (l : Lw) : GoodT w F l (.map []) := ⟨tidy_empty, fun es he p hp => (by cases he; cases hp), fun s _ _ h => (by cases h)⟩

theorem owns_sizeT {w : World} {b n : Nat} {D : DataW Unit} (h : w.ownsMap Tryd.prog 105 sread b n D) {m : Nat} (hm : Maps.size D ≤ m) : w.ownsMap Tryd.prog 105 sread b m D := by
  obtain ⟨es, clock, hb, F, hs, rfl⟩ := h
  refine ⟨es, clock, hb, F, ?_, rfl⟩
  have : ((es.toList.map (WideElems.rg Tryd.prog 105 sread)).foldr DataW.insert []).length = es.size := by rw [length_sorted]; simp
  rw [Maps.size_eq, this] at hm
  exact hm

/-- Block b is the reference's memory. -/
structure MT (w : World) (F : Nat → Prop) (b : Nat) (l : Lw) : Prop where
  mem : ∃ D, w.ownsMap Tryd.prog 105 sread b 8712 D ∧ GoodT w F l D

theorem MT.lt {w : World} {F : Nat → Prop} {b : Nat} {l : Lw} (h : MT w F b l) : b < w.heap.size := by
  obtain ⟨D, h1, _⟩ := h.mem
  exact h1.lt
theorem MT.noCell {w : World} {F : Nat → Prop} {b : Nat} {l : Lw} (h : MT w F b l) (i : Nat) : w.cell? ⟨b, i, none⟩ = none := by
  obtain ⟨D, ⟨es, ck, hb, _⟩, _⟩ := h.mem
  simp [World.cell?, hb]
/-- Other blocks have turned: new ones, and one that the memory keeps away from. -/
theorem MT.kept {w w' : World} {F : Nat → Prop} {b : Nat} {l : Lw} {row : Option Nat} (h : MT w F b l) (hg : w.grownBy w' row) (hr : ∀ k, row = some k → k ≠ b ∧ (F k ∨ w.heap.size ≤ k)) : MT w' F b l := by
  obtain ⟨D, h1, h2⟩ := h.mem
  refine ⟨D, h1.kept hg (fun e => (hr b e.symm).1 rfl), h2.far hg (fun g hc hF e => ?_)⟩
  rcases (hr g e.symm).2 with h3 | h3
  · exact hF h3
  · cases hcc : w.cell? ⟨g, 0, none⟩ with
    | none => rw [hcc] at hc; cases hc
    | some v =>
      have h4 : g < w.heap.size := World.block_lt_of_cell? w ⟨g, 0, none⟩ hcc
      omega
theorem MT.lo {w w' : World} {F : Nat → Prop} {b : Nat} {l : Lw} (h : MT w F b l) (hB : Below w.heap.size w w') : MT w' F b l := h.kept (below_row hB) (fun k e => by cases e)
/-- It keeps away from blocks that are not there yet. -/
theorem MT.more {w : World} {F : Nat → Prop} {b : Nat} {l : Lw} (h : MT w F b l) (G : Nat → Prop) (hG : ∀ k, G k → F k ∨ w.heap.size ≤ k) : MT w G b l := by
  obtain ⟨D, h1, h2⟩ := h.mem
  refine ⟨D, h1, h2.tidy, h2.keys, fun s v f hh z => ?_⟩
  obtain ⟨g, n, c, h3, h4, h5⟩ := h2.els s v f hh z
  refine ⟨g, n, c, h3, h4, fun hg => ?_⟩
  rcases hG g hg with h6 | h6
  · exact h5 h6
  · have := h4.blk
    omega

end Go.Proofs.YtmjbidnlknmcgaaDoor
