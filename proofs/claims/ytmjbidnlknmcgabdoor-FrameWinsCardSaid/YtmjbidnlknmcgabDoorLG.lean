/- What a record owns: its block, its rows, each apart from the others. A region that draws its order, each of whose operations yields one value whatever the order: one step an operation serves every order. What each step of a note leaves of a record. The contract of the note of a ball in a record. -/
import Derived.Test.YtmjbidnlknmcgabDoorLD
import Derived.Deep.AppendLies
import Derived.Deep.RegionHeld3
import Derived.OwnWalk
import Derived.Maps.AppendAt
import Derived.Maps.Range
import Derived.Orders
import Derived.RegionTactic
import Derived.WalkSpells
import Derived.RangeFuncBox
set_option linter.unusedVariables false
set_option linter.unusedSimpArgs false
namespace Go.Proofs.YtmjbidnlknmcgabDoor
open Go.RowKit

/-- A record in its block. -/
structure RB (w : World) (b : Nat) (l : Lw) (s : Sd) (fv cv : Value) (tot : Int) : Prop where
  blk : w.heap[b]? = some (.cells #[.int .i64 l.fr, .int .i64 l.pn, .int .i64 l.bl, .int .i64 l.tp, .int .i64 s.f, .int .i64 s.b, .int .i64 s.s, .bool s.fresh, .bool s.more, .int .i64 s.x, .int .i64 s.y, fv, cv, .int .i64 tot] 74 (0, 0))

section
variable {w : World} {b : Nat} {l : Lw} {s : Sd} {fv cv : Value} {tot : Int} (h : RB w b l s fv cv tot)
include h
theorem RB.at : GameAt w b l s := by
  have h := h.blk
  constructor <;> simp [World.cell?, h]
theorem RB.c11 : w.cell? ⟨b, 11, none⟩ = some fv := by have h := h.blk; simp [World.cell?, h]
theorem RB.c12 : w.cell? ⟨b, 12, none⟩ = some cv := by have h := h.blk; simp [World.cell?, h]
theorem RB.c13 : w.cell? ⟨b, 13, none⟩ = some (.int .i64 tot) := by have h := h.blk; simp [World.cell?, h]
theorem RB.free (i : Nat) : w.frozen? ⟨b, i, none⟩ = false := by have h := h.blk; simp [World.frozen?, h]
theorem RB.set11 (v : Value) : RB (w.setCell ⟨b, 11, none⟩ v) b l s v cv tot := ⟨by simpa using blk_setCell h.blk 11 v⟩
theorem RB.set12 (v : Value) : RB (w.setCell ⟨b, 12, none⟩ v) b l s fv v tot := ⟨by simpa using blk_setCell h.blk 12 v⟩
theorem RB.set13 (v : Int) : RB (w.setCell ⟨b, 13, none⟩ (.int .i64 v)) b l s fv cv v := ⟨by simpa using blk_setCell h.blk 13 (.int .i64 v)⟩
theorem RB.drewN (n : Nat) : RB (w.drewN n) b l s fv cv tot := by cases n <;> exact ⟨h.blk⟩
theorem RB.grown {w' : World} {row : Option Nat} (hg : w.grownBy w' row) (hne : some b ≠ row) : RB w' b l s fv cv tot := ⟨(hg.block b (lt_of_block h.blk) hne).trans h.blk⟩
end

/-- A row: its elements' type, the slice, what it holds. -/
abbrev Item := TypeId × Value × List Value
def Item.apart (p q : Item) : Prop := ∀ k, p.2.1.ownBlock = some k → q.2.1.ownBlock ≠ some k

/-- All these rows are owned, each apart from the others. -/
structure Owns (w : World) (base : Nat) (L : List Item) : Prop where
  own : ∀ p ∈ L, w.ownsRow base p.1 1 p.2.1 p.2.2.length p.2.2
  ap : L.Pairwise Item.apart

theorem Owns.kept {w w' : World} {base : Nat} {L : List Item} {row : Option Nat} (h : Owns w base L) (hg : w.grownBy w' row) (hne : ∀ k, row = some k → k < base) : Owns w' base L :=
  ⟨fun p hp => (h.own p hp).kept hg (by
    cases hk : p.2.1.ownBlock with
    | none => exact .inl rfl
    | some k => exact .inr (fun e => by have := ((h.own p hp).lt k hk).1; have := hne k e.symm; omega)), h.ap⟩

theorem Item.apart.symm {p q : Item} (h : Item.apart p q) : Item.apart q p := fun k hq hp => h k hp hq

/-- One row has been appended to. -/
theorem Owns.step {w w' : World} {base : Nat} {A C : List Item} {e : TypeId} {v v' : Value} {xs ys : List Value} (h : Owns w base (A ++ (e, v, xs) :: C)) (hg : w.grownBy w' v.ownBlock) (ho : w'.ownsRow base e 1 v' ys.length ys)
    (hl : v'.ownBlock = v.ownBlock ∨ ∀ k, v'.ownBlock = some k → w.heap.size ≤ k) : Owns w' base (A ++ (e, v', ys) :: C) := by
  have hap := h.ap
  rw [List.pairwise_append] at hap
  obtain ⟨hA, hC, hAC⟩ := hap
  rw [List.pairwise_cons] at hC
  have other : ∀ p, p ∈ A ∨ p ∈ C → p ∈ A ++ (e, v, xs) :: C ∧ Item.apart p (e, v, xs) := fun p hp => by
    rcases hp with hp | hp
    · exact ⟨by simp [hp], hAC p hp _ (by simp)⟩
    · exact ⟨by simp [hp], (hC.1 p hp).symm⟩
  have kept : ∀ p, p ∈ A ∨ p ∈ C → w'.ownsRow base p.1 1 p.2.1 p.2.2.length p.2.2 := fun p hp => by
    obtain ⟨hm, ha⟩ := other p hp
    refine (h.own p hm).kept hg ?_
    cases hk : p.2.1.ownBlock with
    | none => exact .inl rfl
    | some k => exact .inr (fun e => ha k hk e.symm)
  have napart : ∀ p, p ∈ A ∨ p ∈ C → Item.apart p (e, v', ys) := fun p hp k hk => by
    obtain ⟨hm, ha⟩ := other p hp
    rcases hl with hl | hl
    · show v'.ownBlock ≠ some k
      rw [hl]; exact ha k hk
    · intro hv
      have h1 := ((h.own p hm).lt k hk).2
      have h2 := hl k hv
      omega
  refine ⟨fun p hp => ?_, ?_⟩
  · rcases List.mem_append.1 hp with hp | hp
    · exact kept p (.inl hp)
    · rcases List.mem_cons.1 hp with rfl | hp
      · exact ho
      · exact kept p (.inr hp)
  · rw [List.pairwise_append, List.pairwise_cons]
    refine ⟨hA, ⟨fun q hq => (napart q (.inr hq)).symm, hC.2⟩, fun p hp q hq => ?_⟩
    rcases List.mem_cons.1 hq with rfl | hq
    · exact napart p (.inl hp)
    · exact hAC p hp q (by simp [hq])

/-- A nil slice more, at the end. -/
theorem Owns.nil {w : World} {base : Nat} {A : List Item} (h : Owns w base A) (e : TypeId) : Owns w base (A ++ [(e, .slice none 0 0, [])]) := by
  refine ⟨fun p hp => ?_, ?_⟩
  · rcases List.mem_append.1 hp with hp | hp
    · exact h.own p hp
    · simp only [List.mem_cons, List.not_mem_nil, or_false] at hp
      subst hp
      exact World.ownsRow_nil _ _ _ _
  · rw [List.pairwise_append]
    refine ⟨h.ap, List.pairwise_singleton _ _, fun p hp q hq => ?_⟩
    simp only [List.mem_cons, List.not_mem_nil, or_false] at hq
    subst hq
    intro k _ hk
    cases hk

/-- A row whose cell has been written. -/
theorem ownsRow_set {w : World} {base : Nat} {e : TypeId} {n g c i : Nat} {xs : List Value} {v : Value} (h : w.ownsRow base e 1 (.slice (some ⟨g, 0, none⟩) n c) n xs) (hi : i < n) :
    (w.setCell ⟨g, i, none⟩ v).ownsRow base e 1 (.slice (some ⟨g, 0, none⟩) n c) n (xs.set i v) := by
  obtain ⟨h1, h2⟩ := h
  refine ⟨by simpa using h1, .inr ?_⟩
  rcases h2 with ⟨h0, _⟩ | ⟨g', cap, cur, hv, hg, hh, hn, hc, hs, ht⟩
  · cases h0
  · cases hv
    refine ⟨g, c, cur.setIfInBounds i v, rfl, hg, blk_setCell hh i v, hn, hc, by simpa using hs, ?_⟩
    rw [← ht, Array.toList_setIfInBounds, List.take_set]

/-- The rows of a record: of its frames, of its counts, of each frame. -/
def items (fv cv : Value) (vs : List Value) (fs : List (List Int)) (cs : List Int) : List Item :=
  (28, fv, vs) :: (3, cv, cs.map (Value.int .i64)) :: (vs.zip fs).map fun p => (3, p.1, p.2.map (Value.int .i64))

end Go.Proofs.YtmjbidnlknmcgabDoor

namespace Go.Proofs.YtmjbidnlknmcgabDoor

section
variable {P : Program} {ops : Array Oper} {Q : Exit → Act → World → Prop}

/-- How a frame stands when these operations have been carried out. -/
structure Fr (ops : Array Oper) (base : Act) (val : Nat → Value) (listed : Array Bool) (a : Act) : Prop where
  defers : a.defers = base.defers
  size : a.tmps.size = base.tmps.size
  got : ∀ i o d, ops[i]? = some o → o.dst = some d → listed.getD i false = true → d < base.tmps.size → a.tmps[d]? = some (val i)
  not : ∀ m, (∀ i o, ops[i]? = some o → listed.getD i false = true → o.dst ≠ some m) → a.tmps[m]? = base.tmps[m]?

/-- No two operations write one slot. -/
def distinctB (ops : Array Oper) : Bool :=
  (List.range ops.size).all fun i => (List.range ops.size).all fun j => i == j || (match (ops[i]?).bind (·.dst), (ops[j]?).bind (·.dst) with | some d, some e => d != e | _, _ => true)

/-- Each operation waits for earlier ones alone. -/
def earlierB (ops : Array Oper) : Bool :=
  (List.range ops.size).all fun i => match ops[i]? with | some o => o.after.all fun e => e.on < i | none => true

theorem distinct_of (h : distinctB ops = true) {i j : Nat} {oi oj : Oper} {d : Nat} (hi : ops[i]? = some oi) (hj : ops[j]? = some oj) (hd : oi.dst = some d) (he : oj.dst = some d) : i = j := by
  unfold distinctB at h
  rw [List.all_eq_true] at h
  have h1 := h i (List.mem_range.2 (Array.getElem?_eq_some_iff.1 hi).1)
  rw [List.all_eq_true] at h1
  have h2 := h1 j (List.mem_range.2 (Array.getElem?_eq_some_iff.1 hj).1)
  simp only [hi, hj, Option.bind_some, hd, he] at h2
  simpa using h2

theorem Fr.step {base a : Act} {val : Nat → Value} {listed : Array Bool} {i : Nat} {o : Oper} (hd : distinctB ops = true) (hi : ops[i]? = some o) (hs : listed.size = ops.size) (h : Fr ops base val listed a) :
    Fr ops base val (listed.setIfInBounds i true) (a.put o.dst (val i)) := by
  have hlt : i < listed.size := by rw [hs]; exact (Array.getElem?_eq_some_iff.1 hi).1
  have get : ∀ j, (listed.setIfInBounds i true).getD j false = true → j = i ∨ listed.getD j false = true := fun j hj => by
    by_cases e : j = i
    · exact .inl e
    · right
      simp only [Array.getD_eq_getD_getElem?, Array.getElem?_setIfInBounds] at hj
      rw [if_neg (fun e' => e e'.symm)] at hj
      simpa [Array.getD_eq_getD_getElem?] using hj
  cases hdst : o.dst with
  | none =>
    refine ⟨h.defers, h.size, fun j oj d hj hjd hl hlt' => ?_, fun m hm => h.not m (fun j oj hj hl => hm j oj hj ?_)⟩
    · rcases get j hl with rfl | hl
      · rw [hi] at hj; cases hj; rw [hdst] at hjd; cases hjd
      · exact h.got j oj d hj hjd hl hlt'
    · by_cases e : j = i
      · subst e; simp [Array.getD_eq_getD_getElem?, Array.getElem?_setIfInBounds, hlt]
      · simp only [Array.getD_eq_getD_getElem?, Array.getElem?_setIfInBounds]
        rw [if_neg (fun e' => e e'.symm)]
        simpa [Array.getD_eq_getD_getElem?] using hl
  | some d =>
    refine ⟨h.defers, by simpa [Act.put] using h.size, fun j oj d' hj hjd hl hlt' => ?_, fun m hm => ?_⟩
    · simp only [Act.put, Array.getElem?_setIfInBounds]
      by_cases e : j = i
      · subst e
        rw [hi] at hj; cases hj; rw [hdst] at hjd; cases hjd
        rw [if_pos rfl, if_pos (by rw [h.size]; exact hlt')]
      · have hl' : listed.getD j false = true := (get j hl).resolve_left e
        have hne : d ≠ d' := fun e' => e (distinct_of hd hj hi (by rw [hjd, e']) hdst)
        rw [if_neg hne]
        exact h.got j oj d' hj hjd hl' hlt'
    · simp only [Act.put, Array.getElem?_setIfInBounds]
      have hne : d ≠ m := fun e => hm i o hi (by simp [Array.getD_eq_getD_getElem?, Array.getElem?_setIfInBounds, hlt]) (by rw [hdst, e])
      rw [if_neg hne]
      refine h.not m (fun j oj hj hl => hm j oj hj ?_)
      by_cases e : j = i
      · subst e; simp [Array.getD_eq_getD_getElem?, Array.getElem?_setIfInBounds, hlt]
      · simp only [Array.getD_eq_getD_getElem?, Array.getElem?_setIfInBounds]
        rw [if_neg (fun e' => e e'.symm)]
        simpa [Array.getD_eq_getD_getElem?] using hl

theorem Fr.start (base : Act) (val : Nat → Value) : Fr ops base val (Array.replicate ops.size false) base :=
  ⟨rfl, rfl, fun i o d hi _ hl _ => by
    have hlt := (Array.getElem?_eq_some_iff.1 hi).1
    simp [Array.getD_eq_getD_getElem?, hlt] at hl, fun _ _ => rfl⟩

/-- Two frames in which all has been carried out are one. -/
theorem Fr.unique {base a b : Act} {val : Nat → Value} {listed : Array Bool} (ha : Fr ops base val listed a) (hb : Fr ops base val listed b) : a = b := by
  have hd : a.defers = b.defers := ha.defers.trans hb.defers.symm
  have ht : a.tmps = b.tmps := by
    apply Array.ext_getElem?
    intro m
    by_cases h : ∃ i o, ops[i]? = some o ∧ listed.getD i false = true ∧ o.dst = some m
    · obtain ⟨i, o, hi, hl, hm⟩ := h
      by_cases hlt : m < base.tmps.size
      · rw [ha.got i o m hi hm hl hlt, hb.got i o m hi hm hl hlt]
      · rw [Array.getElem?_eq_none (by rw [ha.size]; omega), Array.getElem?_eq_none (by rw [hb.size]; omega)]
    · have hn : ∀ i o, ops[i]? = some o → listed.getD i false = true → o.dst ≠ some m := fun i o hi hl hm => h ⟨i, o, hi, hl, hm⟩
      rw [ha.not m hn, hb.not m hn]
  cases a; cases b; simp_all

/-- How many are still to come. -/
def toCome (ops : Array Oper) (listed : Array Bool) : List Nat := (List.range ops.size).filter fun i => !listed.getD i true

theorem toCome_less {listed : Array Bool} {i : Nat} (hs : listed.size = ops.size) (hi : i < ops.size) (hn : listed.getD i true = false) : (toCome ops (listed.setIfInBounds i true)).length < (toCome ops listed).length := by
  have e : toCome ops (listed.setIfInBounds i true) = (toCome ops listed).filter fun j => j != i := by
    unfold toCome
    rw [List.filter_filter]
    apply List.filter_congr
    intro j hj
    have hjl := List.mem_range.1 hj
    by_cases h : j = i
    · subst h; simp [Array.getD_eq_getD_getElem?, Array.getElem?_setIfInBounds, hs, hjl]
    · simp only [Array.getD_eq_getD_getElem?, Array.getElem?_setIfInBounds]
      rw [if_neg (fun e' => h e'.symm)]
      simp [h]
  rw [e]
  refine List.length_filter_lt_length_iff_exists.2 ⟨i, ?_, by simp⟩
  unfold toCome
  exact List.mem_filter.2 ⟨List.mem_range.2 hi, by simp [hn]⟩

theorem ready_mem {listed : Array Bool} {i : Nat} (h : i ∈ Region.ready .any ops listed) : ∃ o, ops[i]? = some o ∧ listed.getD i true = false ∧ ∀ e ∈ o.after, Region.binds .any e = true → listed.getD e.on false = true := by
  unfold Region.ready at h
  obtain ⟨h1, h2⟩ := List.mem_filter.1 h
  have hlt := List.mem_range.1 h1
  simp only [Bool.and_eq_true, Bool.not_eq_true', Array.getElem?_eq_getElem hlt, Option.map_some, Option.getD_some, Array.all_eq_true'] at h2
  refine ⟨_, Array.getElem?_eq_getElem hlt, h2.1, fun e he hb => ?_⟩
  have := h2.2 e he
  simpa [hb] using this

theorem ready_none {listed : Array Bool} (he : earlierB ops = true) (hs : listed.size = ops.size) (h : Region.ready .any ops listed = []) : ∀ i, i < ops.size → listed.getD i true = true := by
  intro i
  induction i using Nat.strongRecOn with
  | ind i ih =>
    intro hi
    apply Classical.byContradiction
    intro hn
    have hn' : listed.getD i true = false := by simpa using hn
    have : i ∈ Region.ready .any ops listed := by
      unfold Region.ready
      refine List.mem_filter.2 ⟨List.mem_range.2 hi, ?_⟩
      simp only [hn', Bool.not_false, Bool.true_and, Array.getElem?_eq_getElem hi, Option.map_some, Option.getD_some, Array.all_eq_true']
      intro e hee
      unfold earlierB at he
      rw [List.all_eq_true] at he
      have h1 := he i (List.mem_range.2 hi)
      simp only [Array.getElem?_eq_getElem hi, Array.all_eq_true'] at h1
      have h2 := h1 e hee
      have h3 : e.on < i := by simpa using h2
      have h4 := ih e.on h3 (by omega)
      have h5 : e.on < listed.size := by omega
      have : listed.getD e.on false = true := by
        simp only [Array.getD_eq_getD_getElem?, Array.getElem?_eq_getElem h5, Option.getD_some] at h4 ⊢
        exact h4
      simp [this]
    rw [h] at this
    cases this

/-- What waits has waited. -/
def Closed (ops : Array Oper) (listed : Array Bool) : Prop := ∀ j o, ops[j]? = some o → listed.getD j false = true → ∀ e ∈ o.after, Region.binds .any e = true → listed.getD e.on false = true

theorem getD_set {listed : Array Bool} {i j : Nat} (hi : i < listed.size) : (listed.setIfInBounds i true).getD j false = if j = i then true else listed.getD j false := by
  by_cases h : j = i
  · subst h; simp [Array.getD_eq_getD_getElem?, Array.getElem?_setIfInBounds, hi]
  · simp only [Array.getD_eq_getD_getElem?, Array.getElem?_setIfInBounds]
    rw [if_neg (fun e' => h e'.symm), if_neg h]

theorem Closed.step {listed : Array Bool} {i : Nat} {o : Oper} (hc : Closed ops listed) (ho : ops[i]? = some o) (hs : listed.size = ops.size) (hdep : ∀ e ∈ o.after, Region.binds .any e = true → listed.getD e.on false = true) : Closed ops (listed.setIfInBounds i true) := by
  have hi : i < listed.size := by rw [hs]; exact (Array.getElem?_eq_some_iff.1 ho).1
  intro j oj hj hl e he hb
  rw [getD_set hi] at hl ⊢
  split
  · rfl
  · by_cases hji : j = i
    · subst hji
      rw [ho] at hj; cases hj
      exact hdep e he hb
    · rw [if_neg hji] at hl
      exact hc j oj hj hl e he hb

/-- What is owed of each operation, in the text's order. -/
def Steps (P : Program) (ops : Array Oper) (Q : Exit → Act → World → Prop) (base : Act) (val : Nat → Value) (wf : Array Bool → World) : Nat → List Oper → Prop
  | _, [] => True
  | i, o :: rest =>
    (∀ (listed : Array Bool) (a : Act), listed.size = ops.size → listed.getD i false = false → (∀ e ∈ o.after, Region.binds .any e = true → listed.getD e.on false = true) → Closed ops listed → Fr ops base val listed a →
      ∀ K : Act → World → Prop, K (a.put o.dst (val i)) (wf (listed.setIfInBounds i true)) → if Region.wanted o (yielded ops a.tmps) = true then Oper.wp P o a (wf listed) K Q else K (a.put o.dst undef) (wf listed)) ∧
    Steps P ops Q base val wf (i + 1) rest

theorem Steps.at {base : Act} {val : Nat → Value} {wf : Array Bool → World} : ∀ (l : List Oper) (k : Nat), Steps P ops Q base val wf k l → ∀ (j : Nat) (o : Oper), l[j]? = some o →
    ∀ (listed : Array Bool) (a : Act), listed.size = ops.size → listed.getD (k + j) false = false → (∀ e ∈ o.after, Region.binds .any e = true → listed.getD e.on false = true) → Closed ops listed → Fr ops base val listed a →
      ∀ K : Act → World → Prop, K (a.put o.dst (val (k + j))) (wf (listed.setIfInBounds (k + j) true)) → if Region.wanted o (yielded ops a.tmps) = true then Oper.wp P o a (wf listed) K Q else K (a.put o.dst undef) (wf listed)
  | [], _, _, j, o, h => by simp at h
  | o' :: rest, k, hs, 0, o, h => by
    simp only [List.getElem?_cons_zero, Option.some.injEq] at h
    subst h
    exact hs.1
  | o' :: rest, k, hs, j + 1, o, h => by
    simp only [List.getElem?_cons_succ] at h
    have := Steps.at rest (k + 1) hs.2 j o h
    rw [show k + 1 + j = k + (j + 1) from by omega] at this
    exact this

/-- The frame when all has been carried out. -/
def finA (ops : Array Oper) (val : Nat → Value) (base : Act) : Nat → List Oper → Act
  | _, [] => base
  | i, o :: rest => finA ops val (base.put o.dst (val i)) (i + 1) rest

theorem finA_fr {base : Act} {val : Nat → Value} (hd : distinctB ops = true) : ∀ (l : List Oper) (k : Nat) (listed : Array Bool) (a : Act), (∀ j, l[j]? = ops[k + j]?) → listed.size = ops.size → Fr ops base val listed a → (∀ j, j < k → j < ops.size → listed.getD j false = true) →
    ∃ listed', listed'.size = ops.size ∧ Fr ops base val listed' (finA ops val a k l) ∧ ∀ j, j < ops.size → listed'.getD j false = true
  | [], k, listed, a, hl, hs, hf, hall => ⟨listed, hs, hf, fun j hj => hall j (by
      have := hl 0
      simp only [List.getElem?_nil] at this
      have h2 := Array.getElem?_eq_none_iff.1 this.symm
      omega) hj⟩
  | o :: rest, k, listed, a, hl, hs, hf, hall => by
    have ho : ops[k]? = some o := by have := hl 0; simpa using this.symm
    have hk : k < listed.size := by rw [hs]; exact (Array.getElem?_eq_some_iff.1 ho).1
    refine finA_fr hd rest (k + 1) (listed.setIfInBounds k true) _ (fun j => ?_) (by simpa using hs) (hf.step hd ho hs) (fun j hj hlt => ?_)
    · have := hl (j + 1)
      simp only [List.getElem?_cons_succ] at this
      rw [this, show k + (j + 1) = k + 1 + j from by omega]
    · rw [getD_set hk]
      split
      · rfl
      · exact hall j (by omega) hlt

/-- ONE STEP AN OPERATION SERVES EVERY ORDER. -/
theorem wpAny_flow {base : Act} {val : Nat → Value} {wf : Array Bool → World} (hd : distinctB ops = true) (he : earlierB ops = true) (hsteps : Steps P ops Q base val wf 0 ops.toList)
    (hend : ∀ (listed : Array Bool) (a : Act), listed.size = ops.size → (∀ i, i < ops.size → listed.getD i true = true) → Fr ops base val listed a → Q .normal a (wf listed)) :
    ∀ (fuel : Nat) (listed : Array Bool) (a : Act), listed.size = ops.size → (toCome ops listed).length ≤ fuel → Closed ops listed → Fr ops base val listed a → wpAny P .any ops Q fuel listed a (wf listed) := by
  intro fuel
  induction fuel with
  | zero =>
    intro listed a hs hf hc hfr
    have hn : toCome ops listed = [] := List.length_eq_zero_iff.1 (by omega)
    have hall : ∀ i, i < ops.size → listed.getD i true = true := fun i hi => by
      apply Classical.byContradiction
      intro h
      have : i ∈ toCome ops listed := List.mem_filter.2 ⟨List.mem_range.2 hi, by simpa using h⟩
      rw [hn] at this; cases this
    refine ⟨?_, hend listed a hs hall hfr⟩
    apply List.eq_nil_iff_forall_not_mem.2
    intro i hi
    obtain ⟨o, ho, hl, _⟩ := ready_mem hi
    have := hall i (Array.getElem?_eq_some_iff.1 ho).1
    rw [hl] at this; cases this
  | succ fuel ih =>
    intro listed a hs hf hc hfr
    refine ⟨fun hr => hend listed a hs (ready_none he hs hr) hfr, fun i hi => ?_⟩
    obtain ⟨o, ho, hl, hdep⟩ := ready_mem hi
    have hlt := (Array.getElem?_eq_some_iff.1 ho).1
    have hl' : listed.getD i false = false := by
      have h5 : i < listed.size := by omega
      simp only [Array.getD_eq_getD_getElem?, Array.getElem?_eq_getElem h5, Option.getD_some] at hl ⊢
      exact hl
    have hless := toCome_less hs hlt hl
    have hnext := ih (listed.setIfInBounds i true) (a.put o.dst (val i)) (by simpa using hs) (by omega) (hc.step ho hs hdep) (hfr.step hd ho hs)
    refine wpOp_step ho (fun K' hK' => ?_)
    have := Steps.at ops.toList 0 hsteps i o (by simpa using ho) listed a hs (by simpa using hl') hdep hc hfr K' (by simpa using hK' _ _ hnext)
    exact this

theorem wp_region_flow {id : Nat} {l : List Oper} {base : Act} {w : World} {val : Nat → Value} (wf : Array Bool → World) (hm : P.follows .mixedOrders = true) (hd : distinctB l.toArray = true) (he : earlierB l.toArray = true)
    (h0 : wf (Array.replicate l.toArray.size false) = { w with drawn := w.drawn + 1 }) (hsteps : Steps P l.toArray Q base val wf 0 l)
    (hend : ∀ listed : Array Bool, (∀ i, i < l.toArray.size → listed.getD i false = true) → Q .normal (finA l.toArray val base 0 l) (wf listed)) : (Code.region id l.toArray true).wp P Q base w := by
  refine wp_region_any hm ?_
  rw [← h0]
  refine wpAny_flow hd he hsteps ?_ l.toArray.size _ _ (by simp) ?_ ?_ (Fr.start base val)
  · intro listed a hs hall hfr
    have hall' : ∀ i, i < l.toArray.size → listed.getD i false = true := fun i hi => by
      have h5 : i < listed.size := by omega
      have := hall i hi
      simp only [Array.getD_eq_getD_getElem?, Array.getElem?_eq_getElem h5, Option.getD_some] at this ⊢
      exact this
    obtain ⟨listed', hs', hfr', hall2⟩ := finA_fr (base := base) (val := val) hd l 0 (Array.replicate l.toArray.size false) base (by simp) (by simp) (Fr.start base val) (fun j hj => by omega)
    have e : listed' = listed := by
      apply Array.ext_getElem?
      intro m
      by_cases hm : m < l.toArray.size
      · have h1 := hall' m hm
        have h2 := hall2 m hm
        have h5 : m < listed.size := by omega
        have h6 : m < listed'.size := by omega
        simp only [Array.getD_eq_getD_getElem?, Array.getElem?_eq_getElem h5, Array.getElem?_eq_getElem h6, Option.getD_some] at h1 h2
        rw [Array.getElem?_eq_getElem h5, Array.getElem?_eq_getElem h6, h1, h2]
      · rw [Array.getElem?_eq_none (by omega), Array.getElem?_eq_none (by omega)]
    rw [e] at hfr'
    rw [Fr.unique hfr hfr']
    exact hend listed hall'
  · exact Nat.le_trans (List.length_filter_le _ _) (by simp)
  · intro j o hj hl
    have hlt := (Array.getElem?_eq_some_iff.1 hj).1
    have h0 : (Array.replicate l.toArray.size false)[j]? = some false := by rw [Array.getElem?_replicate, if_pos hlt]
    rw [Array.getD_eq_getD_getElem?, h0] at hl
    cases hl

theorem Fr.eval {base a : Act} {val : Nat → Value} {listed : Array Bool} (h : Fr ops base val listed a) (j : Nat) (o : Oper) (d : Nat) (ho : ops[j]? = some o) (hd : o.dst = some d) (hlt : d < base.tmps.size) (hl : listed.getD j false = true) : a.eval (.tmp d) = val j := by
  have := h.got j o d ho hd hl hlt
  simp [Act.eval, Array.getD_eq_getD_getElem?, this]

/-- No operation writes this slot. -/
def notDstB (ops : Array Oper) (m : Nat) : Bool := ops.all fun o => o.dst != some m

theorem Fr.evalBase {base a : Act} {val : Nat → Value} {listed : Array Bool} (h : Fr ops base val listed a) (m : Nat) (hm : notDstB ops m = true) : a.eval (.tmp m) = base.eval (.tmp m) := by
  have := h.not m (fun i o ho _ => by
    unfold notDstB at hm
    rw [Array.all_eq_true'] at hm
    have := hm o (Array.mem_of_getElem? ho)
    simpa using this)
  simp [Act.eval, Array.getD_eq_getD_getElem?, this]

end

end Go.Proofs.YtmjbidnlknmcgabDoor

namespace Go.Proofs.YtmjbidnlknmcgabDoor
open Go.RowKit

structure Rc where
  s : Sd
  fs : List (List Int)
  cs : List Int
  tot : Int

/-- A record with its rows; nothing below B has turned. -/
structure RecI (w0 W : World) (B base b : Nat) (l : Lw) (r : Rc) (fv cv : Value) (vs : List Value) : Prop where
  rb : RB W b l r.s fv cv r.tot
  ow : Owns W base (items fv cv vs r.fs r.cs)
  ln : vs.length = r.fs.length
  hb : b < base
  hB : B ≤ b
  sz : base ≤ W.heap.size
  bl : Below B w0 W

theorem info24 : (Tryd.prog.info? 28).map (fun i => (i.zero, i.size, i.bytes)) = some (some (.slice none 0 0), 1, 24) := by kernel_rfl
theorem info3 : (Tryd.prog.info? 3).map (fun i => (i.zero, i.size, i.bytes)) = some (some (.int .i64 0), 1, 8) := by kernel_rfl

theorem RecI.inner {w0 W : World} {B base b : Nat} {l : Lw} {r : Rc} {fv cv : Value} {vs : List Value} {f : Nat} {vI : Value} {zs : List Int} (h : RecI w0 W B base b l r fv cv vs) (hv : vs[f]? = some vI) (hz : r.fs[f]? = some zs) :
    W.ownsRow base 3 1 vI zs.length (zs.map (Value.int .i64)) := by
  have := h.ow.own (3, vI, zs.map (Value.int .i64)) (by
    simp only [items, List.mem_cons, List.mem_map]
    exact .inr (.inr ⟨(vI, zs), List.mem_iff_getElem?.2 ⟨f, by rw [List.getElem?_zip_eq_some]; exact ⟨hv, hz⟩⟩, rfl⟩))
  simpa using this

theorem RecI.cellAt {w0 W : World} {B base b : Nat} {l : Lw} {r : Rc} {g n c : Nat} {cv : Value} {vs : List Value} {f : Nat} {vI : Value} (h : RecI w0 W B base b l r (.slice (some ⟨g, 0, none⟩) n c) cv vs) (hv : vs[f]? = some vI) :
    W.cell? ⟨g, f, none⟩ = some vI := by
  have := (h.ow.own (28, .slice (some ⟨g, 0, none⟩) n c, vs) (by simp [items])).cells (g := g) rfl f vI hv
  have e : (⟨g, 0, none⟩ : Addr).add f = ⟨g, f, none⟩ := by unfold Addr.add; split <;> simp_all
  rwa [e] at this

theorem RecI.freeAt {w0 W : World} {B base b : Nat} {l : Lw} {r : Rc} {g n c f : Nat} {cv : Value} {vs : List Value} (h : RecI w0 W B base b l r (.slice (some ⟨g, 0, none⟩) n c) cv vs) :
    W.frozen? ⟨g, f, none⟩ = false := by
  obtain ⟨_, h2⟩ := h.ow.own (28, .slice (some ⟨g, 0, none⟩) n c, vs) (by simp [items])
  rcases h2 with ⟨h0, _⟩ | ⟨g', cap, cur, hv, hg, hh, _⟩
  · cases h0
  · simp only [Value.slice.injEq, Option.some.injEq, Addr.mk.injEq] at hv
    obtain ⟨⟨rfl, _⟩, _⟩ := hv
    simp [World.frozen?, hh]

theorem frz_alloc {W : World} {a : Addr} {v : Value} (hc : W.cell? a = some v) (hz : W.frozen? a = false) (o : Obj) : ((W.alloc o).drew).frozen? a = false := by
  have hlt := World.block_lt_of_cell? W a hc
  show (W.alloc o).frozen? a = false
  rw [← hz]
  exact World.frozen?_of_block (Below.heap_alloc W o a.block hlt)

theorem cell_alloc_d {W : World} {a : Addr} {v : Value} (hc : W.cell? a = some v) (o : Obj) : ((W.alloc o).drew).cell? a = some v := by
  have hlt := World.block_lt_of_cell? W a hc
  show (W.alloc o).cell? a = some v
  rw [← hc]
  exact World.cell?_of_block (Below.heap_alloc W o a.block hlt)

theorem getD_set_self {L : Array Bool} {i : Nat} (h : i < L.size) : (L.setIfInBounds i true).getD i false = true := by
  simp [Array.getD_eq_getD_getElem?, Array.getElem?_setIfInBounds, h]

theorem getD_set_ne {L : Array Bool} {i j : Nat} (h : j ≠ i) : (L.setIfInBounds i true).getD j false = L.getD j false := by
  simp only [Array.getD_eq_getD_getElem?, Array.getElem?_setIfInBounds]
  rw [if_neg (fun e' => h e'.symm)]

theorem not_later {ops : Array Oper} {L : Array Bool} (hc : Closed ops L) {i : Nat} (hl : L.getD i false = false) (j : Nat) (o : Oper) (ho : ops[j]? = some o) (e : Edge) (he : e ∈ o.after) (hb : Region.binds .any e = true) (hi : e.on = i := by rfl) : L.getD j false = false := by
  cases h : L.getD j false
  · rfl
  · have := hc j o ho h e he hb
    rw [hi, hl] at this
    cases this

theorem f_lt {P : Prop} {a : Nat} {r : Rc} (_ : P) (h : r.fs.length = a + 1) : a < r.fs.length := by omega

/-- The record when its frame has begun. -/
def openF (r : Rc) : Rc := { r with fs := r.fs ++ [[]] }

theorem hgr_open {W w1 : World} {o : Obj} {v : Value} (h : (W.alloc o).grownBy w1 v.ownBlock) : W.grownBy w1 v.ownBlock := (World.grownBy_alloc W o _).trans h
theorem loc_open {W : World} {o : Obj} {v v1 : Value} (h : v1.ownBlock = v.ownBlock ∨ v1.ownBlock = some (W.alloc o).heap.size) : v1.ownBlock = v.ownBlock ∨ ∀ k, v1.ownBlock = some k → W.heap.size ≤ k :=
  h.imp id (fun e k hk => by rw [e] at hk; cases hk; simp)

theorem ownBlock_ne {w : World} {base : Nat} {L : List Item} (h : Owns w base L) {p : Item} (hp : p ∈ L) {b : Nat} (hb : b < base) : some b ≠ p.2.1.ownBlock := fun e => by
  have := ((h.own p hp).lt b e.symm).1
  omega

theorem RecI.open' {w0 W w1 : World} {B base b : Nat} {l : Lw} {r : Rc} {fv cv v1 : Value} {vs : List Value} (h : RecI w0 W B base b l r fv cv vs) (hg : W.grownBy w1 fv.ownBlock)
    (ho : w1.ownsRow base 28 1 v1 (vs.length + 1) (vs ++ [.slice none 0 0])) (hl : v1.ownBlock = fv.ownBlock ∨ ∀ k, v1.ownBlock = some k → W.heap.size ≤ k) :
    RecI w0 (w1.setCell ⟨b, 11, none⟩ v1) B base b l (openF r) v1 cv (vs ++ [.slice none 0 0]) := by
  have hbm := ownBlock_ne h.ow (p := (28, fv, vs)) (by simp [items]) h.hb
  have o1 : Owns w1 base ((28, v1, vs ++ [.slice none 0 0]) :: (items fv cv vs r.fs r.cs).tail) := by
    have := Owns.step (A := []) (C := (items fv cv vs r.fs r.cs).tail) (e := 28) (v := fv) (v' := v1) (xs := vs) (ys := vs ++ [.slice none 0 0]) (by simpa [items] using h.ow) hg (by simpa using ho) hl
    simpa using this
  have g2 := grown_set (World.grownBy.refl w1 (some b)) 11 v1
  have o2 := (o1.nil 3).kept g2 (fun k e => by cases e; exact h.hb)
  refine ⟨(h.rb.grown hg hbm).set11 v1, ?_, by simp [openF, h.ln], h.hb, h.hB, by simpa using Nat.le_trans h.sz hg.size, (h.bl.grown hg (by have := h.hB; have := h.hb; have := h.sz; omega) (fun k e => by have := ((h.ow.own (28, fv, vs) (by simp [items])).lt k e).1; have := h.hB; have := h.hb; omega)).setCell (p := ⟨b, 11, none⟩) h.hB _⟩
  have e1 : (vs ++ [Value.slice none 0 0]).zip (r.fs ++ [[]]) = vs.zip r.fs ++ [(Value.slice none 0 0, [])] := by
    rw [List.zip_append h.ln]; rfl
  simpa [items, openF, e1] using o2

theorem Owns.set {w w' : World} {base : Nat} {L : List Item} {i : Nat} {e : TypeId} {v v' : Value} {xs ys : List Value} (h : Owns w base L) (hi : L[i]? = some (e, v, xs)) (hg : w.grownBy w' v.ownBlock) (ho : w'.ownsRow base e 1 v' ys.length ys)
    (hl : v'.ownBlock = v.ownBlock ∨ ∀ k, v'.ownBlock = some k → w.heap.size ≤ k) : Owns w' base (L.set i (e, v', ys)) := by
  obtain ⟨hlt, hget⟩ := List.getElem?_eq_some_iff.1 hi
  have e1 : L = L.take i ++ (e, v, xs) :: L.drop (i + 1) := by
    rw [← hget, ← List.drop_eq_getElem_cons hlt, List.take_append_drop]
  rw [List.set_eq_take_append_cons_drop, if_pos hlt]
  rw [e1] at h
  exact h.step hg ho hl

theorem zip_set {α β : Type} : ∀ (vs : List α) (fs : List β) (f : Nat) (a : α) (b : β), (vs.set f a).zip (fs.set f b) = (vs.zip fs).set f (a, b)
  | [], _, _, _, _ => by simp
  | _ :: _, [], f, _, _ => by cases f <;> simp
  | _ :: _, _ :: _, 0, _, _ => rfl
  | v :: vs, z :: fs, f + 1, a, b => by simp [zip_set vs fs f a b]

theorem grown_alloc_drew {W : World} {o : Obj} {w' : World} {row : Option Nat} (h : ((W.alloc o).drew).grownBy w' row) : W.grownBy w' row :=
  (grown_drewN (World.grownBy_alloc W o row) 1).trans h

theorem grown_bl {w0 W w' : World} {B base b : Nat} {l : Lw} {r : Rc} {fv cv : Value} {vs : List Value} (h : RecI w0 W B base b l r fv cv vs) {p : Item} (hp : p ∈ items fv cv vs r.fs r.cs) (hg : W.grownBy w' p.2.1.ownBlock) : Below B w0 w' :=
  h.bl.grown hg (by have := h.hB; have := h.hb; have := h.sz; omega) (fun k e => by have := ((h.ow.own p hp).lt k e).1; have := h.hB; have := h.hb; omega)

/-- The ball behind its frame's others. -/
def putB (r : Rc) (f : Nat) (ys : List Int) : Rc := { r with fs := r.fs.set f ys }

theorem RecI.put {w0 W WA : World} {B base b g n c f : Nat} {l : Lw} {r : Rc} {cv vI vA : Value} {vs : List Value} {zs ys : List Int} (h : RecI w0 W B base b l r (.slice (some ⟨g, 0, none⟩) n c) cv vs)
    (hv : vs[f]? = some vI) (hz : r.fs[f]? = some zs) (hg : W.grownBy WA vI.ownBlock) (ho : WA.ownsRow base 3 1 vA ys.length (ys.map (Value.int .i64))) (hl : vA.ownBlock = vI.ownBlock ∨ ∀ k, vA.ownBlock = some k → W.heap.size ≤ k) (hn : n = vs.length) :
    RecI w0 (WA.setCell ⟨g, f, none⟩ vA) B base b l (putB r f ys) (.slice (some ⟨g, 0, none⟩) n c) cv (vs.set f vA) := by
  have hit : (items (.slice (some ⟨g, 0, none⟩) n c) cv vs r.fs r.cs)[f + 2]? = some (3, vI, zs.map (Value.int .i64)) := by
    simp only [items, List.getElem?_cons_succ, List.getElem?_map]
    have : (vs.zip r.fs)[f]? = some (vI, zs) := by rw [List.getElem?_zip_eq_some]; exact ⟨hv, hz⟩
    rw [this]; rfl
  have hmem := List.mem_of_getElem? hit
  have o1 := h.ow.set hit hg (ys := ys.map (Value.int .i64)) (by simpa using ho) hl
  have hrow := o1.own (28, .slice (some ⟨g, 0, none⟩) n c, vs) (by simp [items])
  have hf : f < n := by rw [hn]; exact (List.getElem?_eq_some_iff.1 hv).1
  have hrow' : WA.ownsRow base 28 1 (.slice (some ⟨g, 0, none⟩) n c) n vs := by rw [hn] at hrow ⊢; exact hrow
  have hrow2 := ownsRow_set (v := vA) hrow' hf
  have g2 := grown_set (World.grownBy.refl WA (some g)) f vA
  have o2 := o1.set (i := 0) (e := 28) (v := .slice (some ⟨g, 0, none⟩) n c) (v' := .slice (some ⟨g, 0, none⟩) n c) (xs := vs) (ys := vs.set f vA) (by simp [items]) g2 (by simpa [hn] using hrow2) (.inl rfl)
  have hgb : g < WA.heap.size ∧ base ≤ g := by have := hrow.lt g rfl; exact ⟨this.2, this.1⟩
  have hb := h.hb
  have rb1 := h.rb.grown hg (ownBlock_ne h.ow hmem h.hb)
  refine ⟨⟨(g2.block b (lt_of_block rb1.blk) (fun e => by cases e; omega)).trans rb1.blk⟩, ?_, by simp [putB, h.ln], h.hb, h.hB, by simpa using Nat.le_trans h.sz hg.size, (grown_bl h hmem hg).setCell (p := ⟨g, f, none⟩) (by have := h.hB; show B ≤ g; omega) _⟩
  simpa [items, putB, zip_set, List.map_set] using o2

/-- What the ball counts, behind the others. -/
def cntB (r : Rc) (c : Int) : Rc := { r with cs := r.cs ++ [c] }

theorem RecI.count {w0 W WA : World} {B base b : Nat} {l : Lw} {r : Rc} {fv cv cA : Value} {vs : List Value} {x : Int} (h : RecI w0 W B base b l r fv cv vs)
    (hg : W.grownBy WA cv.ownBlock) (ho : WA.ownsRow base 3 1 cA (r.cs.length + 1) (r.cs.map (Value.int .i64) ++ [.int .i64 x])) (hl : cA.ownBlock = cv.ownBlock ∨ ∀ k, cA.ownBlock = some k → W.heap.size ≤ k) :
    RecI w0 (WA.setCell ⟨b, 12, none⟩ cA) B base b l (cntB r x) fv cA vs := by
  have hit : (items fv cv vs r.fs r.cs)[1]? = some (3, cv, r.cs.map (Value.int .i64)) := rfl
  have hmem := List.mem_of_getElem? hit
  have o1 := h.ow.set hit hg (v' := cA) (ys := (r.cs ++ [x]).map (Value.int .i64)) (by simpa using ho) hl
  have g2 := grown_set (World.grownBy.refl WA (some b)) 12 cA
  have o2 := o1.kept g2 (fun k e => by cases e; exact h.hb)
  have rb1 := h.rb.grown hg (ownBlock_ne h.ow hmem h.hb)
  exact ⟨rb1.set12 cA, o2, h.ln, h.hb, h.hB, by simpa using Nat.le_trans h.sz hg.size, (grown_bl h hmem hg).setCell (p := ⟨b, 12, none⟩) h.hB _⟩

def totB (r : Rc) (t : Int) : Rc := { r with tot := t }
def gameB (r : Rc) (s : Sd) : Rc := { r with s := s }

theorem RecI.total {w0 W : World} {B base b : Nat} {l : Lw} {r : Rc} {fv cv : Value} {vs : List Value} (h : RecI w0 W B base b l r fv cv vs) (t : Int) : RecI w0 (W.setCell ⟨b, 13, none⟩ (.int .i64 t)) B base b l (totB r t) fv cv vs :=
  ⟨h.rb.set13 t, h.ow.kept (grown_set (World.grownBy.refl W (some b)) 13 _) (fun k e => by cases e; exact h.hb), h.ln, h.hb, h.hB, by simpa using h.sz, h.bl.setCell (p := ⟨b, 13, none⟩) h.hB _⟩

theorem RecI.keep {w0 W W' : World} {B base b : Nat} {l : Lw} {r : Rc} {fv cv : Value} {vs : List Value} (h : RecI w0 W B base b l r fv cv vs) (hg : W.grownBy W' none) : RecI w0 W' B base b l r fv cv vs :=
  ⟨h.rb.grown hg (fun e => by cases e), h.ow.kept hg (fun k e => by cases e), h.ln, h.hb, h.hB, Nat.le_trans h.sz hg.size, h.bl.grown hg (by have := h.hB; have := h.hb; have := h.sz; omega) (fun k e => by cases e)⟩

end Go.Proofs.YtmjbidnlknmcgabDoor

namespace Go.Proofs.YtmjbidnlknmcgabDoor
open Go.RowKit

theorem RecI.inner_mem {w0 W : World} {B base b : Nat} {l : Lw} {r : Rc} {fv cv : Value} {vs : List Value} {f : Nat} {vI : Value} {zs : List Int} (_ : RecI w0 W B base b l r fv cv vs) (hv : vs[f]? = some vI) (hz : r.fs[f]? = some zs) :
    ((3, vI, zs.map (Value.int .i64)) : Item) ∈ items fv cv vs r.fs r.cs := by
  simp only [items, List.mem_cons, List.mem_map]
  exact .inr (.inr ⟨(vI, zs), List.mem_iff_getElem?.2 ⟨f, by rw [List.getElem?_zip_eq_some]; exact ⟨hv, hz⟩⟩, rfl⟩)

theorem RecI.row_lt {w0 W : World} {B base b : Nat} {l : Lw} {r : Rc} {g n c : Nat} {cv : Value} {vs : List Value} (h : RecI w0 W B base b l r (.slice (some ⟨g, 0, none⟩) n c) cv vs) : base ≤ g ∧ g < W.heap.size :=
  (h.ow.own (28, .slice (some ⟨g, 0, none⟩) n c, vs) (by simp [items])).lt g rfl

theorem RecI.row_ne {w0 W : World} {B base b : Nat} {l : Lw} {r : Rc} {g n c : Nat} {cv vI : Value} {vs : List Value} {xs : List Value} (h : RecI w0 W B base b l r (.slice (some ⟨g, 0, none⟩) n c) cv vs) (hm : ((3, vI, xs) : Item) ∈ items (.slice (some ⟨g, 0, none⟩) n c) cv vs r.fs r.cs) : some g ≠ vI.ownBlock := fun e => by
  have hap := h.ow.ap
  unfold items at hap hm
  rw [List.pairwise_cons] at hap
  rcases List.mem_cons.1 hm with h1 | h1
  · simp at h1
  · exact hap.1 _ h1 g rfl e.symm

theorem GameAt.grownN {w w' : World} {b : Nat} {l : Lw} {s : Sd} (h : GameAt w b l s) (hg : w.grownBy w' none) : GameAt w' b l s := by
  obtain ⟨h0, h1, h2, h3, h4, h5, h6, h7, h8, h9, h10⟩ := h
  have ne : some b ≠ none := fun e => by cases e
  exact ⟨hg.cell h0 ne, hg.cell h1 ne, hg.cell h2 ne, hg.cell h3 ne, hg.cell h4 ne, hg.cell h5 ne, hg.cell h6 ne, hg.cell h7 ne, hg.cell h8 ne, hg.cell h9 ne, hg.cell h10 ne⟩


/-- The frames of a record when a ball comes. -/
def noteFs (r : Rc) : List (List Int) := if r.s.b = 0 then r.fs ++ [[]] else r.fs

/-- The record behind a ball. -/
def noteR (l : Lw) (r : Rc) (k : Int) : Rc :=
  ⟨behS l r.s k, (noteFs r).set r.s.f.toNat (((noteFs r)[r.s.f.toNat]?).getD [] ++ [k]), r.cs ++ [cnt l r.s k], r.tot + cnt l r.s k * (1 + r.s.x)⟩

theorem fin_note {l : Lw} {r r2 r3 r4 : Rc} {k ad : Int} {f : Nat} {zs : List Int} {sn : Sd} (h2 : r2 = { r with fs := noteFs r }) (h3 : r3 = putB r2 f (zs ++ [k])) (h4 : r4 = cntB r3 (cnt l r3.s k)) (hs : r3.s = r.s)
    (hn : sn = behS l r.s k) (ha : ad = cnt l r.s k * (1 + r.s.x)) (hz : r2.fs[f]? = some zs) (hf : r.s.f = (f : Int)) : gameB (totB r4 (r.tot + ad)) sn = noteR l r k := by
  have e : r.s.f.toNat = f := by omega
  subst h2
  have hz' : (noteFs r)[f]? = some zs := hz
  rw [hs] at h4
  subst h3 h4 hn ha
  simp only [gameB, totB, cntB, putB, noteR, e, hz', Option.getD_some]

theorem adds_rec {w0 W : World} {B base b : Nat} {l : Lw} {r4 : Rc} {fv cv : Value} {vs : List Value} {s0 : Sd} {k ad tot0 : Int} (had : ad = cnt l s0 k * (1 + s0.x)) (hs : r4.s = s0) (ht : r4.tot = tot0) (ok : l.Ok) (k1 : -1 ≤ k) (k2 : k ≤ 10) (x1 : 0 ≤ s0.x) (x2 : s0.x ≤ 3)
    (h : Hid (RecI w0 W B base b l r4 fv cv vs)) :
    Calls Tryd.prog 56 #[.pointer (some ⟨b, 0, none⟩), .int .i64 k] W fun e w' => e = .returned (.int .i64 ad) ∧ Hid (RecI w0 w' B base b l r4 fv cv vs) ∧ w'.cell? ⟨b, 13, none⟩ = some (.int .i64 tot0) ∧ w'.frozen? ⟨b, 13, none⟩ = false := by
  subst hs ht had
  refine (adds_any b l r4.s k W h.out.rb.at ok k1 k2 x1 x2).mono ?_
  rintro e w' ⟨rfl, n, rfl⟩
  have h' := h.out.keep (grown_drewN (World.grownBy.refl W none) n)
  exact ⟨rfl, Lib.hid h', h'.rb.c13, h'.rb.free 13⟩

theorem behind_lit {W : World} {l : Lw} {s1 s0 : Sd} (hs : s1 = s0) (k : Int) (ok : l.Ok) (si : s0.In l) (k1 : -1 ≤ k) (k2 : k ≤ 10) :
    Calls Tryd.prog 52 #[.agg #[.int .i64 l.fr, .int .i64 l.pn, .int .i64 l.bl, .int .i64 l.tp, .int .i64 s1.f, .int .i64 s1.b, .int .i64 s1.s, .bool s1.fresh, .bool s1.more, .int .i64 s1.x, .int .i64 s1.y], .int .i64 k] W fun e w' => e = .returned (.agg #[.int .i64 l.fr, .int .i64 l.pn, .int .i64 l.bl, .int .i64 l.tp, .int .i64 (behS l s0 k).f, .int .i64 (behS l s0 k).b, .int .i64 (behS l s0 k).s, .bool (behS l s0 k).fresh, .bool (behS l s0 k).more, .int .i64 (behS l s0 k).x, .int .i64 (behS l s0 k).y]) ∧ W.grownBy w' none := by
  subst hs
  exact (behind_any l s1 k W ok si k1 k2).mono fun e w' h => ⟨h.1, h.2.os, h.2.tape, h.2.output, h.2.size, fun j hj _ => h.2.block j hj⟩

/-- The game of a record when its cells have been written anew. -/
theorem RecI.game {w0 W : World} {B base b : Nat} {l : Lw} {r : Rc} {fv cv : Value} {vs : List Value} (h : RecI w0 W B base b l r fv cv vs) (s : Sd) :
    RecI w0 (((((((((((W.setCell ⟨b, 0, none⟩ (.int .i64 l.fr)).setCell ⟨b, 1, none⟩ (.int .i64 l.pn)).setCell ⟨b, 2, none⟩ (.int .i64 l.bl)).setCell ⟨b, 3, none⟩ (.int .i64 l.tp)).setCell ⟨b, 4, none⟩ (.int .i64 s.f)).setCell ⟨b, 5, none⟩ (.int .i64 s.b)).setCell ⟨b, 6, none⟩ (.int .i64 s.s)).setCell ⟨b, 7, none⟩ (.bool s.fresh)).setCell ⟨b, 8, none⟩ (.bool s.more)).setCell ⟨b, 9, none⟩ (.int .i64 s.x)).setCell ⟨b, 10, none⟩ (.int .i64 s.y)) B base b l (gameB r s) fv cv vs := by
  obtain ⟨⟨hb⟩, ow, ln, h1, h2, sz, bl⟩ := h
  refine ⟨⟨?_⟩, ?_, ln, h1, h2, by simpa using sz, ?_⟩
  · have a0 := blk_setCell hb 0 (.int .i64 l.fr)
    have a1 := blk_setCell a0 1 (.int .i64 l.pn)
    have a2 := blk_setCell a1 2 (.int .i64 l.bl)
    have a3 := blk_setCell a2 3 (.int .i64 l.tp)
    have a4 := blk_setCell a3 4 (.int .i64 s.f)
    have a5 := blk_setCell a4 5 (.int .i64 s.b)
    have a6 := blk_setCell a5 6 (.int .i64 s.s)
    have a7 := blk_setCell a6 7 (.bool s.fresh)
    have a8 := blk_setCell a7 8 (.bool s.more)
    have a9 := blk_setCell a8 9 (.int .i64 s.x)
    have a10 := blk_setCell a9 10 (.int .i64 s.y)
    simpa [gameB] using a10
  · have g := grown_set (grown_set (grown_set (grown_set (grown_set (grown_set (grown_set (grown_set (grown_set (grown_set (grown_set (World.grownBy.refl W (some b)) 0 (.int .i64 l.fr)) 1 (.int .i64 l.pn)) 2 (.int .i64 l.bl)) 3 (.int .i64 l.tp)) 4 (.int .i64 s.f)) 5 (.int .i64 s.b)) 6 (.int .i64 s.s)) 7 (.bool s.fresh)) 8 (.bool s.more)) 9 (.int .i64 s.x)) 10 (.int .i64 s.y)
    exact ow.kept g (fun k e => by cases e; exact h1)
  · exact ((((((((((bl.setCell (p := ⟨b, 0, none⟩) h2 _).setCell (p := ⟨b, 1, none⟩) h2 _).setCell (p := ⟨b, 2, none⟩) h2 _).setCell (p := ⟨b, 3, none⟩) h2 _).setCell (p := ⟨b, 4, none⟩) h2 _).setCell (p := ⟨b, 5, none⟩) h2 _).setCell (p := ⟨b, 6, none⟩) h2 _).setCell (p := ⟨b, 7, none⟩) h2 _).setCell (p := ⟨b, 8, none⟩) h2 _).setCell (p := ⟨b, 9, none⟩) h2 _).setCell (p := ⟨b, 10, none⟩) h2 _

end Go.Proofs.YtmjbidnlknmcgabDoor
