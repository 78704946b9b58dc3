/- A region that draws its order, each of whose operations yields one value whatever the order: one step an operation serves every order. -/
import Derived.Test.YtaloffdkadhhnaaDoorCk
import Derived.Deep.AppendLies
import Derived.Deep.RegionHeld3
import Derived.Deep.DeepMust
import Derived.OwnWalk
import Derived.Maps.AppendAt
import Derived.Orders
import Derived.RegionTactic
import Derived.WalkSpells
set_option linter.unusedVariables false
set_option linter.unusedSimpArgs false

namespace Go.Proofs.YtaloffdkadhhnaaDoor

section
variable {P : Program} {ops : Array Oper} {Q : Exit → Act → World → Prop}

/-- How a frame stands when these operations have been carried out. -/
structure Fr (ops : Array Oper) (base : Act) (val : Nat → Value) (listed : Array Bool) (a : Act) : Prop where
  defers : a.defers = base.defers
  size : a.tmps.size = base.tmps.size
  got : ∀ i o d, ops[i]? = some o → o.dst = some d → listed.getD i false = true → d < base.tmps.size → a.tmps[d]? = some (val i)
  not : ∀ m, (∀ i o, ops[i]? = some o → listed.getD i false = true → o.dst ≠ some m) → a.tmps[m]? = base.tmps[m]?

/-- No two operations write one slot. -/
def distinctB (ops : Array Oper) : Bool :=
  (List.range ops.size).all fun i => (List.range ops.size).all fun j => i == j || (match (ops[i]?).bind (·.dst), (ops[j]?).bind (·.dst) with | some d, some e => d != e | _, _ => true)

/-- Each operation waits for earlier ones alone. -/
def earlierB (ops : Array Oper) : Bool :=
  (List.range ops.size).all fun i => match ops[i]? with | some o => o.after.all fun e => e.on < i | none => true

theorem distinct_of (h : distinctB ops = true) {i j : Nat} {oi oj : Oper} {d : Nat} (hi : ops[i]? = some oi) (hj : ops[j]? = some oj) (hd : oi.dst = some d) (he : oj.dst = some d) : i = j := by
  unfold distinctB at h
  rw [List.all_eq_true] at h
  have h1 := h i (List.mem_range.2 (Array.getElem?_eq_some_iff.1 hi).1)
  rw [List.all_eq_true] at h1
  have h2 := h1 j (List.mem_range.2 (Array.getElem?_eq_some_iff.1 hj).1)
  simp only [hi, hj, Option.bind_some, hd, he] at h2
  simpa using h2

theorem Fr.step {base a : Act} {val : Nat → Value} {listed : Array Bool} {i : Nat} {o : Oper} (hd : distinctB ops = true) (hi : ops[i]? = some o) (hs : listed.size = ops.size) (h : Fr ops base val listed a) :
    Fr ops base val (listed.setIfInBounds i true) (a.put o.dst (val i)) := by
  have hlt : i < listed.size := by rw [hs]; exact (Array.getElem?_eq_some_iff.1 hi).1
  have get : ∀ j, (listed.setIfInBounds i true).getD j false = true → j = i ∨ listed.getD j false = true := fun j hj => by
    by_cases e : j = i
    · exact .inl e
    · right
      simp only [Array.getD_eq_getD_getElem?, Array.getElem?_setIfInBounds] at hj
      rw [if_neg (fun e' => e e'.symm)] at hj
      simpa [Array.getD_eq_getD_getElem?] using hj
  cases hdst : o.dst with
  | none =>
    refine ⟨h.defers, h.size, fun j oj d hj hjd hl hlt' => ?_, fun m hm => h.not m (fun j oj hj hl => hm j oj hj ?_)⟩
    · rcases get j hl with rfl | hl
      · rw [hi] at hj; cases hj; rw [hdst] at hjd; cases hjd
      · exact h.got j oj d hj hjd hl hlt'
    · by_cases e : j = i
      · subst e; simp [Array.getD_eq_getD_getElem?, Array.getElem?_setIfInBounds, hlt]
      · simp only [Array.getD_eq_getD_getElem?, Array.getElem?_setIfInBounds]
        rw [if_neg (fun e' => e e'.symm)]
        simpa [Array.getD_eq_getD_getElem?] using hl
  | some d =>
    refine ⟨h.defers, by simpa [Act.put] using h.size, fun j oj d' hj hjd hl hlt' => ?_, fun m hm => ?_⟩
    · simp only [Act.put, Array.getElem?_setIfInBounds]
      by_cases e : j = i
      · subst e
        rw [hi] at hj; cases hj; rw [hdst] at hjd; cases hjd
        rw [if_pos rfl, if_pos (by rw [h.size]; exact hlt')]
      · have hl' : listed.getD j false = true := (get j hl).resolve_left e
        have hne : d ≠ d' := fun e' => e (distinct_of hd hj hi (by rw [hjd, e']) hdst)
        rw [if_neg hne]
        exact h.got j oj d' hj hjd hl' hlt'
    · simp only [Act.put, Array.getElem?_setIfInBounds]
      have hne : d ≠ m := fun e => hm i o hi (by simp [Array.getD_eq_getD_getElem?, Array.getElem?_setIfInBounds, hlt]) (by rw [hdst, e])
      rw [if_neg hne]
      refine h.not m (fun j oj hj hl => hm j oj hj ?_)
      by_cases e : j = i
      · subst e; simp [Array.getD_eq_getD_getElem?, Array.getElem?_setIfInBounds, hlt]
      · simp only [Array.getD_eq_getD_getElem?, Array.getElem?_setIfInBounds]
        rw [if_neg (fun e' => e e'.symm)]
        simpa [Array.getD_eq_getD_getElem?] using hl

theorem Fr.start (base : Act) (val : Nat → Value) : Fr ops base val (Array.replicate ops.size false) base :=
  ⟨rfl, rfl, fun i o d hi _ hl _ => by
    have hlt := (Array.getElem?_eq_some_iff.1 hi).1
    simp [Array.getD_eq_getD_getElem?, hlt] at hl, fun _ _ => rfl⟩

/-- Two frames in which all has been carried out are one. -/
theorem Fr.unique {base a b : Act} {val : Nat → Value} {listed : Array Bool} (ha : Fr ops base val listed a) (hb : Fr ops base val listed b) : a = b := by
  have hd : a.defers = b.defers := ha.defers.trans hb.defers.symm
  have ht : a.tmps = b.tmps := by
    apply Array.ext_getElem?
    intro m
    by_cases h : ∃ i o, ops[i]? = some o ∧ listed.getD i false = true ∧ o.dst = some m
    · obtain ⟨i, o, hi, hl, hm⟩ := h
      by_cases hlt : m < base.tmps.size
      · rw [ha.got i o m hi hm hl hlt, hb.got i o m hi hm hl hlt]
      · rw [Array.getElem?_eq_none (by rw [ha.size]; omega), Array.getElem?_eq_none (by rw [hb.size]; omega)]
    · have hn : ∀ i o, ops[i]? = some o → listed.getD i false = true → o.dst ≠ some m := fun i o hi hl hm => h ⟨i, o, hi, hl, hm⟩
      rw [ha.not m hn, hb.not m hn]
  cases a; cases b; simp_all

/-- How many are still to come. -/
def toCome (ops : Array Oper) (listed : Array Bool) : List Nat := (List.range ops.size).filter fun i => !listed.getD i true

theorem toCome_less {listed : Array Bool} {i : Nat} (hs : listed.size = ops.size) (hi : i < ops.size) (hn : listed.getD i true = false) : (toCome ops (listed.setIfInBounds i true)).length < (toCome ops listed).length := by
  have e : toCome ops (listed.setIfInBounds i true) = (toCome ops listed).filter fun j => j != i := by
    unfold toCome
    rw [List.filter_filter]
    apply List.filter_congr
    intro j hj
    have hjl := List.mem_range.1 hj
    by_cases h : j = i
    · subst h; simp [Array.getD_eq_getD_getElem?, Array.getElem?_setIfInBounds, hs, hjl]
    · simp only [Array.getD_eq_getD_getElem?, Array.getElem?_setIfInBounds]
      rw [if_neg (fun e' => h e'.symm)]
      simp [h]
  rw [e]
  refine List.length_filter_lt_length_iff_exists.2 ⟨i, ?_, by simp⟩
  unfold toCome
  exact List.mem_filter.2 ⟨List.mem_range.2 hi, by simp [hn]⟩

theorem ready_mem {listed : Array Bool} {i : Nat} (h : i ∈ Region.ready .any ops listed) : ∃ o, ops[i]? = some o ∧ listed.getD i true = false ∧ ∀ e ∈ o.after, Region.binds .any e = true → listed.getD e.on false = true := by
  unfold Region.ready at h
  obtain ⟨h1, h2⟩ := List.mem_filter.1 h
  have hlt := List.mem_range.1 h1
  simp only [Bool.and_eq_true, Bool.not_eq_true', Array.getElem?_eq_getElem hlt, Option.map_some, Option.getD_some, Array.all_eq_true'] at h2
  refine ⟨_, Array.getElem?_eq_getElem hlt, h2.1, fun e he hb => ?_⟩
  have := h2.2 e he
  simpa [hb] using this

theorem ready_none {listed : Array Bool} (he : earlierB ops = true) (hs : listed.size = ops.size) (h : Region.ready .any ops listed = []) : ∀ i, i < ops.size → listed.getD i true = true := by
  intro i
  induction i using Nat.strongRecOn with
  | ind i ih =>
    intro hi
    apply Classical.byContradiction
    intro hn
    have hn' : listed.getD i true = false := by simpa using hn
    have : i ∈ Region.ready .any ops listed := by
      unfold Region.ready
      refine List.mem_filter.2 ⟨List.mem_range.2 hi, ?_⟩
      simp only [hn', Bool.not_false, Bool.true_and, Array.getElem?_eq_getElem hi, Option.map_some, Option.getD_some, Array.all_eq_true']
      intro e hee
      unfold earlierB at he
      rw [List.all_eq_true] at he
      have h1 := he i (List.mem_range.2 hi)
      simp only [Array.getElem?_eq_getElem hi, Array.all_eq_true'] at h1
      have h2 := h1 e hee
      have h3 : e.on < i := by simpa using h2
      have h4 := ih e.on h3 (by omega)
      have h5 : e.on < listed.size := by omega
      have : listed.getD e.on false = true := by
        simp only [Array.getD_eq_getD_getElem?, Array.getElem?_eq_getElem h5, Option.getD_some] at h4 ⊢
        exact h4
      simp [this]
    rw [h] at this
    cases this

/-- What waits has waited. -/
def Closed (ops : Array Oper) (listed : Array Bool) : Prop := ∀ j o, ops[j]? = some o → listed.getD j false = true → ∀ e ∈ o.after, Region.binds .any e = true → listed.getD e.on false = true

theorem getD_set {listed : Array Bool} {i j : Nat} (hi : i < listed.size) : (listed.setIfInBounds i true).getD j false = if j = i then true else listed.getD j false := by
  by_cases h : j = i
  · subst h; simp [Array.getD_eq_getD_getElem?, Array.getElem?_setIfInBounds, hi]
  · simp only [Array.getD_eq_getD_getElem?, Array.getElem?_setIfInBounds]
    rw [if_neg (fun e' => h e'.symm), if_neg h]

theorem Closed.step {listed : Array Bool} {i : Nat} {o : Oper} (hc : Closed ops listed) (ho : ops[i]? = some o) (hs : listed.size = ops.size) (hdep : ∀ e ∈ o.after, Region.binds .any e = true → listed.getD e.on false = true) : Closed ops (listed.setIfInBounds i true) := by
  have hi : i < listed.size := by rw [hs]; exact (Array.getElem?_eq_some_iff.1 ho).1
  intro j oj hj hl e he hb
  rw [getD_set hi] at hl ⊢
  split
  · rfl
  · by_cases hji : j = i
    · subst hji
      rw [ho] at hj; cases hj
      exact hdep e he hb
    · rw [if_neg hji] at hl
      exact hc j oj hj hl e he hb

/-- What is owed of each operation, in the text's order. -/
def Steps (P : Program) (ops : Array Oper) (Q : Exit → Act → World → Prop) (base : Act) (val : Nat → Value) (wf : Array Bool → World) : Nat → List Oper → Prop
  | _, [] => True
  | i, o :: rest =>
    (∀ (listed : Array Bool) (a : Act), listed.size = ops.size → listed.getD i false = false → (∀ e ∈ o.after, Region.binds .any e = true → listed.getD e.on false = true) → Closed ops listed → Fr ops base val listed a →
      ∀ K : Act → World → Prop, K (a.put o.dst (val i)) (wf (listed.setIfInBounds i true)) → if Region.wanted o (yielded ops a.tmps) = true then Oper.wp P o a (wf listed) K Q else K (a.put o.dst undef) (wf listed)) ∧
    Steps P ops Q base val wf (i + 1) rest

theorem Steps.at {base : Act} {val : Nat → Value} {wf : Array Bool → World} : ∀ (l : List Oper) (k : Nat), Steps P ops Q base val wf k l → ∀ (j : Nat) (o : Oper), l[j]? = some o →
    ∀ (listed : Array Bool) (a : Act), listed.size = ops.size → listed.getD (k + j) false = false → (∀ e ∈ o.after, Region.binds .any e = true → listed.getD e.on false = true) → Closed ops listed → Fr ops base val listed a →
      ∀ K : Act → World → Prop, K (a.put o.dst (val (k + j))) (wf (listed.setIfInBounds (k + j) true)) → if Region.wanted o (yielded ops a.tmps) = true then Oper.wp P o a (wf listed) K Q else K (a.put o.dst undef) (wf listed)
  | [], _, _, j, o, h => by simp at h
  | o' :: rest, k, hs, 0, o, h => by
    simp only [List.getElem?_cons_zero, Option.some.injEq] at h
    subst h
    exact hs.1
  | o' :: rest, k, hs, j + 1, o, h => by
    simp only [List.getElem?_cons_succ] at h
    have := Steps.at rest (k + 1) hs.2 j o h
    rw [show k + 1 + j = k + (j + 1) from by omega] at this
    exact this

/-- The frame when all has been carried out. -/
def finA (ops : Array Oper) (val : Nat → Value) (base : Act) : Nat → List Oper → Act
  | _, [] => base
  | i, o :: rest => finA ops val (base.put o.dst (val i)) (i + 1) rest

theorem finA_fr {base : Act} {val : Nat → Value} (hd : distinctB ops = true) : ∀ (l : List Oper) (k : Nat) (listed : Array Bool) (a : Act), (∀ j, l[j]? = ops[k + j]?) → listed.size = ops.size → Fr ops base val listed a → (∀ j, j < k → j < ops.size → listed.getD j false = true) →
    ∃ listed', listed'.size = ops.size ∧ Fr ops base val listed' (finA ops val a k l) ∧ ∀ j, j < ops.size → listed'.getD j false = true
  | [], k, listed, a, hl, hs, hf, hall => ⟨listed, hs, hf, fun j hj => hall j (by
      have := hl 0
      simp only [List.getElem?_nil] at this
      have h2 := Array.getElem?_eq_none_iff.1 this.symm
      omega) hj⟩
  | o :: rest, k, listed, a, hl, hs, hf, hall => by
    have ho : ops[k]? = some o := by have := hl 0; simpa using this.symm
    have hk : k < listed.size := by rw [hs]; exact (Array.getElem?_eq_some_iff.1 ho).1
    refine finA_fr hd rest (k + 1) (listed.setIfInBounds k true) _ (fun j => ?_) (by simpa using hs) (hf.step hd ho hs) (fun j hj hlt => ?_)
    · have := hl (j + 1)
      simp only [List.getElem?_cons_succ] at this
      rw [this, show k + (j + 1) = k + 1 + j from by omega]
    · rw [getD_set hk]
      split
      · rfl
      · exact hall j (by omega) hlt

/-- ONE STEP AN OPERATION SERVES EVERY ORDER. -/
theorem wpAny_flow {base : Act} {val : Nat → Value} {wf : Array Bool → World} (hd : distinctB ops = true) (he : earlierB ops = true) (hsteps : Steps P ops Q base val wf 0 ops.toList)
    (hend : ∀ (listed : Array Bool) (a : Act), listed.size = ops.size → (∀ i, i < ops.size → listed.getD i true = true) → Fr ops base val listed a → Q .normal a (wf listed)) :
    ∀ (fuel : Nat) (listed : Array Bool) (a : Act), listed.size = ops.size → (toCome ops listed).length ≤ fuel → Closed ops listed → Fr ops base val listed a → wpAny P .any ops Q fuel listed a (wf listed) := by
  intro fuel
  induction fuel with
  | zero =>
    intro listed a hs hf hc hfr
    have hn : toCome ops listed = [] := List.length_eq_zero_iff.1 (by omega)
    have hall : ∀ i, i < ops.size → listed.getD i true = true := fun i hi => by
      apply Classical.byContradiction
      intro h
      have : i ∈ toCome ops listed := List.mem_filter.2 ⟨List.mem_range.2 hi, by simpa using h⟩
      rw [hn] at this; cases this
    refine ⟨?_, hend listed a hs hall hfr⟩
    apply List.eq_nil_iff_forall_not_mem.2
    intro i hi
    obtain ⟨o, ho, hl, _⟩ := ready_mem hi
    have := hall i (Array.getElem?_eq_some_iff.1 ho).1
    rw [hl] at this; cases this
  | succ fuel ih =>
    intro listed a hs hf hc hfr
    refine ⟨fun hr => hend listed a hs (ready_none he hs hr) hfr, fun i hi => ?_⟩
    obtain ⟨o, ho, hl, hdep⟩ := ready_mem hi
    have hlt := (Array.getElem?_eq_some_iff.1 ho).1
    have hl' : listed.getD i false = false := by
      have h5 : i < listed.size := by omega
      simp only [Array.getD_eq_getD_getElem?, Array.getElem?_eq_getElem h5, Option.getD_some] at hl ⊢
      exact hl
    have hless := toCome_less hs hlt hl
    have hnext := ih (listed.setIfInBounds i true) (a.put o.dst (val i)) (by simpa using hs) (by omega) (hc.step ho hs hdep) (hfr.step hd ho hs)
    refine wpOp_step ho (fun K' hK' => ?_)
    have := Steps.at ops.toList 0 hsteps i o (by simpa using ho) listed a hs (by simpa using hl') hdep hc hfr K' (by simpa using hK' _ _ hnext)
    exact this

theorem wp_region_flow {id : Nat} {l : List Oper} {base : Act} {w : World} {val : Nat → Value} (wf : Array Bool → World) (hm : P.follows .mixedOrders = true) (hd : distinctB l.toArray = true) (he : earlierB l.toArray = true)
    (h0 : wf (Array.replicate l.toArray.size false) = { w with drawn := w.drawn + 1 }) (hsteps : Steps P l.toArray Q base val wf 0 l)
    (hend : ∀ listed : Array Bool, (∀ i, i < l.toArray.size → listed.getD i false = true) → Q .normal (finA l.toArray val base 0 l) (wf listed)) : (Code.region id l.toArray true).wp P Q base w := by
  refine wp_region_any hm ?_
  rw [← h0]
  refine wpAny_flow hd he hsteps ?_ l.toArray.size _ _ (by simp) ?_ ?_ (Fr.start base val)
  · intro listed a hs hall hfr
    have hall' : ∀ i, i < l.toArray.size → listed.getD i false = true := fun i hi => by
      have h5 : i < listed.size := by omega
      have := hall i hi
      simp only [Array.getD_eq_getD_getElem?, Array.getElem?_eq_getElem h5, Option.getD_some] at this ⊢
      exact this
    obtain ⟨listed', hs', hfr', hall2⟩ := finA_fr (base := base) (val := val) hd l 0 (Array.replicate l.toArray.size false) base (by simp) (by simp) (Fr.start base val) (fun j hj => by omega)
    have e : listed' = listed := by
      apply Array.ext_getElem?
      intro m
      by_cases hm : m < l.toArray.size
      · have h1 := hall' m hm
        have h2 := hall2 m hm
        have h5 : m < listed.size := by omega
        have h6 : m < listed'.size := by omega
        simp only [Array.getD_eq_getD_getElem?, Array.getElem?_eq_getElem h5, Array.getElem?_eq_getElem h6, Option.getD_some] at h1 h2
        rw [Array.getElem?_eq_getElem h5, Array.getElem?_eq_getElem h6, h1, h2]
      · rw [Array.getElem?_eq_none (by omega), Array.getElem?_eq_none (by omega)]
    rw [e] at hfr'
    rw [Fr.unique hfr hfr']
    exact hend listed hall'
  · exact Nat.le_trans (List.length_filter_le _ _) (by simp)
  · intro j o hj hl
    have hlt := (Array.getElem?_eq_some_iff.1 hj).1
    have h0 : (Array.replicate l.toArray.size false)[j]? = some false := by rw [Array.getElem?_replicate, if_pos hlt]
    rw [Array.getD_eq_getD_getElem?, h0] at hl
    cases hl

theorem Fr.eval {base a : Act} {val : Nat → Value} {listed : Array Bool} (h : Fr ops base val listed a) (j : Nat) (o : Oper) (d : Nat) (ho : ops[j]? = some o) (hd : o.dst = some d) (hlt : d < base.tmps.size) (hl : listed.getD j false = true) : a.eval (.tmp d) = val j := by
  have := h.got j o d ho hd hl hlt
  simp [Act.eval, Array.getD_eq_getD_getElem?, this]

/-- No operation writes this slot. -/
def notDstB (ops : Array Oper) (m : Nat) : Bool := ops.all fun o => o.dst != some m

theorem Fr.evalBase {base a : Act} {val : Nat → Value} {listed : Array Bool} (h : Fr ops base val listed a) (m : Nat) (hm : notDstB ops m = true) : a.eval (.tmp m) = base.eval (.tmp m) := by
  have := h.not m (fun i o ho _ => by
    unfold notDstB at hm
    rw [Array.all_eq_true'] at hm
    have := hm o (Array.mem_of_getElem? ho)
    simpa using this)
  simp [Act.eval, Array.getD_eq_getD_getElem?, this]

end

end Go.Proofs.YtaloffdkadhhnaaDoor

namespace Go.Proofs.YtaloffdkadhhnaaDoor
open Go.RowKit

theorem frz_alloc {W : World} {a : Addr} {v : Value} (hc : W.cell? a = some v) (hz : W.frozen? a = false) (o : Obj) : ((W.alloc o).drew).frozen? a = false := by
  have hlt := World.block_lt_of_cell? W a hc
  show (W.alloc o).frozen? a = false
  rw [← hz]
  exact World.frozen?_of_block (Below.heap_alloc W o a.block hlt)

theorem cell_alloc_d {W : World} {a : Addr} {v : Value} (hc : W.cell? a = some v) (o : Obj) : ((W.alloc o).drew).cell? a = some v := by
  have hlt := World.block_lt_of_cell? W a hc
  show (W.alloc o).cell? a = some v
  rw [← hc]
  exact World.cell?_of_block (Below.heap_alloc W o a.block hlt)

theorem getD_set_self {L : Array Bool} {i : Nat} (h : i < L.size) : (L.setIfInBounds i true).getD i false = true := by
  simp [Array.getD_eq_getD_getElem?, Array.getElem?_setIfInBounds, h]

theorem getD_set_ne {L : Array Bool} {i j : Nat} (h : j ≠ i) : (L.setIfInBounds i true).getD j false = L.getD j false := by
  simp only [Array.getD_eq_getD_getElem?, Array.getElem?_setIfInBounds]
  rw [if_neg (fun e' => h e'.symm)]

theorem not_later {ops : Array Oper} {L : Array Bool} (hc : Closed ops L) {i : Nat} (hl : L.getD i false = false) (j : Nat) (o : Oper) (ho : ops[j]? = some o) (e : Edge) (he : e ∈ o.after) (hb : Region.binds .any e = true) (hi : e.on = i := by rfl) : L.getD j false = false := by
  cases h : L.getD j false
  · rfl
  · have := hc j o ho h e he hb
    rw [hi, hl] at this
    cases this

end Go.Proofs.YtaloffdkadhhnaaDoor
