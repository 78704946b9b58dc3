/- What FrameAheads asks besides: copied sheets, and which players the reference takes. -/
import Derived.Test.YtmjbidnlknmcgaaDoorAb
import Derived.Test.YtmjbidnlknmcgaaDoorTh
set_option linter.unusedVariables false
set_option linter.unusedSimpArgs false
namespace Go.Proofs.YtmjbidnlknmcgaaDoor
open Go.RowKit

/-- What a sheet's own header says. -/
def HdOK (SS : List (Option Addr × Nat × List Int)) : Prop := ∀ p ∈ SS, (p.1 = none → p.2.1 = 0 ∧ p.2.2 = []) ∧ p.2.2.length ≤ p.2.1

/-- The balls alone tell. -/
theorem matchE_same {l : Lw} {SS CS : List (Option Addr × Nat × List Int)} (h : CS.map (fun p => p.2.2) = SS.map (fun p => p.2.2)) : matchE l CS = matchE l SS := by
  have hl : CS.length = SS.length := by have := congrArg List.length h; simpa using this
  have ha : ∀ XS : List (Option Addr × Nat × List Int), (XS.all fun p => decide (p.2.2.length ≤ 40)) = (XS.map (fun p => p.2.2)).all (fun b => decide (b.length ≤ 40)) := fun XS => by rw [List.all_map]; rfl
  unfold matchE
  rw [hl, ha CS, ha SS, h]
theorem spR_same {l : Lw} {SS CS : List (Option Addr × Nat × List Int)} (h : CS.map (fun p => p.2.2) = SS.map (fun p => p.2.2)) : spR l CS = spR l SS := by
  have ha : ∀ XS : List (Option Addr × Nat × List Int), spR l XS = (XS.map (fun p => p.2.2)).map (fun b => (spLo l b, spHi l b)) := fun XS => by rw [List.map_map]; rfl
  rw [ha CS, ha SS, h]
theorem spE_same {l : Lw} {SS CS : List (Option Addr × Nat × List Int)} (h : CS.map (fun p => p.2.2) = SS.map (fun p => p.2.2)) : spE l CS = spE l SS := by
  have ha : ∀ XS : List (Option Addr × Nat × List Int), spE l XS = (((XS.map (fun p => p.2.2)).map (fun b => rdE l b)).find? fun e => e != 0).getD 0 := fun XS => by rw [List.map_map]; rfl
  rw [ha CS, ha SS, h]

/-- Too many players, or too long a sheet. -/
def longB (SS : List (Option Addr × Nat × List Int)) (i : Nat) : Bool := decide (6 < SS.length) || (SS.take i).any fun p => decide (40 < p.2.2.length)
theorem longB_all (SS : List (Option Addr × Nat × List Int)) : longB SS SS.length = (decide (6 < SS.length) || !(SS.all fun p => decide (p.2.2.length ≤ 40))) := by
  unfold longB
  rw [List.take_length, List.not_all_eq_any_not]
  congr 2
  funext p
  by_cases h : p.2.2.length ≤ 40
  · have : ¬ 40 < p.2.2.length := by omega
    simp [h, this]
  · have : 40 < p.2.2.length := by omega
    simp [h, this]
theorem matchE_long (l : Lw) (SS : List (Option Addr × Nat × List Int)) : matchE l SS = if okB l = false then 1 else if longB SS SS.length = true then 3 else if SS.length = 0 then 1 else 0 := by
  rw [longB_all]
  unfold matchE
  split
  · rfl
  · by_cases h : 6 < SS.length
    · simp [h]
    · cases h2 : SS.all fun p => decide (p.2.2.length ≤ 40) <;> simp [h, h2]

/-- Which sheets are a game's. -/
def isB (l : Lw) (b : List Int) : Bool := decide ((fol l (rec0 l) b).2 = b.length)
theorem rdE_is {l : Lw} {b : List Int} (ok : l.Ok) (h : b.length ≤ 40) : rdE l b = if isB l b = true then 0 else 10 := by
  have he : errS l b.length = 0 := by simp only [errS, (okB_iff l).2 ok, if_true]; rw [if_pos h]
  have hle := fol_le l b (rec0 l)
  unfold rdE isB
  rw [if_neg (by simp [he])]
  by_cases h2 : (fol l (rec0 l) b).2 = b.length
  · rw [if_neg (by omega), if_pos (by simpa using h2)]
  · rw [if_pos (by omega), if_neg (by simpa using h2)]

theorem spE_ten {l : Lw} {SS : List (Option Addr × Nat × List Int)} (ok : l.Ok) (h : ∀ p ∈ SS, p.2.2.length ≤ 40) : spE l SS = if (SS.all fun p => isB l p.2.2) = true then 0 else 10 := by
  induction SS with
  | nil => rfl
  | cons p SS ih =>
    have ih := ih (fun q hq => h q (List.mem_cons_of_mem _ hq))
    have hp := rdE_is (b := p.2.2) ok (h p (by simp))
    unfold spE at ih ⊢
    rw [List.map_cons, List.all_cons]
    cases hb : isB l p.2.2
    · rw [hb] at hp
      simp only [Bool.false_eq_true, if_false] at hp
      rw [List.find?_cons_of_pos (by rw [hp]; rfl), hp]
      rfl
    · rw [hb] at hp
      simp only [if_true] at hp
      rw [List.find?_cons_of_neg (by rw [hp]; simp), ih, Bool.true_and]

/-- Player i against the first k others, as the reference goes. -/
def isK (R : List (Int × Int)) (i : Nat) (hi : Int) : Nat → Bool
  | 0 => true
  | k + 1 => isK R i hi k && (decide (k = i) || (match R[k]? with | some q => decide (q.1 ≤ hi) | none => true))
def frK (R : List (Int × Int)) (i : Nat) (lo : Int) : Nat → Bool
  | 0 => true
  | k + 1 => frK R i lo k && (decide (k = i) || (match R[k]? with | some q => decide (q.2 < lo) | none => true))

theorem all_skip (R : List (Int × Int)) (f : Int × Int → Bool) (i : Nat) (g : Nat → Bool) (h0 : g 0 = true) (hg : ∀ k, g (k + 1) = (g k && (decide (k = i) || (match R[k]? with | some q => f q | none => true)))) :
    ∀ k, k ≤ R.length → g k = ((R.take (min k i)).all f && ((R.take k).drop (i + 1)).all f) := by
  intro k
  induction k with
  | zero => intro _; simp [h0]
  | succ k ih =>
    intro hk
    rw [hg, ih (by omega)]
    obtain ⟨q, hq⟩ : ∃ q, R[k]? = some q := ⟨R[k]'(by omega), List.getElem?_eq_getElem _⟩
    rw [hq]
    have ht : R.take (k + 1) = R.take k ++ [q] := by rw [List.take_add_one, hq]; rfl
    rcases Nat.lt_trichotomy k i with h | h | h
    · have e1 : min (k + 1) i = k + 1 := by omega
      have e2 : min k i = k := by omega
      have d1 : (R.take (k + 1)).drop (i + 1) = [] := List.drop_of_length_le (by rw [List.length_take]; omega)
      have d2 : (R.take k).drop (i + 1) = [] := List.drop_of_length_le (by rw [List.length_take]; omega)
      rw [e1, e2, d1, d2, ht, List.all_append]
      have hne : ¬ k = i := by omega
      simp [hne]
    · subst h
      have e1 : min (k + 1) k = k := by omega
      have d1 : (R.take (k + 1)).drop (k + 1) = [] := List.drop_of_length_le (by rw [List.length_take]; omega)
      have d2 : (R.take k).drop (k + 1) = [] := List.drop_of_length_le (by rw [List.length_take]; omega)
      rw [e1, d1, d2, Nat.min_self]
      simp
    · have e1 : min (k + 1) i = i := by omega
      have e2 : min k i = i := by omega
      have d1 : (R.take (k + 1)).drop (i + 1) = (R.take k).drop (i + 1) ++ [q] := by
        rw [ht, List.drop_append_of_le_length (by rw [List.length_take]; omega)]
      rw [e1, e2, d1, List.all_append]
      have hne : ¬ k = i := by omega
      simp [hne, Bool.and_assoc]

theorem isK_may {R : List (Int × Int)} {i : Nat} {p : Int × Int} (hi : i < R.length) : isK R i p.2 R.length = mayI R i p := by
  rw [all_skip R (fun q => decide (q.1 ≤ p.2)) i (isK R i p.2) rfl (fun k => rfl) R.length (Nat.le_refl _), Nat.min_eq_right (by omega), List.take_length]
  rfl
theorem frK_sure {R : List (Int × Int)} {i : Nat} {p : Int × Int} (hi : i < R.length) : frK R i p.1 R.length = sureI R i p := by
  rw [all_skip R (fun q => decide (q.2 < p.1)) i (frK R i p.1) rfl (fun k => rfl) R.length (Nat.le_refl _), Nat.min_eq_right (by omega), List.take_length]
  rfl
theorem isK_step {R : List (Int × Int)} {i k : Nat} {hi : Int} {q : Int × Int} (h : R[k]? = some q) : isK R i hi (k + 1) = (isK R i hi k && (decide (k = i) || decide (q.1 ≤ hi))) := by rw [isK, h]
theorem frK_step {R : List (Int × Int)} {i k : Nat} {lo : Int} {q : Int × Int} (h : R[k]? = some q) : frK R i lo (k + 1) = (frK R i lo k && (decide (k = i) || decide (q.2 < lo))) := by rw [frK, h]

/-- The copied sheets while they grow. -/
structure CpI (w W : World) (v : Value) (i : Nat) (CS : List (Option Addr × Nat × List Int)) : Prop where
  ow : W.ownsRow w.heap.size 24 1 v i (CS.map fun p => .slice p.1 p.2.2.length p.2.1)
  bl : Below w.heap.size w W
  q : ∀ p ∈ CS, ∀ k x, p.2.2[k]? = some x → ∃ g o, p.1 = some ⟨g, o, none⟩ ∧ W.cell? ⟨g, o + k, none⟩ = some (.int .i64 x) ∧ v.ownBlock ≠ some g
theorem CpI.start (w : World) : CpI w w (.slice none 0 0) 0 [] := ⟨World.ownsRow_nil _ _ _ _, Below.refl _ _, fun p h => by cases h⟩
theorem CpI.lo {w W W' : World} {v : Value} {i : Nat} {CS : List (Option Addr × Nat × List Int)} (h : CpI w W v i CS) (hb : Below W.heap.size W W') : CpI w W' v i CS :=
  ⟨own_below h.ow hb, h.bl.trans (hb.mono h.bl.size), fun p hp k x hx => by
    obtain ⟨g, o, h1, h2, h3⟩ := h.q p hp k x hx
    exact ⟨g, o, h1, below_cell hb h2, h3⟩⟩
theorem CpI.app {w W W1 W3 : World} {v v' : Value} {i n c : Nat} {xa : Option Addr} {zs : List Int} {o : Obj} {CS : List (Option Addr × Nat × List Int)} (h : CpI w W v i CS) (hz : zs.length = n)
    (hl : W1.ownsRow W.heap.size 3 1 (.slice xa n c) n (zs.map (Value.int .i64))) (hb : Below W.heap.size W W1) (hg : (W1.alloc o).grownBy W3 v.ownBlock)
    (ho : W3.ownsRow w.heap.size 24 1 v' (i + 1) ((CS.map fun p => .slice p.1 p.2.2.length p.2.1) ++ [.slice xa n c])) (hloc : v'.ownBlock = v.ownBlock ∨ v'.ownBlock = some (W1.alloc o).heap.size) : CpI w W3 v' (i + 1) (CS ++ [(xa, c, zs)]) := by
  have h1 := (h.lo hb).lo (below_al W1 o)
  have hs1 : W1.heap.size ≤ (W1.alloc o).heap.size := (below_al W1 o).size
  refine ⟨by rw [List.map_append]; simpa [hz] using ho, h1.bl.grown hg h1.bl.size (fun k e => (h1.ow.lt k e).1), ?_⟩
  intro p hp k x hx
  rcases List.mem_append.1 hp with hp | hp
  · obtain ⟨g, of, e1, e2, e3⟩ := h1.q p hp k x hx
    have hlt : g < (W1.alloc o).heap.size := World.block_lt_of_cell? _ _ e2
    refine ⟨g, of, e1, (hg.cell_far _ hlt (Ne.symm e3)).trans e2, ?_⟩
    rcases hloc with h5 | h5
    · rw [h5]; exact e3
    · rw [h5]; intro e; cases e; omega
  · simp at hp
    subst hp
    simp only at hx ⊢
    have hk : k < n := by rw [← hz]; exact (List.getElem?_eq_some_iff.1 hx).1
    obtain ⟨g, cap, hv, hg1, hg2, _, _⟩ := own_form hl (by omega)
    cases hv
    have hc := own_cell hl k _ (show (zs.map (Value.int .i64))[k]? = some (.int .i64 x) by rw [List.getElem?_map, hx]; rfl)
    have hc2 := below_cell (below_al W1 o) hc
    have hne : v.ownBlock ≠ some g := fun e => by have := (h.ow.lt g e).2; omega
    refine ⟨g, 0, rfl, ?_, ?_⟩
    · rw [Nat.zero_add]
      exact (hg.cell_far ⟨g, k, none⟩ (by show g < _; omega) (fun e => hne e.symm)).trans hc2
    · rcases hloc with h5 | h5
      · rw [h5]; exact hne
      · rw [h5]; intro e; cases e; omega

theorem CpI.sheets {w W : World} {a : Option Addr} {n c : Nat} {CS : List (Option Addr × Nat × List Int)} (h : CpI w W (.slice a n c) n CS) : SheetsAt W a CS := by
  intro i p hp
  have hm : (CS.map fun p => Value.slice p.1 p.2.2.length p.2.1)[i]? = some (.slice p.1 p.2.2.length p.2.1) := by rw [List.getElem?_map, hp]; rfl
  have hl : CS.length = n := by have := h.ow.1; simpa using this
  have hi : i < n := by rw [← hl]; exact (List.getElem?_eq_some_iff.1 hp).1
  obtain ⟨g, cap, hv, _⟩ := own_form h.ow (by omega)
  cases hv
  refine ⟨g, 0, rfl, ?_, ?_⟩
  · rw [Nat.zero_add]; exact own_cell h.ow i _ hm
  · intro k x hx
    obtain ⟨g2, o2, e1, e2, _⟩ := h.q p (List.mem_of_getElem? hp) k x hx
    exact ⟨g2, o2, e1, e2⟩

end Go.Proofs.YtmjbidnlknmcgaaDoor
