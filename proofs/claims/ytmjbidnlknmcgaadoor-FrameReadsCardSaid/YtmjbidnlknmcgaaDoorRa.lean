/- The reference's game while its frames are laid: its block, its rows, and what stays as it was. -/
import Derived.Test.YtmjbidnlknmcgaaDoorDr
set_option linter.unusedVariables false
set_option linter.unusedSimpArgs false
namespace Go.Proofs.YtmjbidnlknmcgaaDoor
open Go.RowKit

/-- The rows of a game's frames. -/
def itemsG (fv : Value) (vs : List Value) (fs : List (List Int)) : List Item :=
  (24, fv, vs) :: (vs.zip fs).map fun p => (3, p.1, p.2.map (Value.int .i64))

/-- A game in its block, with its rows; nothing else has turned. -/
structure GI (w0 w W : World) (B base b : Nat) (cv : Value) (st : Int) (dn : Bool) (fv : Value) (vs : List Value) (fs : List (List Int)) : Prop where
  blk : W.heap[b]? = some (.cells #[fv, cv, .int .i64 st, .bool dn] 47 (0, 0))
  ow : Owns W base (itemsG fv vs fs)
  ln : vs.length = fs.length
  hb : b < base
  hB : B ≤ b
  sz : base ≤ W.heap.size
  far : ∀ j, j < base → j ≠ b → W.heap[j]? = w0.heap[j]?
  bl : Below B w W

theorem GI.inner_mem {w0 w W : World} {B base b : Nat} {cv : Value} {st : Int} {dn : Bool} {fv : Value} {vs : List Value} {fs : List (List Int)} (_ : GI w0 w W B base b cv st dn fv vs fs) {f : Nat} {vI : Value} {zs : List Int} (hv : vs[f]? = some vI) (hz : fs[f]? = some zs) : ((3, vI, zs.map (Value.int .i64)) : Item) ∈ itemsG fv vs fs := by
  simp only [itemsG, List.mem_cons, List.mem_map]
  exact .inr ⟨(vI, zs), List.mem_iff_getElem?.2 ⟨f, by rw [List.getElem?_zip_eq_some]; exact ⟨hv, hz⟩⟩, rfl⟩

section
variable {w0 w W : World} {B base b : Nat} {cv : Value} {st : Int} {dn : Bool} {fv : Value} {vs : List Value} {fs : List (List Int)} (h : GI w0 w W B base b cv st dn fv vs fs)
include h

theorem GI.c0 : W.cell? ⟨b, 0, none⟩ = some fv := by have h := h.blk; simp [World.cell?, h]
theorem GI.c1 : W.cell? ⟨b, 1, none⟩ = some cv := by have h := h.blk; simp [World.cell?, h]
theorem GI.c2 : W.cell? ⟨b, 2, none⟩ = some (.int .i64 st) := by have h := h.blk; simp [World.cell?, h]
theorem GI.c3 : W.cell? ⟨b, 3, none⟩ = some (.bool dn) := by have h := h.blk; simp [World.cell?, h]
theorem GI.free (i : Nat) : W.frozen? ⟨b, i, none⟩ = false := by have h := h.blk; simp [World.frozen?, h]

/-- A row has grown. -/
theorem GI.grow {w1 : World} {p : Item} (hp : p ∈ itemsG fv vs fs) (hg : W.grownBy w1 p.2.1.ownBlock) :
    w1.heap[b]? = some (.cells #[fv, cv, .int .i64 st, .bool dn] 47 (0, 0)) ∧ base ≤ w1.heap.size ∧ (∀ j, j < base → j ≠ b → w1.heap[j]? = w0.heap[j]?) ∧ Below B w w1 := by
  have hrow : ∀ k, p.2.1.ownBlock = some k → base ≤ k := fun k e => ((h.ow.own p hp).lt k e).1
  have hb := h.hb
  have hB := h.hB
  have hs := h.sz
  refine ⟨(hg.block b (lt_of_block h.blk) (fun e => by have := hrow b e.symm; omega)).trans h.blk, Nat.le_trans h.sz hg.size, fun j hj hne => (hg.block j (by omega) (fun e => by have := hrow j e.symm; omega)).trans (h.far j hj hne), ?_⟩
  exact h.bl.grown hg (by omega) (fun k e => by have := hrow k e; omega)

theorem GI.open' {w1 : World} {v1 : Value} (hg : W.grownBy w1 fv.ownBlock) (ho : w1.ownsRow base 24 1 v1 (vs.length + 1) (vs ++ [.slice none 0 0])) (hl : v1.ownBlock = fv.ownBlock ∨ ∀ k, v1.ownBlock = some k → W.heap.size ≤ k) :
    GI w0 w (w1.setCell ⟨b, 0, none⟩ v1) B base b cv st dn v1 (vs ++ [.slice none 0 0]) (fs ++ [[]]) := by
  obtain ⟨k1, k2, k3, k4⟩ := h.grow (p := (24, fv, vs)) (by simp [itemsG]) hg
  have o1 : Owns w1 base ((24, v1, vs ++ [.slice none 0 0]) :: (itemsG fv vs fs).tail) := by
    have := Owns.step (A := []) (C := (itemsG fv vs fs).tail) (e := 24) (v := fv) (v' := v1) (xs := vs) (ys := vs ++ [.slice none 0 0]) (by simpa [itemsG] using h.ow) hg (by simpa using ho) hl
    simpa using this
  have g2 := grown_set (World.grownBy.refl w1 (some b)) 0 v1
  have o2 := (o1.nil 3).kept g2 (fun k e => by cases e; exact h.hb)
  have e1 : (vs ++ [Value.slice none 0 0]).zip (fs ++ [[]]) = vs.zip fs ++ [(Value.slice none 0 0, [])] := by
    rw [List.zip_append h.ln]; rfl
  refine ⟨by simpa using blk_setCell k1 0 v1, ?_, by simp [h.ln], h.hb, h.hB, by simpa using k2, fun j hj hne => ?_, k4.setCell (p := ⟨b, 0, none⟩) h.hB _⟩
  · simpa [itemsG, e1] using o2
  · exact (Below.heap_setCell _ _ _ _ (fun e => hne e)).trans (k3 j hj hne)

theorem GI.inner {f : Nat} {vI : Value} {zs : List Int} (hv : vs[f]? = some vI) (hz : fs[f]? = some zs) : W.ownsRow base 3 1 vI zs.length (zs.map (Value.int .i64)) := by
  have := h.ow.own _ (h.inner_mem hv hz)
  simpa using this

theorem GI.outer : W.ownsRow base 24 1 fv vs.length vs := h.ow.own (24, fv, vs) (by simp [itemsG])

theorem GI.bne {p : Item} (hp : p ∈ itemsG fv vs fs) : some b ≠ p.2.1.ownBlock := fun e => by
  have := ((h.ow.own p hp).lt b e.symm).1
  have := h.hb
  omega
end

theorem GI.row_ne {w0 w W : World} {B base b g n c : Nat} {cv vI : Value} {st : Int} {dn : Bool} {vs : List Value} {fs : List (List Int)} {zs : List Int} {f : Nat} (h : GI w0 w W B base b cv st dn (.slice (some ⟨g, 0, none⟩) n c) vs fs) (hv : vs[f]? = some vI) (hz : fs[f]? = some zs) : some g ≠ vI.ownBlock := fun e => by
  have hap := h.ow.ap
  unfold itemsG at hap
  rw [List.pairwise_cons] at hap
  have hm := h.inner_mem hv hz
  unfold itemsG at hm
  rcases List.mem_cons.1 hm with h1 | h1
  · simp at h1
  · exact hap.1 _ h1 g rfl e.symm

theorem GI.put {w0 w W WA : World} {B base b g n c f : Nat} {cv vI vA : Value} {st : Int} {dn : Bool} {vs : List Value} {fs : List (List Int)} {zs ys : List Int} (h : GI w0 w W B base b cv st dn (.slice (some ⟨g, 0, none⟩) n c) vs fs)
    (hv : vs[f]? = some vI) (hz : fs[f]? = some zs) (hg : W.grownBy WA vI.ownBlock) (ho : WA.ownsRow base 3 1 vA ys.length (ys.map (Value.int .i64))) (hl : vA.ownBlock = vI.ownBlock ∨ ∀ k, vA.ownBlock = some k → W.heap.size ≤ k) :
    GI w0 w (WA.setCell ⟨g, f, none⟩ vA) B base b cv st dn (.slice (some ⟨g, 0, none⟩) n c) (vs.set f vA) (fs.set f ys) := by
  have hn : n = vs.length := by
    have h1 := h.outer
    rcases h1.2 with ⟨h2, _⟩ | ⟨g', cap, cur, hv, _⟩
    · cases h2
    · cases hv; rfl
  have hit : (itemsG (.slice (some ⟨g, 0, none⟩) n c) vs fs)[f + 1]? = some (3, vI, zs.map (Value.int .i64)) := by
    simp only [itemsG, List.getElem?_cons_succ, List.getElem?_map]
    have : (vs.zip fs)[f]? = some (vI, zs) := by rw [List.getElem?_zip_eq_some]; exact ⟨hv, hz⟩
    rw [this]; rfl
  have hmem := List.mem_of_getElem? hit
  obtain ⟨k1, k2, k3, k4⟩ := h.grow hmem hg
  have o1 := h.ow.set hit hg (ys := ys.map (Value.int .i64)) (by simpa using ho) hl
  have hrow := o1.own (24, .slice (some ⟨g, 0, none⟩) n c, vs) (by simp [itemsG])
  have hf : f < n := by rw [hn]; exact (List.getElem?_eq_some_iff.1 hv).1
  have hrow' : WA.ownsRow base 24 1 (.slice (some ⟨g, 0, none⟩) n c) n vs := by rw [hn] at hrow ⊢; exact hrow
  have hrow2 := ownsRow_set (v := vA) hrow' hf
  have g2 := grown_set (World.grownBy.refl WA (some g)) f vA
  have o2 := o1.set (i := 0) (e := 24) (v := .slice (some ⟨g, 0, none⟩) n c) (v' := .slice (some ⟨g, 0, none⟩) n c) (xs := vs) (ys := vs.set f vA) (by simp [itemsG]) g2 (by simpa [hn] using hrow2) (.inl rfl)
  have hgb : base ≤ g := (hrow.lt g rfl).1
  have hb := h.hb
  have hB := h.hB
  refine ⟨(g2.block b (lt_of_block k1) (fun e => by cases e; omega)).trans k1, ?_, by simp [h.ln], h.hb, h.hB, by simpa using k2, fun j hj hne => ?_, k4.setCell (p := ⟨g, f, none⟩) (by show B ≤ g; omega) _⟩
  · simpa [itemsG, zip_set, List.map_set] using o2
  · exact (Below.heap_setCell _ _ _ _ (fun e => by have e : j = g := e; omega)).trans (k3 j hj hne)

/-- The frames to which the next ball comes. -/
theorem noteFs_len {l : Lw} {r : Rc} {i : Nat} (hw : RcW l r i) : (r.fs.length ≤ r.s.f.toNat → noteFs r = r.fs ++ [[]]) ∧ (¬ r.fs.length ≤ r.s.f.toNat → noteFs r = r.fs) ∧ (noteFs r).length = r.s.f.toNat + 1 ∧ r.fs.length ≤ r.s.f.toNat + 1 := by
  have hfl := hw.fl
  have hv1 := hw.vd.f1
  unfold noteFs
  by_cases hb : r.s.b = 0
  · rw [if_pos hb] at hfl
    rw [if_pos hb]
    exact ⟨fun _ => rfl, fun h => absurd (by omega) h, by rw [List.length_append]; simp; omega, by omega⟩
  · rw [if_neg hb] at hfl
    rw [if_neg hb]
    exact ⟨fun h => by omega, fun _ => rfl, by omega, by omega⟩

theorem beh_done {l : Lw} {s : Sd} {k : Int} (hf : s.f ≠ l.fr) (h : (behS l s k).f = l.fr) : (behS l s k).s = 0 := by
  unfold behS finS at h ⊢
  split at h
  · rename_i he
    rw [if_pos he]
    unfold nextS at h ⊢
    split at h
    · rename_i h2
      simp [h2]
    · rename_i h2
      first | (simp_all; done) | (exfalso; simp_all [setS])
  · exfalso
    split at h
    · have := midS_f l (thrS l s k)
      simp_all [setS, thrS]
    · have := midS_f l (thrS l s k)
      simp_all [thrS]

/-- What is known behind i balls of a sheet that is a game's. -/
structure At (l : Lw) (bs : List Int) (R : Rc) (P : List (Int × Int)) (r : Rc) (i : Nat) : Prop where
  w : RcW l r i
  f : fol l r (bs.drop i) = (R, bs.length - i)
  p : P.drop i = playL l r.s (bs.drop i)
  d : r.s.f = l.fr → r.s.s = 0

theorem At.start {l : Lw} {bs : List Int} (ok : l.Ok) (h : (fol l (rec0 l) bs).2 = bs.length) : At l bs (fol l (rec0 l) bs).1 (playL l (begS l) bs) (rec0 l) 0 :=
  ⟨rec0_rcw ok, by rw [List.drop_zero, Nat.sub_zero]; exact Prod.ext rfl h, rfl, fun e => by have h0 : (rec0 l).s.f = 0 := rfl; have := ok.f1; omega⟩

theorem At.next {l : Lw} {bs : List Int} {R : Rc} {P : List (Int × Int)} {r : Rc} {i : Nat} {k : Int} (h : At l bs R P r i) (ok : l.Ok) (hk : bs[i]? = some k) :
    okT l r.s k = true ∧ (∃ c, P[i]? = some (r.s.f, c)) ∧ At l bs R P (noteR l r k) (i + 1) := by
  obtain ⟨hlt, hget⟩ := List.getElem?_eq_some_iff.1 hk
  have hd : bs.drop i = k :: bs.drop (i + 1) := by rw [← hget]; exact List.drop_eq_getElem_cons hlt
  have hf := h.f
  have hp := h.p
  rw [hd, fol] at hf
  rw [hd, playL] at hp
  by_cases ht : okT l r.s k = true
  · rw [if_pos ht] at hf hp
    have h0 : P[i]? = some (r.s.f, cnt l r.s k) := by
      have := congrArg (fun L => L[0]?) hp
      simpa [List.getElem?_drop] using this
    have hp1 : P.drop (i + 1) = playL l (behS l r.s k) (bs.drop (i + 1)) := by
      have := congrArg List.tail hp
      simpa [List.tail_drop] using this
    refine ⟨ht, ⟨_, h0⟩, ?_⟩
    have h1 := congrArg Prod.fst hf
    have h2 := congrArg Prod.snd hf
    simp only at h1 h2
    exact ⟨h.w.note ok ht, Prod.ext h1 (by show _ = bs.length - (i + 1); omega), hp1, fun e => beh_done (okT_out ht).1 e⟩
  · rw [if_neg ht] at hf
    have h2 := congrArg Prod.snd hf
    simp only at h2
    omega

theorem At.last {l : Lw} {bs : List Int} {R : Rc} {P : List (Int × Int)} {r : Rc} (h : At l bs R P r bs.length) : r = R := by
  have hf := h.f
  rw [List.drop_length, fol] at hf
  exact congrArg Prod.fst hf

/-- The reference's game in its block. -/
structure Rgm (W : World) (g : Nat) (fv qv : Value) (st : Int) (dn : Bool) : Prop where
  blk : W.heap[g]? = some (.cells #[fv, qv, .int .i64 st, .bool dn] 47 (0, 0))
theorem Rgm.lo {W W' : World} {g : Nat} {fv qv : Value} {st : Int} {dn : Bool} (h : Hid (Rgm W g fv qv st dn)) (hb : Below W.heap.size W W') : Hid (Rgm W' g fv qv st dn) := Lib.hid ⟨(hb.block _ (lt_of_block h.out.blk)).trans h.out.blk⟩
theorem Rgm.dr {W : World} {g : Nat} {fv qv : Value} {st : Int} {dn : Bool} (h : Hid (Rgm W g fv qv st dn)) : Hid (Rgm W.drew g fv qv st dn) := Rgm.lo h ⟨rfl, rfl, rfl, Nat.le_refl _, fun _ _ => rfl⟩
theorem Rgm.new (W : World) (fv qv : Value) (st : Int) (dn : Bool) : Hid (Rgm (W.alloc (.cells #[fv, qv, .int .i64 st, .bool dn] 47)) W.heap.size fv qv st dn) := Lib.hid ⟨heap_alloc_new W _⟩
theorem Rgm.new1 (W : World) (o : Obj) (fv qv : Value) (st : Int) (dn : Bool) : Hid (Rgm ((W.alloc o).alloc (.cells #[fv, qv, .int .i64 st, .bool dn] 47)) (W.heap.size + 1) fv qv st dn) := Lib.hid ⟨by
  have e : W.heap.size + 1 = (W.alloc o).heap.size := by simp
  rw [e]
  exact heap_alloc_new _ _⟩
theorem Rgm.fz {W : World} {g : Nat} {fv qv : Value} {st : Int} {dn : Bool} (h : Hid (Rgm W g fv qv st dn)) : (W.cell? ⟨g, 0, none⟩ = some fv ∧ W.cell? ⟨g, 1, none⟩ = some qv ∧ W.cell? ⟨g, 2, none⟩ = some (.int .i64 st) ∧ W.cell? ⟨g, 3, none⟩ = some (.bool dn)) ∧ W.frozen? ⟨g, 0, none⟩ = false ∧ W.frozen? ⟨g, 1, none⟩ = false ∧ W.frozen? ⟨g, 2, none⟩ = false ∧ W.frozen? ⟨g, 3, none⟩ = false := by
  have h := h.out.blk
  exact ⟨⟨by simp [World.cell?, h], by simp [World.cell?, h], by simp [World.cell?, h], by simp [World.cell?, h]⟩, by simp [World.frozen?, h], by simp [World.frozen?, h], by simp [World.frozen?, h], by simp [World.frozen?, h]⟩
theorem Rgm.put {W : World} {g : Nat} {fv qv fv' qv' : Value} {st st' : Int} {dn dn' : Bool} (h : Hid (Rgm W g fv qv st dn)) : Hid (Rgm ((((W.setCell ⟨g, 0, none⟩ fv').setCell ⟨g, 1, none⟩ qv').setCell ⟨g, 2, none⟩ (.int .i64 st')).setCell ⟨g, 3, none⟩ (.bool dn')) g fv' qv' st' dn') :=
  Lib.hid ⟨by simpa using blk_setCell (blk_setCell (blk_setCell (blk_setCell h.out.blk 0 fv') 1 qv') 2 (.int .i64 st')) 3 (.bool dn')⟩

/-- The numbers of a row that lie from a block on, and not in another one. -/
structure QF (W : World) (qa : Option Addr) (M : List Int) (lo b : Nat) : Prop where
  q : ∀ i v, M[i]? = some v → ∃ g, qa = some ⟨g, 0, none⟩ ∧ W.cell? ⟨g, i, none⟩ = some (.int .i64 v) ∧ g ≠ b ∧ lo ≤ g

theorem QF.of_own {W : World} {base b m qc lo : Nat} {qa : Option Addr} {M : List Int} (h : W.ownsRow base 3 1 (.slice qa m qc) m (M.map (Value.int .i64))) (hlo : lo ≤ base) (hb : b < base ∨ W.heap.size ≤ b) : Hid (QF W qa M lo b) := by
  refine Lib.hid ⟨fun i v hv => ?_⟩
  have hm : M.length = m := by have := h.1; simpa using this
  have hi := (List.getElem?_eq_some_iff.1 hv).1
  obtain ⟨g, c', e, h1, h2, _, _⟩ := own_form h (by omega)
  cases e
  exact ⟨g, rfl, own_cell h i _ (by rw [List.getElem?_map, hv]; rfl), by omega, by omega⟩

theorem QF.lo {W W' : World} {qa : Option Addr} {M : List Int} {lo b : Nat} (h : Hid (QF W qa M lo b)) (hb : Below W.heap.size W W') : Hid (QF W' qa M lo b) :=
  Lib.hid ⟨fun i v hv => by obtain ⟨g, h1, h2, h3, h4⟩ := h.out.q i v hv; exact ⟨g, h1, below_cell hb h2, h3, h4⟩⟩

theorem QF.put {W : World} {qa : Option Addr} {M : List Int} {lo b : Nat} (h : Hid (QF W qa M lo b)) (f q s d : Value) : Hid (QF ((((W.setCell ⟨b, 0, none⟩ f).setCell ⟨b, 1, none⟩ q).setCell ⟨b, 2, none⟩ s).setCell ⟨b, 3, none⟩ d) qa M lo b) :=
  Lib.hid ⟨fun i v hv => by
    obtain ⟨g, h1, h2, h3, h4⟩ := h.out.q i v hv
    refine ⟨g, h1, ?_, h3, h4⟩
    rw [World.cell?_setCell_far _ _ _ _ (Ne.symm h3), World.cell?_setCell_far _ _ _ _ (Ne.symm h3), World.cell?_setCell_far _ _ _ _ (Ne.symm h3), World.cell?_setCell_far _ _ _ _ (Ne.symm h3)]
    exact h2⟩

theorem QF.balls {W : World} {qa : Option Addr} {M : List Int} {lo b : Nat} (h : QF W qa M lo b) : BallsAt W qa M := fun i v hv => by
  obtain ⟨g, h1, h2, _, _⟩ := h.q i v hv
  exact ⟨g, 0, h1, by rw [Nat.zero_add]; exact h2⟩

theorem GI.keep {w0 w W W' : World} {B base b : Nat} {cv : Value} {st : Int} {dn : Bool} {fv : Value} {vs : List Value} {fs : List (List Int)} (h : GI w0 w W B base b cv st dn fv vs fs) (hg : W.grownBy W' none) : GI w0 w W' B base b cv st dn fv vs fs := by
  have hb := h.hb
  have hs := h.sz
  exact ⟨(hg.block b (lt_of_block h.blk) (fun e => by cases e)).trans h.blk, h.ow.kept hg (fun k e => by cases e), h.ln, h.hb, h.hB, Nat.le_trans h.sz hg.size, fun j hj hne => (hg.block j (by omega) (fun e => by cases e)).trans (h.far j hj hne), h.bl.grown hg (by have := h.hB; omega) (fun k e => by cases e)⟩
theorem GI.dr {w0 w W : World} {B base b : Nat} {cv : Value} {st : Int} {dn : Bool} {fv : Value} {vs : List Value} {fs : List (List Int)} (h : GI w0 w W B base b cv st dn fv vs fs) : GI w0 w W.drew B base b cv st dn fv vs fs := h.keep (grown_drewN (World.grownBy.refl W none) 1)
theorem GI.set2 {w0 w W : World} {B base b : Nat} {cv : Value} {st : Int} {dn : Bool} {fv : Value} {vs : List Value} {fs : List (List Int)} (h : GI w0 w W B base b cv st dn fv vs fs) (st' : Int) : GI w0 w (W.setCell ⟨b, 2, none⟩ (.int .i64 st')) B base b cv st' dn fv vs fs :=
  ⟨by simpa using blk_setCell h.blk 2 (.int .i64 st'), h.ow.kept (grown_set (World.grownBy.refl W (some b)) 2 _) (fun k e => by cases e; exact h.hb), h.ln, h.hb, h.hB, by simpa using h.sz, fun j hj hne => (Below.heap_setCell _ _ _ _ (fun e => hne e)).trans (h.far j hj hne), h.bl.setCell (p := ⟨b, 2, none⟩) h.hB _⟩
theorem GI.start {w W : World} {B b : Nat} {cv : Value} {st : Int} {dn : Bool} (hg : Hid (Rgm W b (.slice none 0 0) cv st dn)) (hB : B ≤ b) (hbl : Below B w W) : GI W w W B W.heap.size b cv st dn (.slice none 0 0) [] [] :=
  ⟨hg.out.blk, ⟨fun p hp => by
    simp only [itemsG, List.zip_nil_left, List.map_nil, List.mem_cons, List.not_mem_nil, or_false] at hp
    subst hp
    exact World.ownsRow_nil _ _ _ _, by simp [itemsG]⟩, rfl, lt_of_block hg.out.blk, hB, Nat.le_refl _, fun _ _ _ => rfl, hbl⟩

/-- The game's frames when all is done, behind its copy. -/
theorem GI.done {w0 w W : World} {B base b rb : Nat} {cv : Value} {st : Int} {dn : Bool} {fa : Option Addr} {fn fc : Nat} {vs : List Value} {fs : List (List Int)} (h : GI w0 w W B base b cv st dn (.slice fa fn fc) vs fs) (hr : rb < base) (x0 x1 x2 x3 : Value) :
    fn = fs.length ∧ FR ((((W.setCell ⟨rb, 0, none⟩ x0).setCell ⟨rb, 1, none⟩ x1).setCell ⟨rb, 2, none⟩ x2).setCell ⟨rb, 3, none⟩ x3) fa fs.length fc fs := by
  have g := grown_set (grown_set (grown_set (grown_set (World.grownBy.refl W (some rb)) 0 x0) 1 x1) 2 x2) 3 x3
  have ow := h.ow.kept g (fun k e => by cases e; exact hr)
  have h1 := ow.own (24, .slice fa fn fc, vs) (by simp [itemsG])
  have hfn : fn = fs.length := by
    have hl := h.ln
    have h4 := h.outer
    rcases h4.2 with ⟨h2, h3⟩ | ⟨g', cap, cur, hv, _⟩
    · cases h2; omega
    · cases hv; exact hl
  refine ⟨hfn, ⟨base, vs, ?_, fun p hp => ?_, h.ln⟩⟩
  · have h2 : _ := h1
    simp only at h2
    rw [hfn, h.ln] at h2
    exact h2
  · have h2 := ow.own (3, p.1, p.2.map (Value.int .i64)) (by
      simp only [itemsG, List.mem_cons, List.mem_map]
      exact .inr ⟨p, hp, rfl⟩)
    simp only [List.length_map] at h2
    obtain ⟨xa, xc, hx⟩ := own_len h2
    rw [hx] at h2
    exact ⟨xa, xc, hx, own_ballsAt h2⟩

/-- A cell of a block that the game's rows leave alone. -/
theorem GI.cell {w0 w W : World} {B base b : Nat} {cv : Value} {st : Int} {dn : Bool} {fv : Value} {vs : List Value} {fs : List (List Int)} (h : GI w0 w W B base b cv st dn fv vs fs) {p : Addr} {v : Value} (hp : p.block < base) (hne : p.block ≠ b) (hc : w0.cell? p = some v) : W.cell? p = some v :=
  (World.cell?_of_block (h.far p.block hp hne)).trans hc

theorem note_fs (l : Lw) (r : Rc) (k : Int) {zs : List Int} (hz : (noteFs r)[r.s.f.toNat]? = some zs) : (noteR l r k).fs = (noteFs r).set r.s.f.toNat (zs ++ [k]) := by
  show (noteFs r).set r.s.f.toNat (((noteFs r)[r.s.f.toNat]?).getD [] ++ [k]) = _
  rw [hz]; rfl

end Go.Proofs.YtmjbidnlknmcgaaDoor
