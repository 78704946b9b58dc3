/- What the reference counts of a frame is what the program counts. -/
import Derived.Test.YtmjbidnlknmcgaaDoorCt
set_option linter.unusedVariables false
set_option linter.unusedSimpArgs false
namespace Go.Proofs.YtmjbidnlknmcgaaDoor
open Go.RowKit

theorem tag_bd : ∀ (bs : List (List Int)) (i : Int), ∀ x ∈ tag bs i, i ≤ x ∧ x < i + bs.length
  | [], i => by simp [tag]
  | b :: bs, i => by
    intro x hx
    have ih := tag_bd bs (i + 1)
    rw [tag] at hx
    rcases List.mem_append.1 hx with hx | hx
    · have := List.eq_of_mem_replicate hx
      simp
      omega
    · have := ih x hx
      simp
      omega

/-- Where the frame f lies. -/
structure Seg (fs : List (List Int)) (f F m : Nat) : Prop where
  fr : F = lens (fs.take f)
  at' : ∃ y, fs[f]? = some y ∧ y.length = m
theorem Seg.split {fs : List (List Int)} {f F m : Nat} (h : Seg fs f F m) : ∃ t1 t2 : List Int, tag fs 0 = t1 ++ (List.replicate m (f : Int) ++ t2) ∧ t1.length = F ∧ (∀ x ∈ t1, x < f) ∧ (∀ x ∈ t2, (f : Int) < x) := by
  obtain ⟨y, hy, hm⟩ := h.at'
  have hlt : f < fs.length := (List.getElem?_eq_some_iff.1 hy).1
  have hTl : (fs.take f).length = f := by rw [List.length_take]; omega
  have e : fs = fs.take f ++ (y :: fs.drop (f + 1)) := by
    have h1 := (List.take_append_drop f fs).symm
    rw [List.drop_eq_getElem_cons hlt, (List.getElem?_eq_some_iff.1 hy).2] at h1
    exact h1
  have hap : ∀ (a b : List (List Int)) (i : Int), tag (a ++ b) i = tag a i ++ tag b (i + a.length) := by
    intro a
    induction a with
    | nil => intro b i; simp [tag]
    | cons x a ih =>
      intro b i
      rw [List.cons_append, tag, tag, ih]
      have e : i + 1 + (a.length : Int) = i + ((x :: a).length : Int) := by simp; omega
      rw [e, List.append_assoc]
  refine ⟨tag (fs.take f) 0, tag (fs.drop (f + 1)) ((f : Int) + 1), ?_, by rw [tag_len, h.fr], ?_, ?_⟩
  · conv => lhs; rw [e]
    rw [hap, tag, hTl, hm]
    simp
  · intro x hx
    have := (tag_bd _ _ x hx).2
    rw [hTl] at this
    omega
  · intro x hx
    have := (tag_bd _ _ x hx).1
    omega

/-- A ball's tag tells whether it lies in the frame. -/
theorem Seg.tag {fs : List (List Int)} {f F m i : Nat} {x : Int} (h : Seg fs f F m) (hx : (tag fs 0)[i]? = some x) : x = (f : Int) ↔ F ≤ i ∧ i < F + m := by
  obtain ⟨t1, t2, e, h1, h2, h3⟩ := h.split
  rw [e] at hx
  constructor
  · intro hxf
    subst hxf
    by_cases ha : i < F
    · rw [List.getElem?_append_left (by omega)] at hx
      have := h2 _ (List.mem_of_getElem? hx)
      omega
    · refine ⟨by omega, ?_⟩
      rw [List.getElem?_append_right (by omega), h1] at hx
      by_cases hb : i - F < m
      · omega
      · rw [List.getElem?_append_right (by simp; omega)] at hx
        have := h3 _ (List.mem_of_getElem? hx)
        omega
  · rintro ⟨ha, hb⟩
    rw [List.getElem?_append_right (by omega), h1, List.getElem?_append_left (by simp; omega), List.getElem?_replicate] at hx
    split at hx
    · cases hx; rfl
    · omega

theorem part_succ {cs : List Int} {F q : Nat} {c : Int} (h : cs[F + q]? = some c) : (partL cs F (q + 1)).sum = (partL cs F q).sum + c := by
  unfold partL
  have : (cs.drop F)[q]? = some c := by rw [List.getElem?_drop]; exact h
  rw [List.take_add_one, this, List.sum_append]
  simp

/-- What is known of the frames that have ended. -/
structure Fz (l : Lw) (r : Rc) : Prop where
  p : ∀ (f : Nat) (y : List Int), (f : Int) < r.s.f → r.fs[f]? = some y → y.length ≤ 3 ∧ ((f : Int) < l.fr - 1 → (partL r.cs (lens (r.fs.take f)) y.length).sum ≤ l.pn)

theorem lens_one {L : List (List Int)} {f : Nat} {y : List Int} (h : L[f]? = some y) : lens (L.take f) + y.length ≤ lens L := by
  have h1 := lens_take L f y h
  have h2 := lens_le L (f + 1)
  unfold lens
  omega

theorem Fz.note {l : Lw} {r : Rc} {i : Nat} {k : Int} (h : Fz l r) (hti : TI l r) (hls : Ls l r) (hL : LenS r) (hw : RcW l r i) (ok : l.Ok) (ht : okT l r.s k = true) : Fz l (noteR l r k) := by
  obtain ⟨hf, hk1, hk2⟩ := okT_out ht
  have hv := hw.vd
  have hlt : r.s.f < l.fr := by have := hv.f2; omega
  obtain ⟨y', hy1, hy2, hbl, hTk⟩ := note_frame (k := k) hls hw hlt
  have hs : (noteR l r k).s = behS l r.s k := rfl
  have hcs : (noteR l r k).cs = r.cs ++ [cnt l r.s k] := rfl
  have hv1 := hv.f1
  have hb2 := hv.b2
  have hf1 := hw.f1
  have hcn := cnt_le ok hv hk1 hk2
  have hn := hti.n hlt
  have hle := hti.le
  have hst := hti.st
  refine ⟨fun f y hfs hy => ?_⟩
  rw [hs] at hfs
  rw [hcs]
  by_cases hfr : f < r.s.f.toNat
  · have e1 : (noteR l r k).fs.take f = r.fs.take f := by
      have := congrArg (List.take f) hTk
      rwa [List.take_take, List.take_take, Nat.min_eq_left (by omega)] at this
    have e2 : r.fs[f]? = some y := by
      have := congrArg (fun L => L[f]?) hTk
      simp only [List.getElem?_take] at this
      rw [if_pos hfr, if_pos hfr] at this
      rw [← this]
      exact hy
    obtain ⟨h1, h2⟩ := h.p f y (by omega) e2
    refine ⟨h1, fun h3 => ?_⟩
    have h4 := lens_one e2
    have h5 := hL.len
    rw [e1, partL_snoc (by unfold lens at h4 ⊢; omega)]
    exact h2 h3
  · rcases beh_fb l r.s k with ⟨q1, q2⟩ | ⟨q1, q2⟩
    · have hff : f = r.s.f.toNat := by omega
      rw [hff, hy1] at hy
      cases hy
      refine ⟨by omega, fun h3 => ?_⟩
      rw [hff, hTk]
      have hst := hst (by omega)
      have e1 : partL (r.cs ++ [cnt l r.s k]) (lens (r.fs.take r.s.f.toNat)) y'.length = (r.cs ++ [cnt l r.s k]).drop (lens (r.fs.take r.s.f.toNat)) := by
        unfold partL
        rw [List.take_of_length_le (by rw [List.length_drop, List.length_append]; simp; omega)]
      rw [e1, List.drop_append_of_le_length hle, List.sum_append]
      simp
      omega
    · omega

theorem fol_fz {l : Lw} (ok : l.Ok) : ∀ (bs : List Int) (r : Rc) (i : Nat), RcW l r i → Ls l r → LenS r → TI l r → Fz l r → Fz l (fol l r bs).1
  | [], r, i, _, _, _, _, h => by simpa [fol] using h
  | k :: ks, r, i, hw, hl, hL, hti, h => by
    rw [fol]
    split
    · rename_i ht
      exact fol_fz ok ks (noteR l r k) (i + 1) (hw.note ok ht) (hl.note hw ok ht) (hL.note hw ok ht) (hti.note hl hw ok ht) (h.note hti hl hL hw ok ht)
    · simpa using h
theorem rec0_fz (l : Lw) : Fz l (rec0 l) := ⟨fun f y h _ => by have : (rec0 l).s.f = 0 := rfl; omega⟩

/-- What the reference asks besides. -/
def moreR (l : Lw) (f : Nat) (own : Int) (m : Nat) : Nat := if (f : Int) < l.fr - 1 ∧ own = l.pn ∧ m = 1 then 2 else if (f : Int) < l.fr - 1 ∧ own = l.pn ∧ m = 2 then 1 else 0

/-- All that the walk of Counts needs of a sheet. -/
structure CX (l : Lw) (r : Rc) : Prop where
  seg : ∀ f : Nat, (f : Int) < r.s.f → ∃ F m, Seg r.fs f F m ∧ 0 < m ∧ F + m ≤ r.cs.length ∧ F = lens (r.fs.take f) ∧
    m + moreR l f (partL r.cs F m).sum m = needs l.pn r.cs F m
theorem cx_of {l : Lw} {ys : List Int} {s : Sd} (h : FO l ys s) (ok : l.Ok) : CX l (recS l ys) := by
  have hw := fol_rcw ok ys (rec0 l) 0 (rec0_rcw ok)
  have hL := fol_lenS ok ys (rec0 l) 0 (rec0_rcw ok) (rec0_lenS l)
  have hls := fol_ls ok ys (rec0 l) 0 (rec0_rcw ok) (rec0_ls ok)
  have hti := fol_ti ok ys (rec0 l) 0 (rec0_rcw ok) (rec0_ls ok) (rec0_ti l)
  have hfz := fol_fz ok ys (rec0 l) 0 (rec0_rcw ok) (rec0_ls ok) (rec0_lenS l) (rec0_ti l) (rec0_fz l)
  show CX l (fol l (rec0 l) ys).1
  generalize (fol l (rec0 l) ys).1 = r at *
  refine ⟨fun f hf => ?_⟩
  have hf1 := hw.f1
  have hlt : f < r.fs.length := by omega
  have hy : r.fs[f]? = some (r.fs[f]'hlt) := List.getElem?_eq_getElem _
  obtain ⟨h1, h2⟩ := hfz.p f _ hf hy
  have h3 := hL.ne _ (List.mem_of_getElem? hy)
  have h4 := lens_one hy
  have h5 := hL.len
  have h6 : lens r.fs = r.cs.length := h5
  generalize r.fs[f]'hlt = y at *
  refine ⟨lens (r.fs.take f), y.length, ⟨rfl, y, hy, rfl⟩, h3, by omega, rfl, ?_⟩
  unfold needs moreR
  by_cases hl : (f : Int) < l.fr - 1
  · have h7 := h2 hl
    by_cases ho : (partL r.cs (lens (r.fs.take f)) y.length).sum = l.pn
    · rw [if_pos (by omega : l.pn ≤ _)]
      by_cases m1 : y.length = 1
      · rw [if_pos ⟨hl, ho, m1⟩]; omega
      · rw [if_neg (by omega)]
        by_cases m2 : y.length = 2
        · rw [if_pos ⟨hl, ho, m2⟩]; omega
        · rw [if_neg (by omega)]; omega
    · rw [if_neg (by omega : ¬ l.pn ≤ _), if_neg (by omega), if_neg (by omega)]
      rfl
  · rw [if_neg (by omega), if_neg (by omega)]
    have hv2 := hw.vd.f2
    have hd : r.s.f = l.fr := by omega
    obtain ⟨hb0, z, hz, hz2, hz3⟩ := hls.d hd
    have e : (l.fr - 1).toNat = f := by omega
    rw [e, hy] at hz
    cases hz
    have hfl := hw.fl
    rw [if_pos hb0] at hfl
    have hlast : lens (r.fs.take f) + y.length = r.cs.length := by
      have h8 := lens_take r.fs f y hy
      have h9 : r.fs.take (f + 1) = r.fs := List.take_of_length_le (by omega)
      rw [h9] at h8
      unfold lens at h6 ⊢
      omega
    split
    · rename_i hge
      rcases hz3 with hz3 | hz3
      · omega
      · have e2 : r.cs.length - y.length = lens (r.fs.take f) := by omega
        rw [e2] at hz3
        have e3 : partL r.cs (lens (r.fs.take f)) y.length = r.cs.drop (lens (r.fs.take f)) := by
          unfold partL
          rw [List.take_of_length_le (by rw [List.length_drop]; omega)]
        rw [e3] at hge
        omega
    · rfl

end Go.Proofs.YtmjbidnlknmcgaaDoor
