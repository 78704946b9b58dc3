/- How the counts of a sheet grow with each ball; and in the end all frames are settled. -/
import Derived.Test.YtmjbidnlknmcgabDoorEn
set_option linter.unusedVariables false
set_option linter.unusedSimpArgs false
namespace Go.Proofs.YtmjbidnlknmcgabDoor
open Go.RowKit

theorem setGo_pre (pn : Int) (cs : List Int) : ∀ (bs : List (List Int)) (f : Nat) (acc : List Int), acc <+: setGo pn cs bs f acc
  | [], f, acc => List.prefix_refl _
  | b :: bs, f, acc => by
    rw [setGo]
    split
    · exact List.prefix_refl _
    · exact (List.prefix_append _ _).trans (setGo_pre pn cs bs _ _)

theorem partL_snoc {cs : List Int} {c : Int} {f m : Nat} (h : f + m ≤ cs.length) : partL (cs ++ [c]) f m = partL cs f m := by
  unfold partL
  rw [List.drop_append_of_le_length (by omega), List.take_append_of_le_length (by simp; omega)]

theorem setGo_more (pn : Int) (cs : List Int) (c : Int) (ys : List (List Int)) : ∀ (bs : List (List Int)) (f : Nat) (acc : List Int), f + (bs.map List.length).sum ≤ cs.length → setGo pn cs bs f acc <+: setGo pn (cs ++ [c]) (bs ++ ys) f acc
  | [], f, acc, h => by
    rw [setGo]
    exact setGo_pre pn _ _ f acc
  | b :: bs, f, acc, h => by
    simp only [List.map_cons, List.sum_cons] at h
    rw [List.cons_append, setGo, setGo]
    have hn : needs pn (cs ++ [c]) f b.length = needs pn cs f b.length := by
      unfold needs
      rw [partL_snoc (by omega)]
    rw [hn]
    by_cases hb : cs.length < f + needs pn cs f b.length
    · rw [if_pos hb]
      split
      · exact List.prefix_refl _
      · exact (List.prefix_append _ _).trans (setGo_pre pn _ _ _ _)
    · rw [if_neg hb, if_neg (by simp; omega), partL_snoc (by omega)]
      exact setGo_more pn cs c ys bs _ _ (by omega)

theorem len_le_sum : ∀ {bs : List (List Int)}, (∀ b ∈ bs, 0 < b.length) → bs.length ≤ (bs.map List.length).sum
  | [], _ => by simp
  | b :: bs, h => by
    have h1 := len_le_sum (bs := bs) (fun x hx => h x (by simp [hx]))
    have h2 := h b (by simp)
    simp only [List.map_cons, List.sum_cons, List.length_cons]
    omega

theorem setGo_ge (pn : Int) (cs : List Int) : ∀ (bs : List (List Int)) (f : Nat) (acc : List Int), f + (bs.map List.length).sum ≤ cs.length → (∀ b ∈ bs, 0 < b.length) → acc.length + bs.length ≤ (setGo pn cs bs f acc).length + 2
  | [], f, acc, h, _ => by simp [setGo]
  | b :: bs, f, acc, h, hp => by
    simp only [List.map_cons, List.sum_cons] at h
    have hs := len_le_sum (bs := bs) (fun x hx => hp x (by simp [hx]))
    have hb0 := hp b (by simp)
    rw [setGo]
    split
    · rename_i hb
      unfold needs at hb
      simp only [List.length_cons]
      split at hb <;> omega
    · have := setGo_ge pn cs bs (f + b.length) (acc ++ [(partL cs f (needs pn cs f b.length)).sum + lastC acc]) (by omega) (fun x hx => hp x (by simp [hx]))
      simp only [List.length_append, List.length_cons, List.length_nil] at this ⊢
      omega

theorem len_in_sum : ∀ {bs : List (List Int)} {y : List Int}, y ∈ bs → y.length ≤ (bs.map List.length).sum
  | b :: bs, y, h => by
    simp only [List.map_cons, List.sum_cons]
    rcases List.mem_cons.1 h with rfl | h
    · omega
    · have := len_in_sum h
      omega

theorem setGo_all (pn : Int) (cs : List Int) : ∀ (bs : List (List Int)) (f : Nat) (acc : List Int), f + (bs.map List.length).sum = cs.length → (∀ b ∈ bs, 0 < b.length) →
    (∀ y, bs.getLast? = some y → 2 ≤ y.length ∧ (3 ≤ y.length ∨ (cs.drop (cs.length - y.length)).sum < pn)) → (setGo pn cs bs f acc).length = acc.length + bs.length
  | [], f, acc, h, _, _ => by simp [setGo]
  | [b], f, acc, h, hp, hy => by
    simp only [List.map_cons, List.sum_cons, List.map_nil, List.sum_nil] at h
    obtain ⟨h1, h2⟩ := hy b (by simp)
    have hn : ¬ cs.length < f + needs pn cs f b.length := by
      unfold needs
      split
      · rename_i hle
        rcases h2 with h2 | h2
        · omega
        · have e : partL cs f b.length = cs.drop (cs.length - b.length) := by
            unfold partL
            have e2 : cs.length - b.length = f := by omega
            rw [e2, List.take_of_length_le (by simp; omega)]
          rw [e] at hle
          omega
      · omega
    rw [setGo, if_neg hn, setGo]
    simp
  | b :: b2 :: bs, f, acc, h, hp, hy => by
    have hy' : ∀ y, (b2 :: bs).getLast? = some y → 2 ≤ y.length ∧ (3 ≤ y.length ∨ (cs.drop (cs.length - y.length)).sum < pn) := fun y h => hy y (by rw [List.getLast?_cons_cons]; exact h)
    have hb0 := hp b (by simp)
    obtain ⟨z, hz⟩ : ∃ z, (b2 :: bs).getLast? = some z := ⟨_, List.getLast?_eq_some_getLast (by simp)⟩
    have h2 := (hy' z hz).1
    have h3 := len_in_sum (List.mem_of_getLast? hz)
    rw [List.map_cons, List.sum_cons] at h
    have hn : ¬ cs.length < f + needs pn cs f b.length := by
      unfold needs
      split <;> omega
    rw [setGo, if_neg hn, setGo_all pn cs (b2 :: bs) _ _ (by omega) (fun x hx => hp x (by simp [hx])) hy']
    simp
    omega

theorem beh_new {l : Lw} {s : Sd} {k : Int} (h : (behS l s k).f ≠ s.f) (h2 : (behS l s k).f ≠ l.fr) : (behS l s k).s = l.pn := by
  have hf : (midS l (thrS l s k)).f = s.f := midS_f l _
  unfold behS finS at h h2 ⊢
  split
  · rename_i he
    rw [if_pos he] at h h2
    unfold nextS setS at h2 ⊢
    split
    · rename_i hx
      rw [if_pos hx] at h2
      exact absurd hx (by simpa using h2)
    · rfl
  · rename_i he
    rw [if_neg he] at h
    exfalso
    apply h
    split <;> exact hf

theorem beh_last {l : Lw} {s : Sd} {k : Int} (ok : l.Ok) (v : Vd l s) (hl : s.f = l.fr - 1) (h1 : -1 ≤ k) (h2 : k ≤ s.s) :
    ((behS l s k).f = l.fr - 1 ∧ (behS l s k).b = s.b + 1 ∧ ((behS l s k).more = false → s.more = false ∧ (behS l s k).s = s.s - cnt l s k)) ∨
    ((behS l s k).f = l.fr ∧ (s.b + 1 = 3 ∨ (s.more = false ∧ s.b + 1 = l.bl ∧ 0 < s.s - cnt l s k))) := by
  have hc := cnt_le ok v h1 h2
  obtain ⟨f1, f2, b1, b2, s1, s2, x1, x2, y1, y2, fresh, bl⟩ := v
  obtain ⟨of1, of2, p1, p2, hb, t1, t2⟩ := ok
  unfold behS finS midS thrS
  generalize cnt l s k = c at hc
  obtain ⟨f, b, ss, fr, mo, x, y⟩ := s
  obtain ⟨F, P, B, T⟩ := l
  simp only at *
  subst hl
  unfold allS endS nextS setS
  simp only
  by_cases hz : ss - c = 0
  · simp only [hz, if_true]
    cases mo
    · by_cases hb3 : b + 1 < 3
      · simp only [hb3, decide_true, Bool.or_true, if_true]
        have : (b + 1 == 3) = false := by simp; omega
        simp only [this, if_false, Bool.false_eq_true]
        left
        exact ⟨by simp, by simp, fun h => by simp at h⟩
      · simp only [hb3, decide_false, Bool.or_false, Bool.false_eq_true, if_false]
        by_cases he : b + 1 = B
        · have : (b + 1 == B) = true := by simpa using he
          simp only [this, if_true]
          right
          rw [if_pos (by omega)]
          exact ⟨by simp, .inl (by omega)⟩
        · exfalso
          have := bl (by omega) (by simp)
          omega
    · simp only [Bool.true_or, if_true]
      by_cases he : b + 1 = 3
      · have : (b + 1 == 3) = true := by simpa using he
        simp only [this, if_true]
        right
        rw [if_pos (by omega)]
        exact ⟨by simp, .inl he⟩
      · have : (b + 1 == 3) = false := by simpa using he
        simp only [this, if_false, Bool.false_eq_true]
        left
        exact ⟨by simp, by simp, fun h => by simp at h⟩
  · simp only [hz, if_false, if_true]
    cases mo
    · simp only [Bool.false_eq_true, if_false]
      by_cases he : b + 1 = B
      · have : (b + 1 == B) = true := by simpa using he
        simp only [this, if_true]
        right
        rw [if_pos (by omega)]
        exact ⟨by simp, .inr ⟨trivial, he, by omega⟩⟩
      · have : (b + 1 == B) = false := by simpa using he
        simp only [this, if_false, Bool.false_eq_true]
        left
        exact ⟨by simp, by simp, fun _ => by simp⟩
    · simp only [if_true]
      by_cases he : b + 1 = 3
      · have : (b + 1 == 3) = true := by simpa using he
        simp only [this, if_true]
        right
        rw [if_pos (by omega)]
        exact ⟨by simp, .inl he⟩
      · have : (b + 1 == 3) = false := by simpa using he
        simp only [this, if_false, Bool.false_eq_true]
        left
        exact ⟨by simp, by simp, fun h => by simp at h⟩

/-- What is known of the last frame. -/
structure Ls (l : Lw) (r : Rc) : Prop where
  a : r.s.f = l.fr - 1 → r.s.more = false → (r.cs.drop (r.cs.length - r.s.b.toNat)).sum + r.s.s = l.pn
  b : r.s.b ≠ 0 → ∃ y, r.fs[r.s.f.toNat]? = some y ∧ (y.length : Int) = r.s.b
  d : r.s.f = l.fr → r.s.b = 0 ∧ ∃ y, r.fs[(l.fr - 1).toNat]? = some y ∧ 2 ≤ y.length ∧ (3 ≤ y.length ∨ (r.cs.drop (r.cs.length - y.length)).sum < l.pn)

theorem drop_snoc {cs : List Int} {c : Int} {b : Nat} (h : b ≤ cs.length) : (cs ++ [c]).drop ((cs ++ [c]).length - (b + 1)) = cs.drop (cs.length - b) ++ [c] := by
  have e : (cs ++ [c]).length - (b + 1) = cs.length - b := by simp
  rw [e, List.drop_append_of_le_length (by omega)]

/-- The frame that a ball comes into. -/
theorem note_frame {l : Lw} {r : Rc} {i : Nat} {k : Int} (h : Ls l r) (hw : RcW l r i) (hf : r.s.f < l.fr) : ∃ y', (noteR l r k).fs[r.s.f.toNat]? = some y' ∧ (y'.length : Int) = r.s.b + 1 ∧ r.s.b.toNat ≤ r.cs.length ∧
    (noteR l r k).fs.take r.s.f.toNat = r.fs.take r.s.f.toNat := by
  have hfl := hw.fl
  have hv1 := hw.vd.f1
  have hset : (noteR l r k).fs = (noteFs r).set r.s.f.toNat (((noteFs r)[r.s.f.toNat]?).getD [] ++ [k]) := rfl
  rw [hset]
  by_cases hb : r.s.b = 0
  · rw [if_pos hb] at hfl
    have e : noteFs r = r.fs ++ [[]] := by unfold noteFs; rw [if_pos hb]
    have ef : r.s.f.toNat = r.fs.length := by omega
    rw [e, ef]
    have e2 : (r.fs ++ [[]])[r.fs.length]? = some [] := by simp
    rw [e2]
    refine ⟨[] ++ [k], by simp, by simp [hb], by simp [hb], ?_⟩
    rw [List.take_set_of_le (Nat.le_refl _), List.take_append_of_le_length (Nat.le_refl _)]
  · rw [if_neg hb] at hfl
    have e : noteFs r = r.fs := by unfold noteFs; rw [if_neg hb]
    obtain ⟨y, hy, hyl⟩ := h.b hb
    rw [e, hy]
    have hlt : r.s.f.toNat < r.fs.length := by omega
    have hz := hw.zs y (List.mem_of_getElem? hy)
    have hc := hw.cs
    refine ⟨y ++ [k], by simp [hlt], by simp; omega, by omega, ?_⟩
    rw [List.take_set_of_le (Nat.le_refl _)]

theorem Ls.note {l : Lw} {r : Rc} {i : Nat} {k : Int} (h : Ls l r) (hw : RcW l r i) (ok : l.Ok) (ht : okT l r.s k = true) : Ls l (noteR l r k) := by
  obtain ⟨hf, hk1, hk2⟩ := okT_out ht
  have hv := hw.vd
  have hlt : r.s.f < l.fr := by have := hv.f2; omega
  obtain ⟨y', hy1, hy2, hbl, _⟩ := note_frame (k := k) h hw hlt
  have hs : (noteR l r k).s = behS l r.s k := rfl
  have hcs : (noteR l r k).cs = r.cs ++ [cnt l r.s k] := rfl
  have b0 := hv.b1
  have hbn : (r.s.b + 1).toNat = r.s.b.toNat + 1 := by omega
  refine ⟨?_, ?_, ?_⟩
  · rw [hs, hcs]
    intro e1 e2
    by_cases hl : r.s.f = l.fr - 1
    · rcases beh_last ok hv hl hk1 hk2 with ⟨q1, q2, q3⟩ | ⟨q1, q2⟩
      · obtain ⟨m1, m2⟩ := q3 e2
        have := h.a hl m1
        rw [q2, m2, hbn, drop_snoc hbl, List.sum_append]
        simp
        omega
      · omega
    · rcases beh_fb l r.s k with ⟨q1, q2⟩ | ⟨q1, q2⟩
      · have := beh_new (l := l) (s := r.s) (k := k) (by omega) (by omega)
        rw [q1, this]
        simp
      · omega
  · rw [hs]
    intro e1
    rcases beh_fb l r.s k with ⟨q1, q2⟩ | ⟨q1, q2⟩
    · exact absurd q1 e1
    · rw [q1, q2]
      exact ⟨y', hy1, hy2⟩
  · rw [hs, hcs]
    intro e1
    rcases beh_fb l r.s k with ⟨q1, q2⟩ | ⟨q1, q2⟩
    · refine ⟨q1, ?_⟩
      have hl : r.s.f = l.fr - 1 := by omega
      rcases beh_last ok hv hl hk1 hk2 with ⟨p1, _⟩ | ⟨_, p2⟩
      · omega
      · refine ⟨y', by rw [← hl]; exact hy1, ?_, ?_⟩
        · have := ok.b
          rcases p2 with p2 | ⟨_, p2, _⟩ <;> omega
        · rcases p2 with p2 | ⟨m1, p2, p3⟩
          · left; omega
          · right
            have := h.a hl m1
            have e2 : y'.length = r.s.b.toNat + 1 := by omega
            rw [e2, drop_snoc hbl, List.sum_append]
            simp
            omega
    · omega

theorem fol_ls {l : Lw} (ok : l.Ok) : ∀ (bs : List Int) (r : Rc) (i : Nat), RcW l r i → Ls l r → Ls l (fol l r bs).1
  | [], r, i, _, h => by simpa [fol] using h
  | k :: ks, r, i, hw, h => by
    rw [fol]
    split
    · rename_i ht
      exact fol_ls ok ks (noteR l r k) (i + 1) (hw.note ok ht) (h.note hw ok ht)
    · simpa using h

theorem rec0_ls {l : Lw} (ok : l.Ok) : Ls l (rec0 l) := by
  have := ok.f1
  refine ⟨?_, ?_, ?_⟩
  · intro _ _; simp [rec0, begS]
  · intro h; exact absurd rfl h
  · intro h
    have : (rec0 l).s.f = 0 := rfl
    omega

theorem rdM_eq {l : Lw} {ys : List Int} {s : Sd} (h : FO l ys s) (ok : l.Ok) : rdM l ys = setL l (fol l (rec0 l) ys).1 := by
  rw [rdM, if_pos (h.rd ok)]; rfl

/-- In the end all frames are settled. -/
theorem set_done {l : Lw} {ys : List Int} {s : Sd} (h : FO l ys s) (ok : l.Ok) (hf : s.f = l.fr) : ((rdM l ys).length : Int) = l.fr := by
  have hw := fol_rcw ok ys (rec0 l) 0 (rec0_rcw ok)
  have hL := fol_lenS ok ys (rec0 l) 0 (rec0_rcw ok) (rec0_lenS l)
  have hls := fol_ls ok ys (rec0 l) 0 (rec0_rcw ok) (rec0_ls ok)
  rw [rdM_eq h ok]
  have hs := h.s
  generalize (fol l (rec0 l) ys).1 = r at hw hL hls hs
  rw [← hs] at hf
  obtain ⟨hb, y, hy, h2, h3⟩ := hls.d hf
  have hfl := hw.fl
  rw [if_pos hb] at hfl
  have ho := ok.f1
  have hn : r.fs.length = l.fr.toNat := by omega
  have ht : r.fs.take r.s.f.toNat = r.fs := List.take_of_length_le (by omega)
  rw [setL, ht, setGo_all l.pn r.cs r.fs 0 [] (by rw [hL.len]; omega) hL.ne]
  · simp; omega
  · intro z hz
    rw [List.getLast?_eq_getElem?] at hz
    have e : r.fs.length - 1 = (l.fr - 1).toNat := by omega
    rw [e, hy] at hz
    cases hz
    exact ⟨h2, h3⟩

/-- One ball more: the counts go on, at most three. -/
theorem set_more {l : Lw} {r : Rc} {i : Nat} {k : Int} (h : Ls l r) (hw : RcW l r i) (hL : LenS r) (hf : r.s.f < l.fr) : setL l r <+: setL l (noteR l r k) ∧ (setL l (noteR l r k)).length ≤ (setL l r).length + 3 := by
  obtain ⟨y', hy1, hy2, hbl, hTk⟩ := note_frame (k := k) h hw hf
  have hs : (noteR l r k).s = behS l r.s k := rfl
  have hcs : (noteR l r k).cs = r.cs ++ [cnt l r.s k] := rfl
  have hv1 := hw.vd.f1
  have hf1 := hw.f1
  have hsum := lens_le r.fs r.s.f.toNat
  rw [hL.len] at hsum
  have hTl : (r.fs.take r.s.f.toNat).length = r.s.f.toNat := by rw [List.length_take]; omega
  have hne : ∀ b ∈ r.fs.take r.s.f.toNat, 0 < b.length := fun b hb => hL.ne b (List.mem_of_mem_take hb)
  have hge := setGo_ge l.pn r.cs (r.fs.take r.s.f.toNat) 0 [] (by omega) hne
  unfold setL
  rw [hs, hcs]
  rcases beh_fb l r.s k with ⟨q1, q2⟩ | ⟨q1, q2⟩
  · have e : (behS l r.s k).f.toNat = r.s.f.toNat + 1 := by omega
    rw [e, List.take_add_one, hTk, hy1]
    simp only [Option.toList_some]
    refine ⟨setGo_more l.pn r.cs _ [y'] _ 0 [] (by omega), ?_⟩
    have h1 := setGo_len l.pn (r.cs ++ [cnt l r.s k]) (r.fs.take r.s.f.toNat ++ [y']) 0 []
    simp only [List.length_append, List.length_cons, List.length_nil, hTl] at h1 hge
    omega
  · rw [q2, hTk]
    have h0 := setGo_more l.pn r.cs (cnt l r.s k) [] (r.fs.take r.s.f.toNat) 0 [] (by omega)
    rw [List.append_nil] at h0
    refine ⟨h0, ?_⟩
    have h1 := setGo_len l.pn (r.cs ++ [cnt l r.s k]) (r.fs.take r.s.f.toNat) 0 []
    simp only [List.length_nil, hTl] at h1 hge
    omega

theorem fol_take (l : Lw) : ∀ (bs : List Int) (r : Rc) (j : Nat), (fol l r bs).2 = bs.length → j ≤ bs.length → (fol l r (bs.take j)).2 = j
  | [], r, j, _, h => by
    have : j = 0 := by simpa using h
    subst this
    simp [fol]
  | k :: ks, r, 0, _, _ => by simp [fol]
  | k :: ks, r, j + 1, h, hj => by
    cases ht : okT l r.s k
    · simp [fol, ht] at h
    · have e : fol l r (k :: ks) = ((fol l (noteR l r k) ks).1, (fol l (noteR l r k) ks).2 + 1) := by rw [fol, if_pos ht]
      rw [e] at h
      simp only [List.length_cons, Nat.add_right_cancel_iff] at h
      have h2 := fol_take l ks (noteR l r k) j h (by simpa using hj)
      rw [List.take_succ_cons, fol, if_pos ht]
      simp only [h2]

/-- What Read hands back of the first balls. -/
structure PX (l : Lw) (ys : List Int) : Prop where
  e : ∀ j, j ≤ ys.length → rdE l (ys.take j) = 0
  p : ∀ j, j < ys.length → rdM l (ys.take j) <+: rdM l (ys.take (j + 1)) ∧ (rdM l (ys.take (j + 1))).length ≤ (rdM l (ys.take j)).length + 3
  z : rdM l (ys.take 0) = []

theorem px_of {l : Lw} {ys : List Int} {s : Sd} (h : FO l ys s) (ok : l.Ok) : PX l ys := by
  have hfo : ∀ j, j ≤ ys.length → FO l (ys.take j) (fol l (rec0 l) (ys.take j)).1.s := fun j hj => ⟨by rw [fol_take l ys (rec0 l) j h.n hj, List.length_take]; omega, rfl⟩
  refine ⟨fun j hj => (hfo j hj).rd ok, fun j hj => ?_, ?_⟩
  · have h0 := hfo j (by omega)
    have h1 := hfo (j + 1) (by omega)
    rw [rdM_eq h0 ok, rdM_eq h1 ok]
    have e : ys.take (j + 1) = ys.take j ++ [ys[j]] := by rw [List.take_add_one, List.getElem?_eq_getElem hj]; rfl
    have hsn := fol_snoc l (ys.take j) (rec0 l) (ys[j]) h0.n
    have h1n := h1.n
    rw [e] at h1n ⊢
    rw [hsn] at h1n ⊢
    have hw := fol_rcw ok (ys.take j) (rec0 l) 0 (rec0_rcw ok)
    have hL := fol_lenS ok (ys.take j) (rec0 l) 0 (rec0_rcw ok) (rec0_lenS l)
    have hls := fol_ls ok (ys.take j) (rec0 l) 0 (rec0_rcw ok) (rec0_ls ok)
    split
    · rename_i ht
      refine set_more hls hw hL ?_
      have h2 := (okT_out ht).1
      have h3 := hw.vd.f2
      omega
    · rename_i ht
      rw [if_neg ht] at h1n
      simp at h1n
      omega
  · rw [rdM_eq (hfo 0 (by omega)) ok]
    simp [fol, setL, rec0, begS, setGo]

end Go.Proofs.YtmjbidnlknmcgabDoor
