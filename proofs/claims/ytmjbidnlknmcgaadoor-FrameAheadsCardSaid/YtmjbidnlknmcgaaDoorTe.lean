/- What the next balls count besides, frame by frame. -/
import Derived.Test.YtmjbidnlknmcgaaDoorCu
import Derived.Test.YtmjbidnlknmcgaaDoorTb
set_option linter.unusedVariables false
set_option linter.unusedSimpArgs false
namespace Go.Proofs.YtmjbidnlknmcgaaDoor
open Go.RowKit

/-- How many balls a frame still asks for. -/
def leftR (l : Lw) (r : Rc) (f : Nat) : Int :=
  match r.fs[f]? with
  | some y => ((lens (r.fs.take f) + y.length + moreR l f (partL r.cs (lens (r.fs.take f)) y.length).sum y.length : Nat) : Int) - r.cs.length
  | none => 0
/-- How many of the first frames ask for so many. -/
def tal (l : Lw) (r : Rc) (thr : Int) : Nat → Int
  | 0 => 0
  | f + 1 => tal l r thr f + (if thr ≤ leftR l r f then 1 else 0)

structure TA (l : Lw) (r : Rc) : Prop where
  x : ∀ n : Nat, (n : Int) = min r.s.f (l.fr - 1) → tal l r 1 n = r.s.x
  y : ∀ n : Nat, (n : Int) = min r.s.f (l.fr - 1) → tal l r 2 n = r.s.y
  le : ∀ f : Nat, (f : Int) < r.s.f → leftR l r f ≤ 2

theorem tal_same {l l' : Lw} {r r' : Rc} {a b : Int} : ∀ n : Nat, (∀ f : Nat, f < n → (a ≤ leftR l r f ↔ b ≤ leftR l' r' f)) → tal l r a n = tal l' r' b n
  | 0, _ => rfl
  | n + 1, h => by
    rw [tal, tal, tal_same n (fun f hf => h f (by omega))]
    simp only [h n (by omega)]
theorem tal_none {l : Lw} {r : Rc} {a : Int} : ∀ n : Nat, (∀ f : Nat, f < n → ¬ a ≤ leftR l r f) → tal l r a n = 0
  | 0, _ => rfl
  | n + 1, h => by
    rw [tal, tal_none n (fun f hf => h f (by omega)), if_neg (h n (by omega))]
    rfl

theorem beh_end {l : Lw} {s : Sd} {k : Int} (hf : s.f < l.fr - 1) (hc : s.s = cnt l s k) : (behS l s k).f = s.f + 1 := by
  unfold behS finS midS thrS
  rw [← hc]
  obtain ⟨f, b, ss, fr, mo, x, y⟩ := s
  have h1 : ¬ f = l.fr - 1 := by simp only at hf; omega
  unfold allS endS nextS setS
  simp [h1]
  split <;> rfl

theorem TA.note {l : Lw} {r : Rc} {i : Nat} {k : Int} (h : TA l r) (hti : TI l r) (hls : Ls l r) (hL : LenS r) (hw : RcW l r i) (ok : l.Ok) (ht : okT l r.s k = true) : TA l (noteR l r k) := by
  obtain ⟨hf, hk1, hk2⟩ := okT_out ht
  have hv := hw.vd
  have hlt : r.s.f < l.fr := by have := hv.f2; omega
  obtain ⟨y', hy1, hy2, hbl, hTk⟩ := note_frame (k := k) hls hw hlt
  have hs : (noteR l r k).s = behS l r.s k := rfl
  have hcs : (noteR l r k).cs = r.cs ++ [cnt l r.s k] := rfl
  have hv1 := hv.f1
  have hb2 := hv.b2
  have hf1 := hw.f1
  have hcn := cnt_le ok hv hk1 hk2
  have hn := hti.n hlt
  have hle := hti.le
  have hst := hti.st
  have hfl := hw.fl
  have hxy := beh_xyT (l := l) (s := r.s) (k := k) hlt rfl
  have old : ∀ f : Nat, (f : Int) < r.s.f → leftR l (noteR l r k) f = leftR l r f - 1 := by
    intro f hfs
    have hlf : f < r.fs.length := by split at hfl <;> omega
    have e1 : (noteR l r k).fs.take f = r.fs.take f := by
      have := congrArg (List.take f) hTk
      rwa [List.take_take, List.take_take, Nat.min_eq_left (by omega)] at this
    have e3 : r.fs[f]? = some (r.fs[f]'hlf) := List.getElem?_eq_getElem _
    have e2 : (noteR l r k).fs[f]? = some (r.fs[f]'hlf) := by
      have := congrArg (fun L => L[f]?) hTk
      simp only [List.getElem?_take] at this
      rw [if_pos (by omega), if_pos (by omega)] at this
      rw [this, e3]
    have h4 := lens_one e3
    have h5 := hL.len
    unfold leftR
    rw [e2, e3]
    simp only
    rw [e1, hcs, partL_snoc (by unfold lens at h4 ⊢; omega), List.length_append]
    simp
    omega
  have new : ∀ f : Nat, (f : Int) = r.s.f → leftR l (noteR l r k) f = (moreR l f ((partL (noteR l r k).cs (lens (r.fs.take f)) y'.length).sum) y'.length : Nat) ∧ (partL (noteR l r k).cs (lens (r.fs.take f)) y'.length).sum = ((r.cs.drop (lens (r.fs.take f))).sum + cnt l r.s k) := by
    intro f hff
    have hff2 : f = r.s.f.toNat := by omega
    subst hff2
    have e1 : partL (r.cs ++ [cnt l r.s k]) (lens (r.fs.take r.s.f.toNat)) y'.length = (r.cs ++ [cnt l r.s k]).drop (lens (r.fs.take r.s.f.toNat)) := by
      unfold partL
      rw [List.take_of_length_le (by rw [List.length_drop, List.length_append]; simp; omega)]
    constructor
    · unfold leftR
      rw [hy1]
      simp only
      rw [hTk, hcs, List.length_append]
      simp
      omega
    · rw [hcs, e1, List.drop_append_of_le_length hle, List.sum_append]
      simp
  have oldT : ∀ (n : Nat) (a : Int), (n : Int) ≤ r.s.f → tal l (noteR l r k) a n = tal l r (a + 1) n := fun n a hn2 => tal_same n (fun f hfn => by rw [old f (by omega)]; omega)
  obtain ⟨f, hff⟩ : ∃ f : Nat, (f : Int) = r.s.f := ⟨r.s.f.toNat, by omega⟩
  obtain ⟨new1, new2⟩ := new f hff
  have hm2 : moreR l f ((partL (noteR l r k).cs (lens (r.fs.take f)) y'.length).sum) y'.length ≤ 2 := by
    unfold moreR
    split
    · omega
    · split <;> omega
  have hE : r.s.f.toNat = f := by omega
  rw [hE] at hst hle hn hy1 hTk
  have hLE : ∀ g : Nat, (g : Int) < (behS l r.s k).f → leftR l (noteR l r k) g ≤ 2 := by
    intro g hg
    by_cases hgf : (g : Int) < r.s.f
    · rw [old g hgf]
      have := h.le g hgf
      omega
    · rcases beh_fb l r.s k with ⟨q1, q2⟩ | ⟨q1, q2⟩
      · have e : g = f := by omega
        rw [e, new1]
        omega
      · omega
  by_cases hl : r.s.f < l.fr - 1
  · have hst2 := hst hl
    rcases beh_fb l r.s k with ⟨q1, q2⟩ | ⟨q1, q2⟩
    · have key : ∀ a : Int, (1 ≤ a → a ≤ 2 → ((a ≤ leftR l (noteR l r k) f) ↔ (r.s.s = cnt l r.s k ∧ r.s.b ≤ 2 - a))) := by
        intro a ha1 ha2
        rw [new1, new2]
        unfold moreR
        by_cases hown : r.s.s = cnt l r.s k
        · have ho : (r.cs.drop (lens (r.fs.take f))).sum + cnt l r.s k = l.pn := by omega
          by_cases m1 : y'.length = 1
          · rw [if_pos ⟨by omega, ho, m1⟩]
            constructor
            · intro _; exact ⟨hown, by omega⟩
            · intro _; omega
          · rw [if_neg (by omega)]
            by_cases m2 : y'.length = 2
            · rw [if_pos ⟨by omega, ho, m2⟩]
              constructor
              · intro h9; exact ⟨hown, by omega⟩
              · intro h9; have := h9.2; omega
            · rw [if_neg (by omega)]
              constructor
              · intro h9; omega
              · intro h9; have := h9.2; have := hv.b1; omega
        · rw [if_neg (by omega), if_neg (by omega)]
          constructor
          · intro h9; omega
          · intro h9; exact absurd h9.1 hown
      refine ⟨fun n hn9 => ?_, fun n hn9 => ?_, hLE⟩
      · rw [hs] at hn9 ⊢
        have e : n = f + 1 := by omega
        rw [e, tal, oldT f 1 (by omega), hxy.1, show (1 : Int) + 1 = 2 from rfl, h.y f (by omega)]
        have k1 := key 1 (by omega) (by omega)
        by_cases hc : r.s.s = cnt l r.s k ∧ r.s.b ≤ 2 - 1
        · rw [if_pos (k1.2 hc), if_pos ⟨hl, hc.1, by omega⟩]
        · rw [if_neg (fun h9 => hc (k1.1 h9)), if_neg (fun h9 => hc ⟨h9.2.1, by omega⟩)]
      · rw [hs] at hn9 ⊢
        have e : n = f + 1 := by omega
        have h0 : tal l r (2 + 1) f = 0 := tal_none f (fun g hg => by have := h.le g (by omega); omega)
        rw [e, tal, oldT f 2 (by omega), hxy.2, h0]
        have k1 := key 2 (by omega) (by omega)
        by_cases hc : r.s.s = cnt l r.s k ∧ r.s.b ≤ 2 - 2
        · rw [if_pos (k1.2 hc), if_pos ⟨hl, hc.1, by omega⟩]
          rfl
        · rw [if_neg (fun h9 => hc (k1.1 h9)), if_neg (fun h9 => hc ⟨h9.2.1, by omega⟩)]
          rfl
    · have hne : ¬ r.s.s = cnt l r.s k := fun h9 => by have := beh_end hl h9; omega
      refine ⟨fun n hn9 => ?_, fun n hn9 => ?_, hLE⟩
      · rw [hs] at hn9 ⊢
        have e : n = f := by omega
        rw [e, oldT f 1 (by omega), hxy.1, if_neg (fun h9 => hne h9.2.1), show (1 : Int) + 1 = 2 from rfl, h.y f (by omega)]
        omega
      · rw [hs] at hn9 ⊢
        have e : n = f := by omega
        have h0 : tal l r (2 + 1) f = 0 := tal_none f (fun g hg => by have := h.le g (by omega); omega)
        rw [e, oldT f 2 (by omega), hxy.2, if_neg (fun h9 => hne h9.2.1), h0]
  · have hfl2 : r.s.f = l.fr - 1 := by omega
    have hmin : ∀ n : Nat, (n : Int) = min (behS l r.s k).f (l.fr - 1) → n = f := by
      intro n hn9
      rcases beh_fb l r.s k with ⟨q1, q2⟩ | ⟨q1, q2⟩ <;> omega
    refine ⟨fun n hn9 => ?_, fun n hn9 => ?_, hLE⟩
    · rw [hs] at hn9 ⊢
      have e := hmin n hn9
      rw [e, oldT f 1 (by omega), hxy.1, if_neg (fun h9 => hl h9.1), show (1 : Int) + 1 = 2 from rfl, h.y f (by omega)]
      omega
    · rw [hs] at hn9 ⊢
      have e := hmin n hn9
      have h0 : tal l r (2 + 1) f = 0 := tal_none f (fun g hg => by have := h.le g (by omega); omega)
      rw [e, oldT f 2 (by omega), hxy.2, if_neg (fun h9 => hl h9.1), h0]

theorem fol_ta {l : Lw} (ok : l.Ok) : ∀ (bs : List Int) (r : Rc) (i : Nat), RcW l r i → Ls l r → LenS r → TI l r → TA l r → TA l (fol l r bs).1
  | [], r, i, _, _, _, _, h => by simpa [fol] using h
  | k :: ks, r, i, hw, hl, hL, hti, h => by
    rw [fol]
    split
    · rename_i ht
      exact fol_ta ok ks (noteR l r k) (i + 1) (hw.note ok ht) (hl.note hw ok ht) (hL.note hw ok ht) (hti.note hl hw ok ht) (h.note hti hl hL hw ok ht)
    · simpa using h
theorem rec0_ta {l : Lw} (ok : l.Ok) : TA l (rec0 l) := by
  have e : (rec0 l).s.f = 0 := rfl
  have := ok.f1
  refine ⟨fun n hn => ?_, fun n hn => ?_, fun f hf => by omega⟩
  · have : n = 0 := by omega
    subst this; rfl
  · have : n = 0 := by omega
    subst this; rfl
theorem ta_of {l : Lw} (ok : l.Ok) (bs : List Int) : TA l (recS l bs) :=
  fol_ta ok bs (rec0 l) 0 (rec0_rcw ok) (rec0_ls ok) (rec0_lenS l) (rec0_ti l) (rec0_ta ok)

end Go.Proofs.YtmjbidnlknmcgaaDoor
