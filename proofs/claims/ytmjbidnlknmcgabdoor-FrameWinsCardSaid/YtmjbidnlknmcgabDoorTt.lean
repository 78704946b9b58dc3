/- What balls count in all frames together is what the frames count: the total of a whole game is its last count. -/
import Derived.Test.YtmjbidnlknmcgabDoorSe
set_option linter.unusedVariables false
set_option linter.unusedSimpArgs false
namespace Go.Proofs.YtmjbidnlknmcgabDoor
open Go.RowKit

/-- What the frames count, as far as their balls have come. -/
def sumGo (pn : Int) (cs : List Int) : List (List Int) → Nat → Int
  | [], _ => 0
  | b :: bs, f => (partL cs f (needs pn cs f b.length)).sum + sumGo pn cs bs (f + b.length)
/-- How many of them ask for the ball d behind the next one. -/
def owe (pn : Int) (cs : List Int) (d : Nat) : List (List Int) → Nat → Int
  | [], _ => 0
  | b :: bs, f => (if cs.length + d < f + needs pn cs f b.length then 1 else 0) + owe pn cs d bs (f + b.length)
def lens (bs : List (List Int)) : Nat := (bs.map List.length).sum

theorem needs_snoc {pn : Int} {cs : List Int} {c : Int} {f m : Nat} (h : f + m ≤ cs.length) : needs pn (cs ++ [c]) f m = needs pn cs f m := by
  unfold needs
  rw [partL_snoc h]
theorem part_one {cs : List Int} {c : Int} {f n : Nat} (h : f ≤ cs.length) : (partL (cs ++ [c]) f n).sum = (partL cs f n).sum + (if cs.length < f + n then c else 0) := by
  unfold partL
  rw [List.drop_append_of_le_length h]
  by_cases hn : cs.length < f + n
  · rw [if_pos hn, List.take_of_length_le (by simp; omega), List.take_of_length_le (by simp; omega), List.sum_append]
    simp
  · rw [if_neg hn, List.take_append_of_le_length (by simp; omega)]
    omega

theorem sumGo_snoc (pn : Int) (cs : List Int) (c : Int) : ∀ (bs : List (List Int)) (f : Nat), f + lens bs ≤ cs.length → sumGo pn (cs ++ [c]) bs f = sumGo pn cs bs f + c * owe pn cs 0 bs f
  | [], f, _ => by simp [sumGo, owe]
  | b :: bs, f, h => by
    simp only [lens, List.map_cons, List.sum_cons] at h
    have ih := sumGo_snoc pn cs c bs (f + b.length) (by unfold lens; omega)
    rw [sumGo, sumGo, owe, needs_snoc (by omega), part_one (by omega), ih]
    simp only [Nat.add_zero]
    split
    · rw [Int.mul_add]; omega
    · rw [Int.mul_add]; omega
theorem owe_snoc (pn : Int) (cs : List Int) (c : Int) (d : Nat) : ∀ (bs : List (List Int)) (f : Nat), f + lens bs ≤ cs.length → owe pn (cs ++ [c]) d bs f = owe pn cs (d + 1) bs f
  | [], f, _ => rfl
  | b :: bs, f, h => by
    simp only [lens, List.map_cons, List.sum_cons] at h
    have ih := owe_snoc pn cs c d bs (f + b.length) (by unfold lens; omega)
    rw [owe, owe, needs_snoc (by omega), ih]
    have e : (cs ++ [c]).length + d = cs.length + (d + 1) := by simp; omega
    rw [e]
theorem sumGo_app (pn : Int) (cs : List Int) (y : List Int) : ∀ (bs : List (List Int)) (f : Nat), sumGo pn cs (bs ++ [y]) f = sumGo pn cs bs f + (partL cs (f + lens bs) (needs pn cs (f + lens bs) y.length)).sum
  | [], f => by simp [sumGo, lens]
  | b :: bs, f => by
    have ih := sumGo_app pn cs y bs (f + b.length)
    rw [List.cons_append, sumGo, sumGo, ih]
    have e : f + b.length + lens bs = f + lens (b :: bs) := by simp [lens]; omega
    rw [e]
    omega
theorem owe_app (pn : Int) (cs : List Int) (d : Nat) (y : List Int) : ∀ (bs : List (List Int)) (f : Nat), owe pn cs d (bs ++ [y]) f = owe pn cs d bs f + (if cs.length + d < f + lens bs + needs pn cs (f + lens bs) y.length then 1 else 0)
  | [], f => by simp [owe, lens]
  | b :: bs, f => by
    have ih := owe_app pn cs d y bs (f + b.length)
    rw [List.cons_append, owe, owe, ih]
    have e : f + b.length + lens bs = f + lens (b :: bs) := by simp [lens]; omega
    rw [e]
    omega

/-- Behind a ball: what the next balls count besides, and how many pins stand while the frame goes on. -/
theorem beh_xy (l : Lw) (s : Sd) (k : Int) : (behS l s k).x = s.y + (if s.f ≠ l.fr - 1 ∧ s.s - cnt l s k = 0 ∧ s.b + 1 ≤ 2 then 1 else 0) ∧ (behS l s k).y = (if s.f ≠ l.fr - 1 ∧ s.s - cnt l s k = 0 ∧ s.b + 1 ≤ 1 then 1 else 0) := by
  have hm : (midS l (thrS l s k)).x = s.y + (if s.f ≠ l.fr - 1 ∧ s.s - cnt l s k = 0 ∧ s.b + 1 ≤ 2 then 1 else 0) ∧ (midS l (thrS l s k)).y = (if s.f ≠ l.fr - 1 ∧ s.s - cnt l s k = 0 ∧ s.b + 1 ≤ 1 then 1 else 0) := by
    unfold midS thrS allS
    simp only
    by_cases hz : s.s - cnt l s k = 0
    · by_cases hl : s.f = l.fr - 1
      · simp [hz, hl]
      · simp only [hz, hl, if_true, if_false, ne_eq, not_false_eq_true, true_and]
        constructor <;> split <;> simp_all
    · simp [hz]
  unfold behS finS
  split
  · unfold nextS setS
    split <;> exact hm
  · split
    · exact hm
    · exact hm
theorem beh_std {l : Lw} {s : Sd} {k : Int} (hl : s.f ≠ l.fr - 1) (hf : (behS l s k).f = s.f) : (behS l s k).s = s.s - cnt l s k ∧ s.s - cnt l s k ≠ 0 := by
  have hmf : (midS l (thrS l s k)).f = s.f := midS_f l _
  have hms : (midS l (thrS l s k)).s = s.s - cnt l s k := by
    unfold midS thrS allS
    simp only
    split
    · first | rfl | (rw [if_neg hl])
    · rfl
  unfold behS finS at hf ⊢
  by_cases he : endS l (midS l (thrS l s k)) = true
  · rw [if_pos he] at hf
    exfalso
    unfold nextS setS at hf
    split at hf
    · simp only [hmf] at hf; omega
    · simp only [hmf] at hf; omega
  · have hne : (midS l (thrS l s k)).s ≠ 0 := by
      intro h0
      apply he
      unfold endS
      rw [hmf, if_neg hl, h0]
      simp
    rw [if_neg he, if_neg hne]
    rw [hms] at hne ⊢
    exact ⟨rfl, hne⟩

/-- The total, the frames, and what the next balls count besides. -/
structure TI (l : Lw) (r : Rc) : Prop where
  tot : r.tot = sumGo l.pn r.cs (r.fs.take r.s.f.toNat) 0 + (r.cs.drop (lens (r.fs.take r.s.f.toNat))).sum
  x : r.s.f < l.fr → r.s.x = owe l.pn r.cs 0 (r.fs.take r.s.f.toNat) 0
  y : r.s.f < l.fr → r.s.y = owe l.pn r.cs 1 (r.fs.take r.s.f.toNat) 0
  z : r.s.f < l.fr → ∀ d, 2 ≤ d → owe l.pn r.cs d (r.fs.take r.s.f.toNat) 0 = 0
  n : r.s.f < l.fr → (r.cs.length : Int) = lens (r.fs.take r.s.f.toNat) + r.s.b
  st : r.s.f < l.fr - 1 → (r.cs.drop (lens (r.fs.take r.s.f.toNat))).sum + r.s.s = l.pn
  le : lens (r.fs.take r.s.f.toNat) ≤ r.cs.length

theorem TI.note {l : Lw} {r : Rc} {i : Nat} {k : Int} (h : TI l r) (hls : Ls l r) (hw : RcW l r i) (ok : l.Ok) (ht : okT l r.s k = true) : TI l (noteR l r k) := by
  obtain ⟨hf, hk1, hk2⟩ := okT_out ht
  have hv := hw.vd
  have hlt : r.s.f < l.fr := by have := hv.f2; omega
  obtain ⟨y', hy1, hy2, hbl, hTk⟩ := note_frame (k := k) hls hw hlt
  have hs : (noteR l r k).s = behS l r.s k := rfl
  have hcs : (noteR l r k).cs = r.cs ++ [cnt l r.s k] := rfl
  have htot : (noteR l r k).tot = r.tot + cnt l r.s k * (1 + r.s.x) := rfl
  have hx := h.x hlt
  have hy := h.y hlt
  have hz := h.z hlt
  have hn := h.n hlt
  have hst := h.st
  have hle := h.le
  have hto := h.tot
  have hb0 := hv.b1
  have hb2 := hv.b2
  have hv1 := hv.f1
  have hcn := cnt_le ok hv hk1 hk2
  obtain ⟨bx, bY⟩ := beh_xy l r.s k
  have hstd := fun a b => beh_std (l := l) (s := r.s) (k := k) a b
  generalize r.fs.take r.s.f.toNat = T at *
  generalize cnt l r.s k = c at *
  have e1 := sumGo_snoc l.pn r.cs c T 0 (by omega)
  have e2 := fun d => owe_snoc l.pn r.cs c d T 0 (by omega)
  have hdr : ((r.cs ++ [c]).drop (lens T)).sum = (r.cs.drop (lens T)).sum + c := by
    rw [List.drop_append_of_le_length hle, List.sum_append]; simp
  have hmul : c * (1 + r.s.x) = c + c * owe l.pn r.cs 0 T 0 := by rw [Int.mul_add, hx]; simp
  rcases beh_fb l r.s k with ⟨q1, q2⟩ | ⟨q1, q2⟩
  · -- the frame has ended
    have ef : (behS l r.s k).f.toNat = r.s.f.toNat + 1 := by omega
    have hT : (noteR l r k).fs.take (r.s.f.toNat + 1) = T ++ [y'] := by
      rw [List.take_add_one, hTk, hy1]; rfl
    have hln : lens (T ++ [y']) = lens T + y'.length := by simp [lens]
    have hyn : (y'.length : Int) = r.s.b + 1 := hy2
    have hlen' : (r.cs ++ [c]).length = lens T + y'.length := by simp; omega
    have hpart : ∀ n, y'.length ≤ n → partL (r.cs ++ [c]) (lens T) n = (r.cs ++ [c]).drop (lens T) := by
      intro n hn'
      unfold partL
      rw [List.take_of_length_le (by rw [List.length_drop, hlen']; omega)]
    have hnd : y'.length ≤ needs l.pn (r.cs ++ [c]) (lens T) y'.length := by
      unfold needs
      split <;> omega
    have hnv : needs l.pn (r.cs ++ [c]) (lens T) y'.length = if l.pn ≤ (r.cs.drop (lens T)).sum + c then 3 else y'.length := by
      unfold needs
      rw [hpart _ (Nat.le_refl _), hdr]
    have hdn : (r.cs ++ [c]).drop (lens T + y'.length) = [] := List.drop_of_length_le (by omega)
    constructor
    · rw [hs, hcs, ef, hT, htot, hln, sumGo_app, Nat.zero_add, hpart _ hnd, hdr, hdn, e1, hto, hmul]
      simp
      omega
    all_goals rw [hs, ef, hT]
    · intro hlt2
      have hl : r.s.f < l.fr - 1 := by omega
      have hst := hst hl
      rw [hcs, bx, owe_app, e2]
      simp only [Nat.zero_add, Nat.add_zero]
      rw [hy, hnv, hlen']
      have hl2 : r.s.f ≠ l.fr - 1 := by omega
      by_cases ha : r.s.s - c = 0
      · have h1 : l.pn ≤ (r.cs.drop (lens T)).sum + c := by omega
        rw [if_pos h1]
        by_cases hb : r.s.b + 1 ≤ 2
        · rw [if_pos ⟨hl2, ha, hb⟩, if_pos (by omega)]
        · rw [if_neg (by omega), if_neg (by omega)]
      · have h1 : ¬ l.pn ≤ (r.cs.drop (lens T)).sum + c := by omega
        rw [if_neg h1, if_neg (by omega), if_neg (by omega)]
    · intro hlt2
      have hl : r.s.f < l.fr - 1 := by omega
      have hst := hst hl
      rw [hcs, bY, owe_app, e2, hz (1 + 1) (by omega)]
      simp only [Nat.zero_add]
      rw [hnv, hlen']
      have hl2 : r.s.f ≠ l.fr - 1 := by omega
      by_cases ha : r.s.s - c = 0
      · have h1 : l.pn ≤ (r.cs.drop (lens T)).sum + c := by omega
        rw [if_pos h1]
        by_cases hb : r.s.b + 1 ≤ 1
        · rw [if_pos ⟨hl2, ha, hb⟩, if_pos (by omega)]; rfl
        · rw [if_neg (by omega), if_neg (by omega)]; rfl
      · have h1 : ¬ l.pn ≤ (r.cs.drop (lens T)).sum + c := by omega
        rw [if_neg h1, if_neg (by omega), if_neg (by omega)]; rfl
    · intro hlt2 d hd
      rw [hcs, owe_app, e2, hz (d + 1) (by omega)]
      simp only [Nat.zero_add]
      rw [hnv, hlen', if_neg (by split <;> omega)]
      rfl
    · intro hlt2
      rw [hcs, hln, hlen', q1]
      simp
    · intro hlt2
      rw [hcs, hln, hdn, beh_new (by omega) (by omega)]
      simp
    · rw [hcs, hln, hlen']
      exact Nat.le_refl _
  · constructor
    all_goals rw [hs, q2, hTk]
    · rw [hcs, htot, e1, hto, hmul, hdr]
      omega
    · intro _
      rw [hcs, e2, bx, ← hy]
      by_cases hl : r.s.f = l.fr - 1
      · simp [hl]
      · have := (hstd hl q2).2
        rw [if_neg (by intro h; exact this h.2.1)]
        omega
    · intro _
      rw [hcs, e2, bY, hz (1 + 1) (by omega)]
      by_cases hl : r.s.f = l.fr - 1
      · simp [hl]
      · have := (hstd hl q2).2
        rw [if_neg (by intro h; exact this h.2.1)]
    · intro _ d hd
      rw [hcs, e2]
      exact hz (d + 1) (by omega)
    · intro _
      rw [hcs, q1]
      simp
      omega
    · intro hl
      rw [hcs, hdr, (hstd (by omega) q2).1]
      have := hst hl
      omega
    · rw [hcs]
      simp
      omega

theorem fol_ti {l : Lw} (ok : l.Ok) : ∀ (bs : List Int) (r : Rc) (i : Nat), RcW l r i → Ls l r → TI l r → TI l (fol l r bs).1
  | [], r, i, _, _, h => by simpa [fol] using h
  | k :: ks, r, i, hw, hl, h => by
    rw [fol]
    split
    · rename_i ht
      exact fol_ti ok ks (noteR l r k) (i + 1) (hw.note ok ht) (hl.note hw ok ht) (h.note hl hw ok ht)
    · simpa using h

theorem rec0_ti (l : Lw) : TI l (rec0 l) := by
  constructor <;> simp [rec0, begS, sumGo, owe, lens]

theorem setGo_sum (pn : Int) (cs : List Int) : ∀ (bs : List (List Int)) (f : Nat) (acc : List Int), (setGo pn cs bs f acc).length = acc.length + bs.length → lastC (setGo pn cs bs f acc) = lastC acc + sumGo pn cs bs f
  | [], f, acc, _ => by simp [setGo, sumGo]
  | b :: bs, f, acc, h => by
    rw [setGo] at h ⊢
    split at h
    · simp at h
    · rename_i hb
      rw [if_neg hb, setGo_sum pn cs bs _ _ (by rw [h]; simp; omega), sumGo]
      have : lastC (acc ++ [(partL cs f (needs pn cs f b.length)).sum + lastC acc]) = (partL cs f (needs pn cs f b.length)).sum + lastC acc := by simp [lastC]
      rw [this]
      omega

/-- The last count of a whole game is the total. -/
theorem tot_last {l : Lw} {ys : List Int} {s : Sd} (h : FO l ys s) (ok : l.Ok) (hf : s.f = l.fr) : (rdM l ys)[l.fr.toNat - 1]? = some (recS l ys).tot := by
  have hd := set_done h ok hf
  have hw := fol_rcw ok ys (rec0 l) 0 (rec0_rcw ok)
  have hls := fol_ls ok ys (rec0 l) 0 (rec0_rcw ok) (rec0_ls ok)
  have hti := fol_ti ok ys (rec0 l) 0 (rec0_rcw ok) (rec0_ls ok) (rec0_ti l)
  have hL := fol_lenS ok ys (rec0 l) 0 (rec0_rcw ok) (rec0_lenS l)
  have o1 := ok.f1
  have hj : ∃ j, (rdM l ys).length = j + 1 := ⟨(rdM l ys).length - 1, by omega⟩
  obtain ⟨j, hj⟩ := hj
  have e : l.fr.toNat - 1 = j := by omega
  rw [e, lastC_at hj]
  congr 1
  rw [rdM_eq h ok] at hd ⊢
  have hs := h.s
  show lastC (setL l (fol l (rec0 l) ys).1) = (fol l (rec0 l) ys).1.tot
  generalize (fol l (rec0 l) ys).1 = r at *
  have hrf : r.s.f = l.fr := by rw [hs]; exact hf
  have hb := (hls.d hrf).1
  have hfl := hw.fl
  rw [if_pos hb] at hfl
  have hT : r.fs.take r.s.f.toNat = r.fs := List.take_of_length_le (by omega)
  have htt := hti.tot
  unfold setL at hd ⊢
  rw [hT] at hd htt ⊢
  have hll : lens r.fs = r.cs.length := hL.len
  rw [hll, List.drop_of_length_le (Nat.le_refl _)] at htt
  rw [setGo_sum l.pn r.cs r.fs 0 [] (by simp; omega), htt]
  simp [lastC]

end Go.Proofs.YtmjbidnlknmcgabDoor
