/- Fouls instead of balls of 0, as mathematics; the balls of all frames. -/
import Derived.Test.YtmjbidnlknmcgabDoorRdb
set_option linter.unusedVariables false
set_option linter.unusedSimpArgs false
namespace Go.Proofs.YtmjbidnlknmcgabDoor
open Go.RowKit

/-- A ball, and what may stand instead of it. -/
def Fl (k k' : Int) : Prop := k = k' ∨ ((k = 0 ∨ k = -1) ∧ (k' = 0 ∨ k' = -1))

inductive FlL : List Int → List Int → Prop
  | nil : FlL [] []
  | cons {k k' : Int} {ks ks' : List Int} : Fl k k' → FlL ks ks' → FlL (k :: ks) (k' :: ks')

theorem fl_ok {l : Lw} {s : Sd} {k k' : Int} (v : Vd l s) (h : Fl k k') : okT l s k = okT l s k' := by
  have hs := v.s1
  rcases h with rfl | ⟨h1, h2⟩
  · rfl
  · have e1 : decide (-1 ≤ k) = true := by simp; omega
    have e2 : decide (-1 ≤ k') = true := by simp; omega
    have e3 : decide (k ≤ s.s) = true := by simp; omega
    have e4 : decide (k' ≤ s.s) = true := by simp; omega
    simp [okT, e1, e2, e3, e4]

theorem cnt_zero {l : Lw} {s : Sd} {k : Int} (ok : l.Ok) (h : k = 0 ∨ k = -1) : cnt l s k = 0 := by
  have := ok.t1
  rcases h with rfl | rfl
  · unfold cnt
    have h1 : ¬ (s.fresh = true ∧ l.tp ≤ 0) := by omega
    simp [h1]
  · simp [cnt]

theorem fl_cnt {l : Lw} {s : Sd} {k k' : Int} (ok : l.Ok) (h : Fl k k') : cnt l s k = cnt l s k' := by
  rcases h with rfl | ⟨h1, h2⟩
  · rfl
  · rw [cnt_zero ok h1, cnt_zero ok h2]

theorem fl_beh {l : Lw} {s : Sd} {k k' : Int} (ok : l.Ok) (h : Fl k k') : behS l s k = behS l s k' := by
  unfold behS thrS
  rw [fl_cnt ok h]

/-- Two records that differ by their balls alone. -/
structure Rl (r r' : Rc) : Prop where
  s : r.s = r'.s
  cs : r.cs = r'.cs
  tot : r.tot = r'.tot
  ln : r.fs.map List.length = r'.fs.map List.length

theorem Rl.note {l : Lw} {r r' : Rc} {k k' : Int} (h : Rl r r') (ok : l.Ok) (hk : Fl k k') : Rl (noteR l r k) (noteR l r' k') := by
  obtain ⟨hs, hc, ht, hl⟩ := h
  obtain ⟨s, fs, cs, tot⟩ := r
  obtain ⟨s', fs', cs', tot'⟩ := r'
  simp only at hs hc ht hl
  subst hs hc ht
  refine ⟨fl_beh ok hk, ?_, ?_, ?_⟩
  · show cs ++ [_] = cs ++ [_]
    rw [fl_cnt ok hk]
  · show tot + _ = tot + _
    rw [fl_cnt ok hk]
  · show ((noteFs ⟨s, fs, cs, tot⟩).set s.f.toNat _).map List.length = ((noteFs ⟨s, fs', cs, tot⟩).set s.f.toNat _).map List.length
    have e : (noteFs ⟨s, fs, cs, tot⟩).map List.length = (noteFs ⟨s, fs', cs, tot⟩).map List.length := by
      unfold noteFs
      simp only
      split <;> simp [hl]
    have e2 : ((noteFs ⟨s, fs, cs, tot⟩)[s.f.toNat]?).map List.length = ((noteFs ⟨s, fs', cs, tot⟩)[s.f.toNat]?).map List.length := by
      have := congrArg (fun L => L[s.f.toNat]?) e
      simpa using this
    rw [List.map_set, List.map_set, e]
    congr 1
    generalize (noteFs ⟨s, fs, cs, tot⟩)[s.f.toNat]? = A at e2 ⊢
    generalize (noteFs ⟨s, fs', cs, tot⟩)[s.f.toNat]? = B at e2 ⊢
    cases A <;> cases B <;> simp_all

theorem fol_rl {l : Lw} (ok : l.Ok) : ∀ (bs xs : List Int) (r r' : Rc) (i : Nat), FlL bs xs → RcW l r i → Rl r r' → Rl (fol l r bs).1 (fol l r' xs).1 ∧ (fol l r bs).2 = (fol l r' xs).2
  | [], _, r, r', i, h, hw, hr => by
    cases h
    exact ⟨by simpa [fol] using hr, by simp [fol]⟩
  | k :: ks, _, r, r', i, h, hw, hr => by
    cases h with
    | @cons _ k' _ ks' hk hks =>
      have e : okT l r.s k = okT l r'.s k' := by rw [← hr.s]; exact fl_ok hw.vd hk
      rw [fol, fol, ← e]
      split
      · rename_i ht
        have h := fol_rl ok ks ks' (noteR l r k) (noteR l r' k') (i + 1) hks (hw.note ok ht) (hr.note ok hk)
        exact ⟨h.1, by simp [h.2]⟩
      · exact ⟨hr, rfl⟩

theorem setGo_ln (pn : Int) (cs : List Int) : ∀ (bs bs' : List (List Int)) (f : Nat) (acc : List Int), bs.map List.length = bs'.map List.length → setGo pn cs bs f acc = setGo pn cs bs' f acc
  | [], [], _, _, _ => rfl
  | [], _ :: _, _, _, h => by simp at h
  | _ :: _, [], _, _, h => by simp at h
  | b :: bs, b' :: bs', f, acc, h => by
    simp only [List.map_cons, List.cons.injEq] at h
    rw [setGo, setGo, h.1]
    split
    · rfl
    · exact setGo_ln pn cs bs bs' _ _ h.2

theorem Rl.set {l : Lw} {r r' : Rc} (h : Rl r r') : setL l r = setL l r' := by
  unfold setL
  rw [h.s, h.cs]
  refine setGo_ln _ _ _ _ _ _ ?_
  rw [List.map_take, List.map_take, h.ln]

theorem forall2_len {bs xs : List Int} (h : FlL bs xs) : bs.length = xs.length := by
  induction h with
  | nil => rfl
  | cons _ _ ih => simp [ih]

theorem flat_set : ∀ (L : List (List Int)) (f : Nat) (y : List Int) (k : Int), L.length = f + 1 → L[f]? = some y → (L.set f (y ++ [k])).flatten = L.flatten ++ [k]
  | [], f, y, k, h, _ => by simp at h
  | a :: L, 0, y, k, h, hy => by
    simp only [List.length_cons, Nat.zero_add, Nat.add_eq_right, List.length_eq_zero_iff] at h
    subst h
    simp only [List.getElem?_cons_zero, Option.some.injEq] at hy
    subst hy
    simp
  | a :: L, f + 1, y, k, h, hy => by
    have := flat_set L f y k (by simpa using h) (by simpa using hy)
    simp only [List.set_cons_succ, List.flatten_cons, this, List.append_assoc]

theorem note_flat {l : Lw} {r : Rc} {i : Nat} {k : Int} (hw : RcW l r i) (ht : okT l r.s k = true) : (noteR l r k).fs.flatten = r.fs.flatten ++ [k] := by
  have hv := hw.vd
  have hv1 := hv.f1
  have hnl : (noteFs r).length = r.s.f.toNat + 1 := by
    have := hw.fl
    unfold noteFs
    split
    · rename_i hb; rw [if_pos hb] at this; simp; omega
    · rename_i hb; rw [if_neg hb] at this; omega
  have hnf : (noteFs r).flatten = r.fs.flatten := by
    unfold noteFs
    split <;> simp
  have hy : (noteFs r)[r.s.f.toNat]? = some ((noteFs r)[r.s.f.toNat]'(by omega)) := List.getElem?_eq_getElem _
  show ((noteFs r).set r.s.f.toNat (((noteFs r)[r.s.f.toNat]?).getD [] ++ [k])).flatten = _
  rw [hy]
  simp only [Option.getD_some]
  rw [flat_set _ _ _ _ hnl hy, hnf]

theorem fol_flat {l : Lw} (ok : l.Ok) : ∀ (bs : List Int) (r : Rc) (i : Nat), RcW l r i → (fol l r bs).1.fs.flatten = r.fs.flatten ++ bs.take (fol l r bs).2
  | [], r, i, _ => by simp [fol]
  | k :: ks, r, i, hw => by
    cases ht : okT l r.s k
    · simp [fol, ht]
    · have h := fol_flat ok ks (noteR l r k) (i + 1) (hw.note ok ht)
      rw [fol, if_pos ht]
      simp only [List.take_succ_cons]
      rw [h, note_flat hw ht]
      simp

/-- All that FrameFouls asks. -/
structure FoOK (l : Lw) (bs xs : List Int) : Prop where
  e : rdE l xs = 0
  m : rdM l bs = rdM l xs
  s : rdS l bs = rdS l xs
  d : rdD l bs = rdD l xs
  fl : (rdF l xs).flatten = xs

theorem fo_ok {l : Lw} {bs xs : List Int} (h : rdE l bs = 0) (hf : FlL bs xs) : FoOK l bs xs := by
  obtain ⟨he, hn⟩ := rdE_zero h
  have ok := (errS_zero he).1
  have hl := forall2_len hf
  have hr := fol_rl ok bs xs (rec0 l) (rec0 l) 0 hf (rec0_rcw ok) ⟨rfl, rfl, rfl, rfl⟩
  have he2 : errS l xs.length = 0 := by rw [← hl]; exact he
  have h2 : rdE l xs = 0 := by
    rw [rdE, he2, ← hr.2, hn, hl]; simp
  refine ⟨h2, ?_, ?_, ?_, ?_⟩
  · rw [rdM, rdM, if_pos h, if_pos h2]; exact hr.1.set
  · rw [rdS, rdS, if_pos h, if_pos h2]; exact congrArg Sd.s hr.1.s
  · rw [rdD, rdD, if_pos h, if_pos h2]; show ((fol l (rec0 l) bs).1.s.f == l.fr) = _; rw [hr.1.s]; rfl
  · rw [rdF, if_pos h2, recS, fol_flat ok xs (rec0 l) 0 (rec0_rcw ok), ← hr.2, hn, hl, List.take_length]; rfl

theorem rd_ge : ∀ {l : Lw} {bs : List Int} {r : Rc}, (fol l r bs).2 = bs.length → ∀ k ∈ bs, -1 ≤ k
  | l, [], r, _ => by simp
  | l, k :: ks, r, h => by
    cases ht : okT l r.s k
    · simp [fol, ht] at h
    · have e : fol l r (k :: ks) = ((fol l (noteR l r k) ks).1, (fol l (noteR l r k) ks).2 + 1) := by rw [fol, if_pos ht]
      rw [e] at h
      simp only [List.length_cons, Nat.add_right_cancel_iff] at h
      intro x hx
      rcases List.mem_cons.1 hx with rfl | hx
      · exact (okT_out ht).2.1
      · exact rd_ge h x hx

end Go.Proofs.YtmjbidnlknmcgabDoor
