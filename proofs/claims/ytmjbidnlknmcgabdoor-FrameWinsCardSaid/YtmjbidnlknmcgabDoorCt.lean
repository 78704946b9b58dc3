/- The balls of a sheet by their frames, as the reference has them; what it counts of a frame is what the program counts. -/
import Derived.Test.YtmjbidnlknmcgabDoorTt
import Derived.Test.YtmjbidnlknmcgabDoorPl2
set_option linter.unusedVariables false
set_option linter.unusedSimpArgs false
namespace Go.Proofs.YtmjbidnlknmcgabDoor
open Go.RowKit

theorem own2_len {w : World} {base n : Nat} {e : TypeId} {v : Value} {xs : List Value} (h : w.ownsRow base e 2 v n xs) : ∃ a c, v = .slice a n c := by
  rcases h.2 with ⟨rfl, rfl⟩ | ⟨g, cap, cur, rfl, _⟩
  · exact ⟨_, _, rfl⟩
  · exact ⟨_, _, rfl⟩

theorem own2_form {w : World} {base n : Nat} {e : TypeId} {v : Value} {xs : List Value} (h : w.ownsRow base e 2 v n xs) (hn : 0 < n) : ∃ g c, v = .slice (some ⟨g, 0, none⟩) n c ∧ g < w.heap.size ∧ n ≤ c ∧ c ≤ maxLen ∧ ∀ k x, xs[k]? = some x → w.cell? ⟨g, k, none⟩ = some x := by
  rcases h.2 with ⟨rfl, h0⟩ | ⟨g, cap, cur, rfl, _, hh, h1, h2, h3, h4⟩
  · omega
  · refine ⟨g, cap, rfl, lt_of_block hh, h1, h2, fun k x hx => ?_⟩
    have hx2 : cur[k]? = some x := by
      rw [← h4, List.getElem?_take] at hx
      split at hx
      · simpa using hx
      · cases hx
    simp [World.cell?, hh, hx2]
theorem ballC_at : ∀ {R : List (Int × Int)} {i : Nat} {p : Int × Int}, R[i]? = some p → (ballC R)[i * 2]? = some (.int .i64 p.1) ∧ (ballC R)[i * 2 + 1]? = some (.int .i64 p.2)
  | [], i, p, h => by simp at h
  | q :: R, 0, p, h => by
    simp at h
    subst h
    exact ⟨rfl, rfl⟩
  | q :: R, i + 1, p, h => by
    have ih := ballC_at (R := R) (i := i) (p := p) (by simpa using h)
    have e : ballC (q :: R) = .int .i64 q.1 :: .int .i64 q.2 :: ballC R := rfl
    rw [e]
    have e1 : (i + 1) * 2 = i * 2 + 1 + 1 := by omega
    rw [e1]
    exact ⟨by simpa using ih.1, by simpa using ih.2⟩

/-- The frame of each ball. -/
def tag : List (List Int) → Int → List Int
  | [], _ => []
  | b :: bs, i => List.replicate b.length i ++ tag bs (i + 1)

theorem tag_app : ∀ (bs : List (List Int)) (y : List Int) (i : Int), tag (bs ++ [y]) i = tag bs i ++ List.replicate y.length (i + bs.length)
  | [], y, i => by simp [tag]
  | b :: bs, y, i => by
    have ih := tag_app bs y (i + 1)
    rw [List.cons_append, tag, tag, ih]
    have e : i + 1 + (bs.length : Int) = i + ((b :: bs).length : Int) := by simp; omega
    rw [e, List.append_assoc]

theorem tag_len : ∀ (bs : List (List Int)) (i : Int), (tag bs i).length = lens bs
  | [], i => by simp [tag, lens]
  | b :: bs, i => by
    have ih := tag_len bs (i + 1)
    rw [tag, List.length_append, ih]
    simp [lens]

/-- One ball more: its tag is the frame's number. -/
theorem tag_note {l : Lw} {r : Rc} {i : Nat} {k : Int} (h : Ls l r) (hw : RcW l r i) (hf : r.s.f < l.fr) : tag (noteR l r k).fs 0 = tag r.fs 0 ++ [r.s.f] := by
  have hfl := hw.fl
  have hv1 := hw.vd.f1
  have hset : (noteR l r k).fs = (noteFs r).set r.s.f.toNat (((noteFs r)[r.s.f.toNat]?).getD [] ++ [k]) := rfl
  rw [hset]
  by_cases hb : r.s.b = 0
  · rw [if_pos hb] at hfl
    have e : noteFs r = r.fs ++ [[]] := by unfold noteFs; rw [if_pos hb]
    have ef : r.s.f.toNat = r.fs.length := by omega
    rw [e, ef]
    have e2 : (r.fs ++ [[]])[r.fs.length]? = some [] := by simp
    rw [e2]
    have e3 : (r.fs ++ [([] : List Int)]).set r.fs.length ((some ([] : List Int)).getD [] ++ [k]) = r.fs ++ [[k]] := by simp
    rw [e3, tag_app]
    simp
    omega
  · rw [if_neg hb] at hfl
    have e : noteFs r = r.fs := by unfold noteFs; rw [if_neg hb]
    obtain ⟨y, hy, hyl⟩ := h.b hb
    rw [e, hy]
    have hlt : r.s.f.toNat < r.fs.length := by omega
    have hL : r.fs = r.fs.take r.s.f.toNat ++ [y] := by
      have h1 : r.fs.take (r.s.f.toNat + 1) = r.fs := List.take_of_length_le (by omega)
      rw [List.take_add_one, hy] at h1
      exact h1.symm
    have hTl : (r.fs.take r.s.f.toNat).length = r.s.f.toNat := by rw [List.length_take]; omega
    have e3 : r.fs.set r.s.f.toNat ((some y).getD [] ++ [k]) = r.fs.take r.s.f.toNat ++ [y ++ [k]] := by
      conv => lhs; rw [hL]
      rw [List.set_append_right _ _ (by omega)]
      have e4 : r.s.f.toNat - (r.fs.take r.s.f.toNat).length = 0 := by omega
      rw [e4]
      rfl
    rw [e3, tag_app]
    have e5 : tag r.fs 0 = tag (r.fs.take r.s.f.toNat) 0 ++ List.replicate y.length (0 + ((r.fs.take r.s.f.toNat).length : Int)) := by
      conv => lhs; rw [hL]
      exact tag_app _ _ _
    rw [e5, List.length_append, List.append_assoc, hTl]
    have e6 : (0 : Int) + (r.s.f.toNat : Int) = r.s.f := by omega
    rw [e6]
    simp [List.replicate_succ']

theorem play_tag {l : Lw} (ok : l.Ok) : ∀ (bs : List Int) (r : Rc) (i : Nat), RcW l r i → Ls l r → tag (fol l r bs).1.fs 0 = tag r.fs 0 ++ (playL l r.s bs).map (·.1)
  | [], r, i, _, _ => by simp [fol, playL]
  | k :: ks, r, i, hw, hl => by
    rw [fol, playL]
    by_cases ht : okT l r.s k = true
    · rw [if_pos ht, if_pos ht]
      have ih := play_tag ok ks (noteR l r k) (i + 1) (hw.note ok ht) (hl.note hw ok ht)
      have hf : r.s.f < l.fr := by have := (okT_out ht).1; have := hw.vd.f2; omega
      rw [tag_note hl hw hf] at ih
      have e : (noteR l r k).s = behS l r.s k := rfl
      rw [e] at ih
      simp only [ih, List.map_cons, List.append_assoc, List.cons_append, List.nil_append]
    · rw [if_neg ht, if_neg ht]
      simp

end Go.Proofs.YtmjbidnlknmcgabDoor
