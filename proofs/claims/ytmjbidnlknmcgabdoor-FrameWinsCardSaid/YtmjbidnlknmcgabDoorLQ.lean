/- The record that follows from a sheet: its rows, ball for ball. The contract of the play of a sheet up to its bad ball. The contract of the reading of a sheet. The contract of the bad ball of a sheet. What the balls before the bad ball make of a record: how much can have been counted. -/
import Derived.Test.YtmjbidnlknmcgabDoorLI2
import Derived.Test.YtmjbidnlknmcgabDoorLM
import Derived.Test.YtmjbidnlknmcgabDoorLT
import Derived.Deep.LoopGhost
set_option linter.unusedVariables false
set_option linter.unusedSimpArgs false
namespace Go.Proofs.YtmjbidnlknmcgabDoor
open Go.RowKit

theorem beh_fb (l : Lw) (s : Sd) (k : Int) : ((behS l s k).b = 0 ∧ (behS l s k).f = s.f + 1) ∨ ((behS l s k).b = s.b + 1 ∧ (behS l s k).f = s.f) := by
  have hb : (midS l (thrS l s k)).b = s.b + 1 := by
    unfold midS allS
    split
    · split <;> rfl
    · rfl
  have hf : (midS l (thrS l s k)).f = s.f := midS_f l _
  unfold behS finS
  split
  · left; unfold nextS setS
    split <;> exact ⟨rfl, by simp only [hf]⟩
  · right
    split
    · exact ⟨hb, hf⟩
    · exact ⟨hb, hf⟩

/-- The ball may be the next one. -/
def okT (l : Lw) (s : Sd) (k : Int) : Bool := !(s.f == l.fr) && decide (-1 ≤ k) && decide (k ≤ s.s)

theorem okT_out {l : Lw} {s : Sd} {k : Int} (h : okT l s k = true) : s.f ≠ l.fr ∧ -1 ≤ k ∧ k ≤ s.s := by
  unfold okT at h
  simpa [and_assoc] using h

/-- A record of so many balls. -/
structure RcW (l : Lw) (r : Rc) (i : Nat) : Prop where
  vd : Vd l r.s
  t1 : 0 ≤ r.tot
  t2 : r.tot ≤ 40 * i
  cs : r.cs.length = i
  zs : ∀ zs ∈ r.fs, zs.length ≤ i
  fl : (r.fs.length : Int) = if r.s.b = 0 then r.s.f else r.s.f + 1

theorem RcW.note {l : Lw} {r : Rc} {i : Nat} {k : Int} (h : RcW l r i) (ok : l.Ok) (ht : okT l r.s k = true) : RcW l (noteR l r k) (i + 1) := by
  obtain ⟨hf, hk1, hk2⟩ := okT_out ht
  have hv := h.vd
  have hlt : r.s.f < l.fr := by have := hv.f2; omega
  have hc := cnt_le ok hv hk1 hk2
  have hs10 : r.s.s ≤ 10 := by have := hv.s2; have := ok.p2; omega
  have hm1 : 0 ≤ cnt l r.s k * (1 + r.s.x) := Int.mul_nonneg hc.1 (by have := hv.x1; omega)
  have hm2 : cnt l r.s k * (1 + r.s.x) ≤ 40 := by
    have : cnt l r.s k * (1 + r.s.x) ≤ 10 * 4 := Int.mul_le_mul (by omega) (by have := hv.x2; omega) (by have := hv.x1; omega) (by omega)
    omega
  have hnl : ((noteFs r).length : Int) = r.s.f + 1 := by
    have := h.fl
    unfold noteFs
    split
    · rename_i hb; rw [if_pos hb] at this; simp; omega
    · rename_i hb; rw [if_neg hb] at this; omega
  have hz : ∀ zs ∈ noteFs r, zs.length ≤ i := by
    intro zs hzs
    unfold noteFs at hzs
    split at hzs
    · rcases List.mem_append.1 hzs with hzs | hzs
      · exact h.zs zs hzs
      · simp at hzs; subst hzs; simp
    · exact h.zs zs hzs
  refine ⟨(beh_vd ok hv hlt hk1 hk2).1, ?_, ?_, ?_, ?_, ?_⟩
  · show 0 ≤ r.tot + _
    have := h.t1; omega
  · show r.tot + _ ≤ _
    have := h.t2; omega
  · show (r.cs ++ [_]).length = _
    have := h.cs
    simp [this]
  · intro zs hzs
    rcases List.mem_or_eq_of_mem_set hzs with hzs | rfl
    · have := hz zs hzs; omega
    · cases hg : (noteFs r)[r.s.f.toNat]? with
      | none => simp
      | some y => have := hz y (List.mem_of_getElem? hg); simp; omega
  · show (((noteFs r).set _ _).length : Int) = if (behS l r.s k).b = 0 then (behS l r.s k).f else (behS l r.s k).f + 1
    rw [List.length_set, hnl]
    rcases beh_fb l r.s k with ⟨h1, h2⟩ | ⟨h1, h2⟩
    · rw [if_pos h1, h2]
    · rw [if_neg (by rw [h1]; have := hv.b1; omega), h2]

/-- The record behind the balls that may come, and how many they are. -/
def fol (l : Lw) : Rc → List Int → Rc × Nat
  | r, [] => (r, 0)
  | r, k :: ks => if okT l r.s k = true then ((fol l (noteR l r k) ks).1, (fol l (noteR l r k) ks).2 + 1) else (r, 0)

theorem note_any (w0 W : World) (B base b : Nat) (l : Lw) (r : Rc) (fv cv : Value) (vs : List Value) (k : Int) (i : Nat) (h : RecI w0 W B base b l r fv cv vs) (ok : l.Ok) (hw : RcW l r i) (hi : i ≤ 60) (ht : okT l r.s k = true) :
    Calls Tryd.prog 48 #[.pointer (some ⟨b, 0, none⟩), .int .i64 k] W fun e w' => e = .returned (.tuple #[]) ∧ Hid (∃ fv' cv' vs', RecI w0 w' B base b l (noteR l r k) fv' cv' vs') := by
  obtain ⟨hf, hk1, hk2⟩ := okT_out ht
  obtain ⟨f1, f2, b1, b2, s1, s2, x1, x2, y1, y2, _, _⟩ := hw.vd
  have p2 := ok.p2
  have of2 := ok.f2
  have hIn : r.s.In l := ⟨f1, by omega, b1, b2, s1, s2, x1, x2, y1, y2⟩
  have hzs : ∀ zs ∈ r.fs, zs.length ≤ 100 := fun zs hz => by have := hw.zs zs hz; omega
  have hfl := hw.fl
  have ht1 := hw.t1
  have ht2 := hw.t2
  have hcs := hw.cs
  by_cases hb : r.s.b = 0
  · rw [if_pos hb] at hfl
    exact note_open w0 W B base b l r fv cv vs k h ok hIn hk1 (by omega) ⟨ht1, by omega⟩ hzs (by omega) hb (by omega) hfl.symm
  · rw [if_neg hb] at hfl
    exact note_on w0 W B base b l r fv cv vs k h ok hIn hk1 (by omega) ⟨ht1, by omega⟩ hzs (by omega) hb r.s.f.toNat (by omega) (by omega) (by omega)

end Go.Proofs.YtmjbidnlknmcgabDoor

namespace Go.Proofs.YtmjbidnlknmcgabDoor
open Go.RowKit

/-- A sheet's balls lie in memory. -/
def BallsAt (w : World) (a : Option Addr) (bs : List Int) : Prop := ∀ i v, bs[i]? = some v → ∃ g o, a = some ⟨g, o, none⟩ ∧ w.cell? ⟨g, o + i, none⟩ = some (.int .i64 v)

/-- The play stands before the ball i. -/
structure FolI (w0 W : World) (b : Nat) (l : Lw) (bs : List Int) (R : Rc × Nat) (i : Nat) (r : Rc) : Prop where
  rc : ∃ base fv cv vs, RecI w0 W b base b l r fv cv vs
  rw : RcW l r i
  le : i ≤ bs.length
  e1 : (fol l r (bs.drop i)).1 = R.1
  e2 : i + (fol l r (bs.drop i)).2 = R.2

theorem FolI.keep {w0 W W' : World} {b : Nat} {l : Lw} {bs : List Int} {R : Rc × Nat} {i : Nat} {r : Rc} (h : FolI w0 W b l bs R i r) (hg : W.grownBy W' none) : FolI w0 W' b l bs R i r := by
  obtain ⟨⟨base, fv, cv, vs, hr⟩, h1, h2, h3, h4⟩ := h
  exact ⟨⟨base, fv, cv, vs, hr.keep hg⟩, h1, h2, h3, h4⟩

theorem FolI.game {w0 W : World} {b : Nat} {l : Lw} {bs : List Int} {R : Rc × Nat} {i : Nat} {r : Rc} (h : FolI w0 W b l bs R i r) : GameAt W b l r.s := by
  obtain ⟨⟨base, fv, cv, vs, hr⟩, _⟩ := h
  exact hr.rb.at

theorem FolI.ball {w0 W : World} {b : Nat} {l : Lw} {bs : List Int} {R : Rc × Nat} {i : Nat} {r : Rc} (h : FolI w0 W b l bs R i r) {p : Addr} {v : Value} (hp : p.block < b) (hc : w0.cell? p = some v) : W.cell? p = some v := by
  obtain ⟨⟨base, fv, cv, vs, hr⟩, _⟩ := h
  rw [hr.bl.cell hp]; exact hc

theorem FolI.stop {w0 W : World} {b : Nat} {l : Lw} {bs : List Int} {R : Rc × Nat} {i : Nat} {r : Rc} (h : FolI w0 W b l bs R i r) (hs : ∀ k, bs[i]? = some k → okT l r.s k = false) : r = R.1 ∧ i = R.2 := by
  have e1 := h.e1
  have e2 := h.e2
  cases hd : bs.drop i with
  | nil => rw [hd] at e1 e2; exact ⟨e1, e2⟩
  | cons k ks =>
    have hk : bs[i]? = some k := by rw [← List.head?_drop, hd]; rfl
    rw [hd, fol, if_neg (by rw [hs k hk]; simp)] at e1 e2
    exact ⟨e1, e2⟩

theorem FolI.done {w0 W : World} {b : Nat} {l : Lw} {bs : List Int} {R : Rc × Nat} {i : Nat} {r : Rc} (h : FolI w0 W b l bs R i r) (hd : r.s.f = l.fr) : r = R.1 ∧ i = R.2 :=
  h.stop fun k _ => by simp [okT, hd]

theorem fol_note {w0 W : World} {b : Nat} {l : Lw} {bs : List Int} {R : Rc × Nat} {i : Nat} {r : Rc} {k : Int} (ok : l.Ok) (hn : bs.length ≤ 40) (h : Hid (FolI w0 W b l bs R i r)) (hk : bs[i]? = some k) (ht : okT l r.s k = true) :
    Calls Tryd.prog 48 #[.pointer (some ⟨b, 0, none⟩), .int .i64 k] W fun e w' => e = .returned (.tuple #[]) ∧ Hid (FolI w0 w' b l bs R (i + 1) (noteR l r k)) := by
  obtain ⟨⟨base, fv, cv, vs, hr⟩, h1, h2, h3, h4⟩ := h.out
  refine (note_any w0 W b base b l r fv cv vs k i hr ok h1 (by omega) ht).mono ?_
  rintro e w' ⟨rfl, hh⟩
  obtain ⟨fv', cv', vs', hr'⟩ := hh.out
  have hlt : i < bs.length := (List.getElem?_eq_some_iff.1 hk).1
  have hd : bs.drop i = k :: bs.drop (i + 1) := by
    rw [List.drop_eq_getElem_cons hlt, (List.getElem?_eq_some_iff.1 hk).2]
  rw [hd, fol, if_pos ht] at h3 h4
  exact ⟨rfl, Lib.hid ⟨⟨base, fv', cv', vs', hr'⟩, h1.note ok ht, by omega, h3, by simp only at h4; omega⟩⟩

theorem fol_takes {w0 W : World} {b : Nat} {l : Lw} {bs : List Int} {R : Rc × Nat} {i : Nat} {r : Rc} (k : Int) (h : Hid (FolI w0 W b l bs R i r)) :
    Calls Tryd.prog 47 #[.pointer (some ⟨b, 0, none⟩), .int .i64 k] W fun e w' => e = .returned (.bool (okT l r.s k)) ∧ Hid (FolI w0 w' b l bs R i r) := by
  refine (takes_any b l r.s k W h.out.game).mono ?_
  rintro e w' ⟨rfl, n, rfl⟩
  exact ⟨rfl, Lib.hid (h.out.keep (grown_drewN (World.grownBy.refl W none) n))⟩

theorem fol_done {w0 W : World} {b : Nat} {l : Lw} {bs : List Int} {R : Rc × Nat} {i : Nat} {r : Rc} (h : Hid (FolI w0 W b l bs R i r)) :
    Calls Tryd.prog 30 #[.pointer (some ⟨b, 0, none⟩)] W fun e w' => e = .returned (.bool (r.s.f == l.fr)) ∧ Hid (FolI w0 w' b l bs R i r) := by
  refine (done_any b l r.s W h.out.game).mono ?_
  rintro e w' ⟨rfl, n, rfl⟩
  exact ⟨rfl, Lib.hid (h.out.keep (grown_drewN (World.grownBy.refl W none) n))⟩

/-- The record of a new game. -/
def rec0 (l : Lw) : Rc := ⟨begS l, [], [], 0⟩

def rval (l : Lw) (r : Rc) (fv cv : Value) : Value := .agg #[.int .i64 l.fr, .int .i64 l.pn, .int .i64 l.bl, .int .i64 l.tp, .int .i64 r.s.f, .int .i64 r.s.b, .int .i64 r.s.s, .bool r.s.fresh, .bool r.s.more, .int .i64 r.s.x, .int .i64 r.s.y, fv, cv, .int .i64 r.tot]

theorem fol_start (w : World) (l : Lw) :
    Hid (w.heap.size + 1 < ((w.alloc (.cells #[.int .i64 l.fr, .int .i64 l.pn, .int .i64 l.bl, .int .i64 l.tp] 34)).alloc (.cells #[.int .i64 0, .int .i64 0, .int .i64 0, .int .i64 0, .int .i64 0, .int .i64 0, .int .i64 0, .bool false, .bool false, .int .i64 0, .int .i64 0, .slice none 0 0, .slice none 0 0, .int .i64 0] 74)).heap.size) ∧ Hid (Below w.heap.size w ((w.alloc (.cells #[.int .i64 l.fr, .int .i64 l.pn, .int .i64 l.bl, .int .i64 l.tp] 34)).alloc (.cells #[.int .i64 0, .int .i64 0, .int .i64 0, .int .i64 0, .int .i64 0, .int .i64 0, .int .i64 0, .bool false, .bool false, .int .i64 0, .int .i64 0, .slice none 0 0, .slice none 0 0, .int .i64 0] 74))) ∧
      Hid (((w.alloc (.cells #[.int .i64 l.fr, .int .i64 l.pn, .int .i64 l.bl, .int .i64 l.tp] 34)).alloc (.cells #[.int .i64 0, .int .i64 0, .int .i64 0, .int .i64 0, .int .i64 0, .int .i64 0, .int .i64 0, .bool false, .bool false, .int .i64 0, .int .i64 0, .slice none 0 0, .slice none 0 0, .int .i64 0] 74)).heap[w.heap.size + 1]? = some (.cells #[.int .i64 0, .int .i64 0, .int .i64 0, .int .i64 0, .int .i64 0, .int .i64 0, .int .i64 0, .bool false, .bool false, .int .i64 0, .int .i64 0, .slice none 0 0, .slice none 0 0, .int .i64 0] 74 (0, 0))) ∧
      ((w.alloc (.cells #[.int .i64 l.fr, .int .i64 l.pn, .int .i64 l.bl, .int .i64 l.tp] 34)).alloc (.cells #[.int .i64 0, .int .i64 0, .int .i64 0, .int .i64 0, .int .i64 0, .int .i64 0, .int .i64 0, .bool false, .bool false, .int .i64 0, .int .i64 0, .slice none 0 0, .slice none 0 0, .int .i64 0] 74)).heap[w.heap.size]? = some (.cells #[.int .i64 l.fr, .int .i64 l.pn, .int .i64 l.bl, .int .i64 l.tp] 34 (0, 0)) := by
  refine ⟨Lib.hid (by simp), Lib.hid (((Below.refl _ _).alloc (Nat.le_refl _) _).alloc (by simp) _), Lib.hid ?_, (Below.heap_alloc _ _ _ (by simp)).trans (heap_alloc_new w _)⟩
  have := heap_alloc_new (w.alloc (.cells #[.int .i64 l.fr, .int .i64 l.pn, .int .i64 l.bl, .int .i64 l.tp] 34)) (.cells #[.int .i64 0, .int .i64 0, .int .i64 0, .int .i64 0, .int .i64 0, .int .i64 0, .int .i64 0, .bool false, .bool false, .int .i64 0, .int .i64 0, .slice none 0 0, .slice none 0 0, .int .i64 0] 74)
  rwa [World.size_alloc] at this

theorem beg_vd (l : Lw) (ok : l.Ok) : Vd l (begS l) := by
  obtain ⟨of1, of2, p1, p2, hb, t1, t2⟩ := ok
  refine ⟨?_, ?_, ?_, ?_, ?_, ?_, ?_, ?_, ?_, ?_, ?_, ?_⟩ <;> simp [begS] <;> omega

theorem fol_begin (w2 : World) (l : Lw) (bs : List Int) (ok : l.Ok) : FolI w2 (w2.alloc (.cells #[.int .i64 l.fr, .int .i64 l.pn, .int .i64 l.bl, .int .i64 l.tp, .int .i64 (begS l).f, .int .i64 (begS l).b, .int .i64 (begS l).s, .bool (begS l).fresh, .bool (begS l).more, .int .i64 (begS l).x, .int .i64 (begS l).y, .slice none 0 0, .slice none 0 0, .int .i64 0] 74)) w2.heap.size l bs (fol l (rec0 l) bs) 0 (rec0 l) := by
  refine ⟨⟨w2.heap.size + 1, .slice none 0 0, .slice none 0 0, [], ⟨⟨heap_alloc_new w2 _⟩, ⟨?_, ?_⟩, rfl, by omega, Nat.le_refl _, by simp, (Below.refl _ _).alloc (Nat.le_refl _) _⟩⟩, ⟨beg_vd l ok, by simp [rec0], by simp [rec0], rfl, by simp [rec0], by simp [rec0, begS]⟩, by omega, rfl, by simp⟩
  · intro p hp
    simp only [items, rec0, List.zip_nil_right, List.map_nil, List.mem_cons, List.not_mem_nil, or_false] at hp
    rcases hp with rfl | rfl <;> exact World.ownsRow_nil _ _ _ _
  · exact List.pairwise_cons.2 ⟨fun q _ k hk => (by cases hk), List.pairwise_singleton _ _⟩

/-- The sheet's balls lie below a block. -/
def BallsB (w : World) (a : Option Addr) (bs : List Int) (b : Nat) : Prop := ∀ i v, bs[i]? = some v → ∃ g o, a = some ⟨g, o, none⟩ ∧ w.cell? ⟨g, o + i, none⟩ = some (.int .i64 v) ∧ g < b

theorem BallsAt.below {w w1 w2 : World} {a : Option Addr} {bs : List Int} (h : BallsAt w a bs) (h1 : Below w.heap.size w w1) (h2 : Below w1.heap.size w1 w2) : BallsB w2 a bs w2.heap.size := by
  intro i v hv
  obtain ⟨g, o, ha, hc⟩ := h i v hv
  have hlt := World.block_lt_of_cell? w _ hc
  have hs1 := h1.size
  have hs2 := h2.size
  refine ⟨g, o, ha, ?_, by simp only at hlt; omega⟩
  rw [h2.cell (p := ⟨g, o + i, none⟩) (by simp only at hlt ⊢; omega), h1.cell (p := ⟨g, o + i, none⟩) hlt]
  exact hc

/-- The cells of a record that nothing has been written to. -/
structure Z14 (W : World) (d : Nat) : Prop where
  d0 : W.cell? ⟨d, 0, none⟩ = some (.int .i64 0)
  d1 : W.cell? ⟨d, 1, none⟩ = some (.int .i64 0)
  d2 : W.cell? ⟨d, 2, none⟩ = some (.int .i64 0)
  d3 : W.cell? ⟨d, 3, none⟩ = some (.int .i64 0)
  d4 : W.cell? ⟨d, 4, none⟩ = some (.int .i64 0)
  d5 : W.cell? ⟨d, 5, none⟩ = some (.int .i64 0)
  d6 : W.cell? ⟨d, 6, none⟩ = some (.int .i64 0)
  d7 : W.cell? ⟨d, 7, none⟩ = some (.bool false)
  d8 : W.cell? ⟨d, 8, none⟩ = some (.bool false)
  d9 : W.cell? ⟨d, 9, none⟩ = some (.int .i64 0)
  d10 : W.cell? ⟨d, 10, none⟩ = some (.int .i64 0)
  d11 : W.cell? ⟨d, 11, none⟩ = some (.slice none 0 0)
  d12 : W.cell? ⟨d, 12, none⟩ = some (.slice none 0 0)
  d13 : W.cell? ⟨d, 13, none⟩ = some (.int .i64 0)
  z0 : W.frozen? ⟨d, 0, none⟩ = false
  z1 : W.frozen? ⟨d, 1, none⟩ = false
  z2 : W.frozen? ⟨d, 2, none⟩ = false
  z3 : W.frozen? ⟨d, 3, none⟩ = false
  z4 : W.frozen? ⟨d, 4, none⟩ = false
  z5 : W.frozen? ⟨d, 5, none⟩ = false
  z6 : W.frozen? ⟨d, 6, none⟩ = false
  z7 : W.frozen? ⟨d, 7, none⟩ = false
  z8 : W.frozen? ⟨d, 8, none⟩ = false
  z9 : W.frozen? ⟨d, 9, none⟩ = false
  z10 : W.frozen? ⟨d, 10, none⟩ = false
  z11 : W.frozen? ⟨d, 11, none⟩ = false
  z12 : W.frozen? ⟨d, 12, none⟩ = false
  z13 : W.frozen? ⟨d, 13, none⟩ = false

theorem z14 {W : World} {d : Nat} (h : W.heap[d]? = some (.cells #[.int .i64 0, .int .i64 0, .int .i64 0, .int .i64 0, .int .i64 0, .int .i64 0, .int .i64 0, .bool false, .bool false, .int .i64 0, .int .i64 0, .slice none 0 0, .slice none 0 0, .int .i64 0] 74 (0, 0))) : Z14 W d := by
  constructor <;> simp [World.cell?, World.frozen?, h]

/-- The cells of a record. -/
structure C14 (W : World) (d : Nat) (l : Lw) (r : Rc) (fv cv : Value) : Prop where
  c0 : W.cell? ⟨d, 0, none⟩ = some (.int .i64 l.fr)
  c1 : W.cell? ⟨d, 1, none⟩ = some (.int .i64 l.pn)
  c2 : W.cell? ⟨d, 2, none⟩ = some (.int .i64 l.bl)
  c3 : W.cell? ⟨d, 3, none⟩ = some (.int .i64 l.tp)
  c4 : W.cell? ⟨d, 4, none⟩ = some (.int .i64 r.s.f)
  c5 : W.cell? ⟨d, 5, none⟩ = some (.int .i64 r.s.b)
  c6 : W.cell? ⟨d, 6, none⟩ = some (.int .i64 r.s.s)
  c7 : W.cell? ⟨d, 7, none⟩ = some (.bool r.s.fresh)
  c8 : W.cell? ⟨d, 8, none⟩ = some (.bool r.s.more)
  c9 : W.cell? ⟨d, 9, none⟩ = some (.int .i64 r.s.x)
  c10 : W.cell? ⟨d, 10, none⟩ = some (.int .i64 r.s.y)
  c11 : W.cell? ⟨d, 11, none⟩ = some fv
  c12 : W.cell? ⟨d, 12, none⟩ = some cv
  c13 : W.cell? ⟨d, 13, none⟩ = some (.int .i64 r.tot)

theorem fol_end {w w2 W : World} {b base d : Nat} {l : Lw} {r : Rc} {n : Nat} {R : Rc × Nat} {fv cv : Value} {vs : List Value} (h : RecI w2 W b base b l r fv cv vs) (hR : r = R.1 ∧ n = R.2) (hB : Below w.heap.size w w2) (hd : w.heap.size ≤ d) (hdb : d < b) (hbs : b = w2.heap.size) (hz : W.heap[d]? = some (.cells #[.int .i64 0, .int .i64 0, .int .i64 0, .int .i64 0, .int .i64 0, .int .i64 0, .int .i64 0, .bool false, .bool false, .int .i64 0, .int .i64 0, .slice none 0 0, .slice none 0 0, .int .i64 0] 74 (0, 0))) :
    C14 ((((((((((((((W.setCell ⟨d, 0, none⟩ (.int .i64 l.fr)).setCell ⟨d, 1, none⟩ (.int .i64 l.pn)).setCell ⟨d, 2, none⟩ (.int .i64 l.bl)).setCell ⟨d, 3, none⟩ (.int .i64 l.tp)).setCell ⟨d, 4, none⟩ (.int .i64 r.s.f)).setCell ⟨d, 5, none⟩ (.int .i64 r.s.b)).setCell ⟨d, 6, none⟩ (.int .i64 r.s.s)).setCell ⟨d, 7, none⟩ (.bool r.s.fresh)).setCell ⟨d, 8, none⟩ (.bool r.s.more)).setCell ⟨d, 9, none⟩ (.int .i64 r.s.x)).setCell ⟨d, 10, none⟩ (.int .i64 r.s.y)).setCell ⟨d, 11, none⟩ fv).setCell ⟨d, 12, none⟩ cv).setCell ⟨d, 13, none⟩ (.int .i64 r.tot)) d l r fv cv ∧ ∃ base' fv' cv' vs', Ending.returned (.tuple #[rval l r fv cv, .int .i64 (n : Int)]) = Ending.returned (.tuple #[rval l R.1 fv' cv', .int .i64 (R.2 : Int)]) ∧
      Owns ((((((((((((((W.setCell ⟨d, 0, none⟩ (.int .i64 l.fr)).setCell ⟨d, 1, none⟩ (.int .i64 l.pn)).setCell ⟨d, 2, none⟩ (.int .i64 l.bl)).setCell ⟨d, 3, none⟩ (.int .i64 l.tp)).setCell ⟨d, 4, none⟩ (.int .i64 r.s.f)).setCell ⟨d, 5, none⟩ (.int .i64 r.s.b)).setCell ⟨d, 6, none⟩ (.int .i64 r.s.s)).setCell ⟨d, 7, none⟩ (.bool r.s.fresh)).setCell ⟨d, 8, none⟩ (.bool r.s.more)).setCell ⟨d, 9, none⟩ (.int .i64 r.s.x)).setCell ⟨d, 10, none⟩ (.int .i64 r.s.y)).setCell ⟨d, 11, none⟩ fv).setCell ⟨d, 12, none⟩ cv).setCell ⟨d, 13, none⟩ (.int .i64 r.tot)) base' (items fv' cv' vs' R.1.fs R.1.cs) ∧ vs'.length = R.1.fs.length ∧ w.heap.size ≤ base' ∧ Below w.heap.size w ((((((((((((((W.setCell ⟨d, 0, none⟩ (.int .i64 l.fr)).setCell ⟨d, 1, none⟩ (.int .i64 l.pn)).setCell ⟨d, 2, none⟩ (.int .i64 l.bl)).setCell ⟨d, 3, none⟩ (.int .i64 l.tp)).setCell ⟨d, 4, none⟩ (.int .i64 r.s.f)).setCell ⟨d, 5, none⟩ (.int .i64 r.s.b)).setCell ⟨d, 6, none⟩ (.int .i64 r.s.s)).setCell ⟨d, 7, none⟩ (.bool r.s.fresh)).setCell ⟨d, 8, none⟩ (.bool r.s.more)).setCell ⟨d, 9, none⟩ (.int .i64 r.s.x)).setCell ⟨d, 10, none⟩ (.int .i64 r.s.y)).setCell ⟨d, 11, none⟩ fv).setCell ⟨d, 12, none⟩ cv).setCell ⟨d, 13, none⟩ (.int .i64 r.tot)) := by
  have a0 := blk_setCell hz 0 (.int .i64 l.fr)
  have a1 := blk_setCell a0 1 (.int .i64 l.pn)
  have a2 := blk_setCell a1 2 (.int .i64 l.bl)
  have a3 := blk_setCell a2 3 (.int .i64 l.tp)
  have a4 := blk_setCell a3 4 (.int .i64 r.s.f)
  have a5 := blk_setCell a4 5 (.int .i64 r.s.b)
  have a6 := blk_setCell a5 6 (.int .i64 r.s.s)
  have a7 := blk_setCell a6 7 (.bool r.s.fresh)
  have a8 := blk_setCell a7 8 (.bool r.s.more)
  have a9 := blk_setCell a8 9 (.int .i64 r.s.x)
  have a10 := blk_setCell a9 10 (.int .i64 r.s.y)
  have a11 := blk_setCell a10 11 fv
  have a12 := blk_setCell a11 12 cv
  have a13 := blk_setCell a12 13 (.int .i64 r.tot)
  simp only [List.setIfInBounds_toArray, List.set_cons_zero, List.set_cons_succ] at a13
  have hg := grown_set (grown_set (grown_set (grown_set (grown_set (grown_set (grown_set (grown_set (grown_set (grown_set (grown_set (grown_set (grown_set (grown_set (World.grownBy.refl W (some d)) 0 (.int .i64 l.fr)) 1 (.int .i64 l.pn)) 2 (.int .i64 l.bl)) 3 (.int .i64 l.tp)) 4 (.int .i64 r.s.f)) 5 (.int .i64 r.s.b)) 6 (.int .i64 r.s.s)) 7 (.bool r.s.fresh)) 8 (.bool r.s.more)) 9 (.int .i64 r.s.x)) 10 (.int .i64 r.s.y)) 11 fv) 12 cv) 13 (.int .i64 r.tot)
  obtain ⟨h1, h2⟩ := hR
  have hbb := h.hb
  have hsz := hB.size
  refine ⟨by constructor <;> (rw [World.cell?, a13]; rfl), base, fv, cv, vs, by rw [h1, h2], ?_, by rw [← h1]; exact h.ln, by omega, ?_⟩
  · rw [← h1]
    exact h.ow.kept hg (fun k e => by cases e; omega)
  · exact (hB.trans (h.bl.mono (by omega))).grown hg (by have := h.sz; omega) (fun k e => by cases e; exact hd)

theorem ownsRow_shape {w : World} {base n : Nat} {e : TypeId} {v : Value} {xs : List Value} (h : w.ownsRow base e 1 v n xs) : ∃ a m c, v = .slice a m c := by
  obtain ⟨_, h2⟩ := h
  rcases h2 with ⟨h0, _⟩ | ⟨g, cap, cur, hv, _⟩
  · exact ⟨_, _, _, h0⟩
  · exact ⟨_, _, _, hv⟩

theorem RecI.shapes {w0 W : World} {B base b : Nat} {l : Lw} {r : Rc} {fv cv : Value} {vs : List Value} (h : RecI w0 W B base b l r fv cv vs) : (∃ a m c, fv = .slice a m c) ∧ ∃ a m c, cv = .slice a m c :=
  ⟨ownsRow_shape (h.ow.own (28, fv, vs) (by simp [items])), ownsRow_shape (h.ow.own (3, cv, r.cs.map (Value.int .i64)) (by simp [items]))⟩

set_option maxRecDepth 100000 in
set_option maxHeartbeats 4000000 in
theorem follow_at (l : Lw) (bs : List Int) (a : Option Addr) (c : Nat) (w : World) (ok : l.Ok) (hn : bs.length ≤ 40) (hs : BallsAt w a bs) (R : Rc × Nat) (hR : Hid (R = fol l (rec0 l) bs)) :
    Calls Tryd.prog 32 #[l.val, .slice a bs.length c] w fun e w' =>
      ∃ base fv cv vs, e = .returned (.tuple #[rval l R.1 fv cv, .int .i64 (R.2 : Int)]) ∧
        Owns w' base (items fv cv vs R.1.fs R.1.cs) ∧ vs.length = R.1.fs.length ∧ w.heap.size ≤ base ∧ Below w.heap.size w w' := by
  have hbeg := fun w => begin_any l w
  unfold Lw.val gval at *
  have HB := Lib.hid hbeg
  have HS := Lib.hid hs
  clear hbeg hs
  go_enter Tryd.func32, Tryd.ntmps32
  go_wp2_with fail
  obtain ⟨hz2, hB1, H81, hc0⟩ := fol_start w l
  generalize World.alloc (World.alloc w _) _ = w1 at hz2 hB1 H81 hc0 ⊢
  have k0 : w1.cell? ⟨w.heap.size, 0, none⟩ = some (.int .i64 l.fr) := by simp [World.cell?, hc0]
  have k1 : w1.cell? ⟨w.heap.size, 1, none⟩ = some (.int .i64 l.pn) := by simp [World.cell?, hc0]
  have k2 : w1.cell? ⟨w.heap.size, 2, none⟩ = some (.int .i64 l.bl) := by simp [World.cell?, hc0]
  have k3 : w1.cell? ⟨w.heap.size, 3, none⟩ = some (.int .i64 l.tp) := by simp [World.cell?, hc0]
  clear hc0
  go_step3
  go_wp2_with fail
  refine (HB.out _).mono ?_
  rintro e w2 ⟨rfl, hb2⟩
  have HB2 := Lib.hid hb2
  clear hb2 k0 k1 k2 k3 HB
  go_wp2_with fail
  have F0 := Lib.hid (fol_begin w2 l bs ok)
  have HBB := Lib.hid (HS.out.below hB1.out HB2.out)
  have hb81 : Hid (w2.heap[w.heap.size + 1]? = _) := Lib.hid ((HB2.out.block _ hz2.out).trans H81.out)
  have hz3 : Hid (w.heap.size + 1 < w2.heap.size) := Lib.hid (Nat.lt_of_lt_of_le hz2.out HB2.out.size)
  have hB2 : Hid (Below w.heap.size w w2) := Lib.hid (hB1.out.trans (HB2.out.mono hB1.out.size))
  rw [← hR.out] at F0
  clear hR
  generalize World.alloc w2 _ = w3 at F0 ⊢
  clear HS hz2 hB1 H81 HB2
  go_step3
  go_wp2_with fail
  go_loopg [8] (bs.length + 1) (fun k i wr => ∃ (n : Nat) (r : Rc), i = .int .i64 n ∧ k = bs.length + 1 - n ∧ Hid (FolI w2 wr w2.heap.size l bs R n r))
  case atStart => exact ⟨0, rec0 l, rfl, rfl, F0⟩
  case round =>
    obtain ⟨n, r, rfl, rfl, F⟩ := hrel
    obtain ⟨wo, rfl⟩ : ∃ wo : World, wo = wr := ⟨_, rfl⟩
    clear F0
    have hle : n ≤ bs.length := F.out.le
    go_wp2_with fail
    refine (fol_done F).mono ?_
    rintro e w4 ⟨rfl, F1⟩
    clear F
    by_cases hd : r.s.f = l.fr
    · have hend := Lib.hid (F1.out.done hd)
      have hfe : (r.s.f == l.fr) = true := by simpa using hd
      rw [hfe]
      obtain ⟨base, fv, cv, vs, hr⟩ := F1.out.rc
      obtain ⟨⟨fa, fm, fc, rfl⟩, ca, cm, cc, rfl⟩ := hr.shapes
      have HR := Lib.hid hr
      have hdd : w4.heap[w.heap.size + 1]? = _ := (hr.bl.block _ hz3.out).trans hb81.out
      obtain ⟨d0, d1, d2, d3, d4, d5, d6, d7, d8, d9, d10, d11, d12, d13, z0, z1, z2, z3, z4, z5, z6, z7, z8, z9, z10, z11, z12, z13⟩ := z14 hdd
      have c11 := hr.rb.c11
      have c12 := hr.rb.c12
      have c13 := hr.rb.c13
      obtain ⟨c0, c1, c2, c3, c4, c5, c6, c7, c8, c9, c10⟩ := hr.rb.at
      have hZZ := Lib.hid hdd
      clear hr hdd hle hd hfe
      go_wp2_with fail
      obtain ⟨hC, hP⟩ := fol_end (d := w.heap.size + 1) HR.out hend.out hB2.out (Nat.le_succ _) hz3.out rfl hZZ.out
      have HP := Lib.hid hP
      clear hP d0 d1 d2 d3 d4 d5 d6 d7 d8 d9 d10 d11 d12 d13 z0 z1 z2 z3 z4 z5 z6 z7 z8 z9 z10 z11 z12 z13 c0 c1 c2 c3 c4 c5 c6 c7 c8 c9 c10 c11 c12 c13
      generalize World.setCell _ _ _ = W9 at hC HP ⊢
      obtain ⟨c0, c1, c2, c3, c4, c5, c6, c7, c8, c9, c10, c11, c12, c13⟩ := hC
      rw [Exit.noGoto_ret]
      show bodyPost Tryd.prog Tryd.f32 _ Exit.ret _ _
      refine bodyPost_ret (v := .tuple #[rval l r (.slice fa fm fc) (.slice ca cm cc), .int .i64 (n : Int)]) (by simp [results, Tryd.results32, go_sem, rval, c0, c1, c2, c3, c4, c5, c6, c7, c8, c9, c10, c11, c12, c13]) rfl ?_
      exact HP.out
    · have hfe : (r.s.f == l.fr) = false := by simpa using hd
      rw [hfe]
      have c4 := F1.out.game.c4
      obtain ⟨f0, hf0⟩ : ∃ f0, Hid (f0 = r.s.f) := ⟨_, Lib.hid rfl⟩
      rw [← hf0.out] at c4
      go_wp2_with fail
      clear c4 hfe hd
      go_loopg [8] (bs.length + 1 - n) (fun k i wr => ∃ (m : Nat) (r : Rc), i = .int .i64 m ∧ k = bs.length + 1 - m ∧ Hid (FolI w2 wr w2.heap.size l bs R m r) ∧ Hid (n < m ∨ (m = n ∧ r.s.f = f0)))
      case atStart => exact ⟨n, r, rfl, rfl, F1, Lib.hid (.inr ⟨rfl, hf0.out.symm⟩)⟩
      case round =>
        obtain ⟨m, r1, rfl, rfl, G, hm⟩ := hrel
        obtain ⟨wi, rfl⟩ : ∃ wi : World, wi = wr := ⟨_, rfl⟩
        clear F1 hf0
        have hle1 : m ≤ bs.length := G.out.le
        have c4 := G.out.game.c4
        by_cases hf : r1.s.f = f0
        · have hfe : (r1.s.f == f0) = true := by simpa using hf
          clear hf
          by_cases hme : m = bs.length
          · have hE := Lib.hid (G.out.stop (fun k hk => by rw [hme] at hk; simp at hk))
            have hmb : ((m : Int) == (bs.length : Int)) = true := by simp [hme]
            obtain ⟨base, fv, cv, vs, hr⟩ := G.out.rc
            obtain ⟨⟨fa, fm, fc, rfl⟩, ca, cm, cc, rfl⟩ := hr.shapes
            have HR := Lib.hid hr
            have hdd : wi.heap[w.heap.size + 1]? = _ := (hr.bl.block _ hz3.out).trans hb81.out
            obtain ⟨d0, d1, d2, d3, d4, d5, d6, d7, d8, d9, d10, d11, d12, d13, z0, z1, z2, z3, z4, z5, z6, z7, z8, z9, z10, z11, z12, z13⟩ := z14 hdd
            have c11 := hr.rb.c11
            have c12 := hr.rb.c12
            have c13 := hr.rb.c13
            obtain ⟨c0, c1, c2, c3, c4, c5, c6, c7, c8, c9, c10⟩ := hr.rb.at
            have hZZ := Lib.hid hdd
            clear hr hdd hle hle1 hme
            go_wp2_with fail
            obtain ⟨hC, hP⟩ := fol_end (d := w.heap.size + 1) HR.out hE.out hB2.out (Nat.le_succ _) hz3.out rfl hZZ.out
            have HP := Lib.hid hP
            clear hP d0 d1 d2 d3 d4 d5 d6 d7 d8 d9 d10 d11 d12 d13 z0 z1 z2 z3 z4 z5 z6 z7 z8 z9 z10 z11 z12 z13 c0 c1 c2 c3 c4 c5 c6 c7 c8 c9 c10 c11 c12 c13
            generalize World.setCell _ _ _ = W9 at hC HP ⊢
            obtain ⟨c0, c1, c2, c3, c4, c5, c6, c7, c8, c9, c10, c11, c12, c13⟩ := hC
            rw [Exit.noGoto_ret]
            show bodyPost Tryd.prog Tryd.f32 _ Exit.ret _ _
            refine bodyPost_ret (v := .tuple #[rval l r1 (.slice fa fm fc) (.slice ca cm cc), .int .i64 (m : Int)]) (by simp [results, Tryd.results32, go_sem, rval, c0, c1, c2, c3, c4, c5, c6, c7, c8, c9, c10, c11, c12, c13]) rfl ?_
            exact HP.out
          · obtain ⟨k, hk⟩ : ∃ k, Hid (bs[m]? = some k) := ⟨bs[m]'(by omega), Lib.hid (List.getElem?_eq_getElem _)⟩
            obtain ⟨g, o, rfl, hc, hg⟩ := HBB.out m k hk.out
            have cB := G.out.ball hg hc
            have hmi : ¬ (m : Int) = (bs.length : Int) := by omega
            have hml : (m : Int) < (bs.length : Int) := by omega
            have hmb : ((m : Int) == (bs.length : Int)) = false := by simp; omega
            clear hc hg hme
            go_wp2_with fail
            refine (fol_takes k G).mono ?_
            rintro e w5 ⟨rfl, G2⟩
            clear G cB
            clear c4
            cases ht : okT l r1.s k
            · have hE := Lib.hid (G2.out.stop (fun k' hk' => by rw [hk.out] at hk'; cases hk'; exact ht))
              obtain ⟨base, fv, cv, vs, hr⟩ := G2.out.rc
              obtain ⟨⟨fa, fm, fc, rfl⟩, ca, cm, cc, rfl⟩ := hr.shapes
              have HR := Lib.hid hr
              have hdd : w5.heap[w.heap.size + 1]? = _ := (hr.bl.block _ hz3.out).trans hb81.out
              obtain ⟨d0, d1, d2, d3, d4, d5, d6, d7, d8, d9, d10, d11, d12, d13, z0, z1, z2, z3, z4, z5, z6, z7, z8, z9, z10, z11, z12, z13⟩ := z14 hdd
              have c11 := hr.rb.c11
              have c12 := hr.rb.c12
              have c13 := hr.rb.c13
              obtain ⟨c0, c1, c2, c3, c4, c5, c6, c7, c8, c9, c10⟩ := hr.rb.at
              have hZZ := Lib.hid hdd
              clear hr hdd hle hle1 hfe ht
              go_wp2_with fail
              obtain ⟨hC, hP⟩ := fol_end (d := w.heap.size + 1) HR.out hE.out hB2.out (Nat.le_succ _) hz3.out rfl hZZ.out
              have HP := Lib.hid hP
              clear hP d0 d1 d2 d3 d4 d5 d6 d7 d8 d9 d10 d11 d12 d13 z0 z1 z2 z3 z4 z5 z6 z7 z8 z9 z10 z11 z12 z13 c0 c1 c2 c3 c4 c5 c6 c7 c8 c9 c10 c11 c12 c13
              generalize World.setCell _ _ _ = W9 at hC HP ⊢
              obtain ⟨c0, c1, c2, c3, c4, c5, c6, c7, c8, c9, c10, c11, c12, c13⟩ := hC
              rw [Exit.noGoto_ret]
              show bodyPost Tryd.prog Tryd.f32 _ Exit.ret _ _
              refine bodyPost_ret (v := .tuple #[rval l r1 (.slice fa fm fc) (.slice ca cm cc), .int .i64 (m : Int)]) (by simp [results, Tryd.results32, go_sem, rval, c0, c1, c2, c3, c4, c5, c6, c7, c8, c9, c10, c11, c12, c13]) rfl ?_
              exact HP.out
            · have hT := Lib.hid ht
              obtain ⟨g', o', hgo, hc, hg⟩ := HBB.out m k hk.out
              cases hgo
              have cB := G2.out.ball hg hc
              clear hc hg ht
              go_wp2_with fail
              refine (fol_note ok hn G2 hk.out hT.out).mono ?_
              rintro e w6 ⟨rfl, G3⟩
              clear G2 cB
              have ew : IntKind.i64.wrap ((m : Int) + 1) = (m : Int) + 1 := IntWalk.i64_in _ (by omega)
              go_wp2_with fail
              go_roundg (bs.length + 1 - (m + 1))
              case measure => omega
              case rel => exact ⟨m + 1, _, by simp, rfl, G3, Lib.hid (.inl (by rcases hm.out with h | h; omega; omega))⟩
        · clear c4
          have c4 := G.out.game.c4
          have hfe : (r1.s.f == f0) = false := by simpa using hf
          go_wp2_with fail
          go_roundg (bs.length + 1 - m)
          case measure => rcases hm.out with h | h; omega; exact absurd h.2 hf
          case rel => exact ⟨m, r1, rfl, rfl, G⟩

theorem follow_any (l : Lw) (bs : List Int) (a : Option Addr) (c : Nat) (w : World) (ok : l.Ok) (hn : bs.length ≤ 40) (hs : BallsAt w a bs) :
    Calls Tryd.prog 32 #[l.val, .slice a bs.length c] w fun e w' =>
      ∃ base fv cv vs, e = .returned (.tuple #[rval l (fol l (rec0 l) bs).1 fv cv, .int .i64 ((fol l (rec0 l) bs).2 : Int)]) ∧
        Owns w' base (items fv cv vs (fol l (rec0 l) bs).1.fs (fol l (rec0 l) bs).1.cs) ∧ vs.length = (fol l (rec0 l) bs).1.fs.length ∧ w.heap.size ≤ base ∧ Below w.heap.size w w' :=
  follow_at l bs a c w ok hn hs _ (Lib.hid rfl)

end Go.Proofs.YtmjbidnlknmcgabDoor

namespace Go.Proofs.YtmjbidnlknmcgabDoor
open Go.RowKit

/-- The record that is returned with an error. -/
def zval : Value := .agg #[.int .i64 0, .int .i64 0, .int .i64 0, .int .i64 0, .int .i64 0, .int .i64 0, .int .i64 0, .bool false, .bool false, .int .i64 0, .int .i64 0, .slice none 0 0, .slice none 0 0, .int .i64 0]

/-- What is told of a world in which a block of zeros has been written zeros. -/
theorem zero_end {w W : World} {d : Nat} (hz : W.heap[d]? = some (.cells #[.int .i64 0, .int .i64 0, .int .i64 0, .int .i64 0, .int .i64 0, .int .i64 0, .int .i64 0, .bool false, .bool false, .int .i64 0, .int .i64 0, .slice none 0 0, .slice none 0 0, .int .i64 0] 74 (0, 0)))
    (hb : Below w.heap.size w W) (hd : w.heap.size ≤ d) :
    Z14 ((((((((((((((W.setCell ⟨d, 0, none⟩ (.int .i64 0)).setCell ⟨d, 1, none⟩ (.int .i64 0)).setCell ⟨d, 2, none⟩ (.int .i64 0)).setCell ⟨d, 3, none⟩ (.int .i64 0)).setCell ⟨d, 4, none⟩ (.int .i64 0)).setCell ⟨d, 5, none⟩ (.int .i64 0)).setCell ⟨d, 6, none⟩ (.int .i64 0)).setCell ⟨d, 7, none⟩ (.bool false)).setCell ⟨d, 8, none⟩ (.bool false)).setCell ⟨d, 9, none⟩ (.int .i64 0)).setCell ⟨d, 10, none⟩ (.int .i64 0)).setCell ⟨d, 11, none⟩ (.slice none 0 0)).setCell ⟨d, 12, none⟩ (.slice none 0 0)).setCell ⟨d, 13, none⟩ (.int .i64 0)) d ∧
    Below w.heap.size w ((((((((((((((W.setCell ⟨d, 0, none⟩ (.int .i64 0)).setCell ⟨d, 1, none⟩ (.int .i64 0)).setCell ⟨d, 2, none⟩ (.int .i64 0)).setCell ⟨d, 3, none⟩ (.int .i64 0)).setCell ⟨d, 4, none⟩ (.int .i64 0)).setCell ⟨d, 5, none⟩ (.int .i64 0)).setCell ⟨d, 6, none⟩ (.int .i64 0)).setCell ⟨d, 7, none⟩ (.bool false)).setCell ⟨d, 8, none⟩ (.bool false)).setCell ⟨d, 9, none⟩ (.int .i64 0)).setCell ⟨d, 10, none⟩ (.int .i64 0)).setCell ⟨d, 11, none⟩ (.slice none 0 0)).setCell ⟨d, 12, none⟩ (.slice none 0 0)).setCell ⟨d, 13, none⟩ (.int .i64 0)) := by
  have a0 := blk_setCell hz 0 (.int .i64 0)
  have a1 := blk_setCell a0 1 (.int .i64 0)
  have a2 := blk_setCell a1 2 (.int .i64 0)
  have a3 := blk_setCell a2 3 (.int .i64 0)
  have a4 := blk_setCell a3 4 (.int .i64 0)
  have a5 := blk_setCell a4 5 (.int .i64 0)
  have a6 := blk_setCell a5 6 (.int .i64 0)
  have a7 := blk_setCell a6 7 (.bool false)
  have a8 := blk_setCell a7 8 (.bool false)
  have a9 := blk_setCell a8 9 (.int .i64 0)
  have a10 := blk_setCell a9 10 (.int .i64 0)
  have a11 := blk_setCell a10 11 (.slice none 0 0)
  have a12 := blk_setCell a11 12 (.slice none 0 0)
  have a13 := blk_setCell a12 13 (.int .i64 0)
  simp only [List.setIfInBounds_toArray, List.set_cons_zero, List.set_cons_succ] at a13
  refine ⟨z14 a13, ?_⟩
  have g := grown_set (grown_set (grown_set (grown_set (grown_set (grown_set (grown_set (grown_set (grown_set (grown_set (grown_set (grown_set (grown_set (grown_set (World.grownBy.refl W (some d)) 0 (.int .i64 0)) 1 (.int .i64 0)) 2 (.int .i64 0)) 3 (.int .i64 0)) 4 (.int .i64 0)) 5 (.int .i64 0)) 6 (.int .i64 0)) 7 (.bool false)) 8 (.bool false)) 9 (.int .i64 0)) 10 (.int .i64 0)) 11 (.slice none 0 0)) 12 (.slice none 0 0)) 13 (.int .i64 0)
  exact hb.grown g hb.size (fun k e => by cases e; exact hd)

set_option maxRecDepth 100000 in
set_option maxHeartbeats 4000000 in
theorem read_err (l : Lw) (n : Nat) (a : Option Addr) (c : Nat) (w : World) (he : errS l n ≠ 0) :
    Calls Tryd.prog 28 #[l.val, .slice a n c] w fun e w' => e = .returned (.tuple #[zval, .int .i64 (errS l n)]) ∧ Below w.heap.size w w' := by
  have HC := Lib.hid (fun w => checkSheet_any l a n c w)
  unfold Lw.val at *
  have hne : (errS l n == 0) = false := by simpa using he
  obtain ⟨er, her⟩ : ∃ er, Hid (er = errS l n) := ⟨_, Lib.hid rfl⟩
  rw [← her.out] at hne HC ⊢
  clear he
  go_enter Tryd.func28, Tryd.ntmps28
  go_wp2_with fail
  obtain ⟨hz2, hB1, H81, hc0⟩ := fol_start w l
  generalize World.alloc (World.alloc w _) _ = w1 at hz2 hB1 H81 hc0 ⊢
  have k0 : w1.cell? ⟨w.heap.size, 0, none⟩ = some (.int .i64 l.fr) := by simp [World.cell?, hc0]
  have k1 : w1.cell? ⟨w.heap.size, 1, none⟩ = some (.int .i64 l.pn) := by simp [World.cell?, hc0]
  have k2 : w1.cell? ⟨w.heap.size, 2, none⟩ = some (.int .i64 l.bl) := by simp [World.cell?, hc0]
  have k3 : w1.cell? ⟨w.heap.size, 3, none⟩ = some (.int .i64 l.tp) := by simp [World.cell?, hc0]
  clear hc0
  go_wp2_with fail
  refine (HC.out _).mono ?_
  rintro e w2 ⟨rfl, hb2⟩
  have hdd : w2.heap[w.heap.size + 1]? = _ := (hb2.block _ hz2.out).trans H81.out
  have HB := Lib.hid (hB1.out.trans (hb2.mono hB1.out.size))
  have HZ := Lib.hid hdd
  obtain ⟨d0, d1, d2, d3, d4, d5, d6, d7, d8, d9, d10, d11, d12, d13, z0, z1, z2, z3, z4, z5, z6, z7, z8, z9, z10, z11, z12, z13⟩ := z14 hdd
  clear hb2 hdd k0 k1 k2 k3 HC
  go_wp2_with fail
  obtain ⟨hC, hP⟩ := zero_end (d := w.heap.size + 1) HZ.out HB.out (Nat.le_succ _)
  have HP := Lib.hid hP
  clear hP d0 d1 d2 d3 d4 d5 d6 d7 d8 d9 d10 d11 d12 d13 z0 z1 z2 z3 z4 z5 z6 z7 z8 z9 z10 z11 z12 z13
  generalize World.setCell _ _ _ = W9 at hC HP ⊢
  obtain ⟨c0, c1, c2, c3, c4, c5, c6, c7, c8, c9, c10, c11, c12, c13, _, _, _, _, _, _, _, _, _, _, _, _, _, _⟩ := hC
  refine bodyPost_ret (v := .tuple #[zval, .int .i64 er]) (by simp [results, Tryd.results28, go_sem, zval, c0, c1, c2, c3, c4, c5, c6, c7, c8, c9, c10, c11, c12, c13]) rfl ?_
  exact ⟨rfl, HP.out⟩

theorem set14 {W : World} {d : Nat} (l : Lw) (r : Rc) (fv cv : Value) (hz : W.heap[d]? = some (.cells #[.int .i64 0, .int .i64 0, .int .i64 0, .int .i64 0, .int .i64 0, .int .i64 0, .int .i64 0, .bool false, .bool false, .int .i64 0, .int .i64 0, .slice none 0 0, .slice none 0 0, .int .i64 0] 74 (0, 0))) :
    C14 ((((((((((((((W.setCell ⟨d, 0, none⟩ (.int .i64 l.fr)).setCell ⟨d, 1, none⟩ (.int .i64 l.pn)).setCell ⟨d, 2, none⟩ (.int .i64 l.bl)).setCell ⟨d, 3, none⟩ (.int .i64 l.tp)).setCell ⟨d, 4, none⟩ (.int .i64 r.s.f)).setCell ⟨d, 5, none⟩ (.int .i64 r.s.b)).setCell ⟨d, 6, none⟩ (.int .i64 r.s.s)).setCell ⟨d, 7, none⟩ (.bool r.s.fresh)).setCell ⟨d, 8, none⟩ (.bool r.s.more)).setCell ⟨d, 9, none⟩ (.int .i64 r.s.x)).setCell ⟨d, 10, none⟩ (.int .i64 r.s.y)).setCell ⟨d, 11, none⟩ fv).setCell ⟨d, 12, none⟩ cv).setCell ⟨d, 13, none⟩ (.int .i64 r.tot)) d l r fv cv ∧ W.grownBy ((((((((((((((W.setCell ⟨d, 0, none⟩ (.int .i64 l.fr)).setCell ⟨d, 1, none⟩ (.int .i64 l.pn)).setCell ⟨d, 2, none⟩ (.int .i64 l.bl)).setCell ⟨d, 3, none⟩ (.int .i64 l.tp)).setCell ⟨d, 4, none⟩ (.int .i64 r.s.f)).setCell ⟨d, 5, none⟩ (.int .i64 r.s.b)).setCell ⟨d, 6, none⟩ (.int .i64 r.s.s)).setCell ⟨d, 7, none⟩ (.bool r.s.fresh)).setCell ⟨d, 8, none⟩ (.bool r.s.more)).setCell ⟨d, 9, none⟩ (.int .i64 r.s.x)).setCell ⟨d, 10, none⟩ (.int .i64 r.s.y)).setCell ⟨d, 11, none⟩ fv).setCell ⟨d, 12, none⟩ cv).setCell ⟨d, 13, none⟩ (.int .i64 r.tot)) (some d) := by
  have a0 := blk_setCell hz 0 (.int .i64 l.fr)
  have a1 := blk_setCell a0 1 (.int .i64 l.pn)
  have a2 := blk_setCell a1 2 (.int .i64 l.bl)
  have a3 := blk_setCell a2 3 (.int .i64 l.tp)
  have a4 := blk_setCell a3 4 (.int .i64 r.s.f)
  have a5 := blk_setCell a4 5 (.int .i64 r.s.b)
  have a6 := blk_setCell a5 6 (.int .i64 r.s.s)
  have a7 := blk_setCell a6 7 (.bool r.s.fresh)
  have a8 := blk_setCell a7 8 (.bool r.s.more)
  have a9 := blk_setCell a8 9 (.int .i64 r.s.x)
  have a10 := blk_setCell a9 10 (.int .i64 r.s.y)
  have a11 := blk_setCell a10 11 fv
  have a12 := blk_setCell a11 12 cv
  have a13 := blk_setCell a12 13 (.int .i64 r.tot)
  simp only [List.setIfInBounds_toArray, List.set_cons_zero, List.set_cons_succ] at a13
  exact ⟨by constructor <;> (rw [World.cell?, a13]; rfl), grown_set (grown_set (grown_set (grown_set (grown_set (grown_set (grown_set (grown_set (grown_set (grown_set (grown_set (grown_set (grown_set (grown_set (World.grownBy.refl W (some d)) 0 (.int .i64 l.fr)) 1 (.int .i64 l.pn)) 2 (.int .i64 l.bl)) 3 (.int .i64 l.tp)) 4 (.int .i64 r.s.f)) 5 (.int .i64 r.s.b)) 6 (.int .i64 r.s.s)) 7 (.bool r.s.fresh)) 8 (.bool r.s.more)) 9 (.int .i64 r.s.x)) 10 (.int .i64 r.s.y)) 11 fv) 12 cv) 13 (.int .i64 r.tot)⟩

theorem rec_new (W : World) (l : Lw) (r : Rc) (fv cv : Value) : C14 (W.alloc (.cells #[.int .i64 l.fr, .int .i64 l.pn, .int .i64 l.bl, .int .i64 l.tp, .int .i64 r.s.f, .int .i64 r.s.b, .int .i64 r.s.s, .bool r.s.fresh, .bool r.s.more, .int .i64 r.s.x, .int .i64 r.s.y, fv, cv, .int .i64 r.tot] 74)) W.heap.size l r fv cv := by
  have h := heap_alloc_new W (.cells #[.int .i64 l.fr, .int .i64 l.pn, .int .i64 l.bl, .int .i64 l.tp, .int .i64 r.s.f, .int .i64 r.s.b, .int .i64 r.s.s, .bool r.s.fresh, .bool r.s.more, .int .i64 r.s.x, .int .i64 r.s.y, fv, cv, .int .i64 r.tot] 74)
  constructor <;> (rw [World.cell?, h]; rfl)

theorem BallsAt.after {w w' : World} {a : Option Addr} {bs : List Int} (h : BallsAt w a bs) (hb : Below w.heap.size w w') : BallsAt w' a bs := by
  intro i v hv
  obtain ⟨g, o, ha, hc⟩ := h i v hv
  exact ⟨g, o, ha, by rw [hb.cell (p := ⟨g, o + i, none⟩) (World.block_lt_of_cell? w _ hc)]; exact hc⟩

theorem errS_zero {l : Lw} {n : Nat} (h : errS l n = 0) : l.Ok ∧ n ≤ 40 := by
  unfold errS at h
  split at h
  · rename_i hb
    split at h
    · rename_i hn; exact ⟨(okB_iff l).1 hb, hn⟩
    · omega
  · omega

set_option maxRecDepth 100000 in
set_option maxHeartbeats 4000000 in
theorem read_ok (l : Lw) (bs : List Int) (a : Option Addr) (c : Nat) (w : World) (he : errS l bs.length = 0) (hs : BallsAt w a bs) (R : Rc × Nat) (hR : Hid (R = fol l (rec0 l) bs)) (hb : R.2 = bs.length) :
    Calls Tryd.prog 28 #[l.val, .slice a bs.length c] w fun e w' => ∃ base fv cv vs, e = .returned (.tuple #[rval l R.1 fv cv, .int .i64 0]) ∧
      Owns w' base (items fv cv vs R.1.fs R.1.cs) ∧ vs.length = R.1.fs.length ∧ w.heap.size ≤ base ∧ Below w.heap.size w w' := by
  have HC := Lib.hid (fun w => checkSheet_any l a bs.length c w)
  have HF := Lib.hid (fun w h => follow_at l bs a c w (errS_zero he).1 (errS_zero he).2 h R hR)
  have HS := Lib.hid hs
  unfold Lw.val at *
  rw [he] at HC
  clear he hR hs
  go_enter Tryd.func28, Tryd.ntmps28
  go_wp2_with fail
  obtain ⟨hz2, hB1, H81, hc0⟩ := fol_start w l
  generalize World.alloc (World.alloc w _) _ = w1 at hz2 hB1 H81 hc0 ⊢
  have H28 := Lib.hid hc0
  have k0 : w1.cell? ⟨w.heap.size, 0, none⟩ = some (.int .i64 l.fr) := by simp [World.cell?, hc0]
  have k1 : w1.cell? ⟨w.heap.size, 1, none⟩ = some (.int .i64 l.pn) := by simp [World.cell?, hc0]
  have k2 : w1.cell? ⟨w.heap.size, 2, none⟩ = some (.int .i64 l.bl) := by simp [World.cell?, hc0]
  have k3 : w1.cell? ⟨w.heap.size, 3, none⟩ = some (.int .i64 l.tp) := by simp [World.cell?, hc0]
  clear hc0
  go_wp2_with fail
  refine (HC.out _).mono ?_
  rintro e w2 ⟨rfl, hb2⟩
  have hdd : w2.heap[w.heap.size + 1]? = _ := (hb2.block _ hz2.out).trans H81.out
  have hd8 : w2.heap[w.heap.size]? = _ := (hb2.block _ (by have := hz2.out; omega)).trans H28.out
  have HB := Lib.hid (hB1.out.trans (hb2.mono hB1.out.size))
  have HZ := Lib.hid hdd
  have HD : Hid (w.heap.size + 1 < w2.heap.size) := Lib.hid (lt_of_block hdd)
  clear k0 k1 k2 k3 HC hb2 hdd H81 H28
  have k0 : w2.cell? ⟨w.heap.size, 0, none⟩ = some (.int .i64 l.fr) := by simp [World.cell?, hd8]
  have k1 : w2.cell? ⟨w.heap.size, 1, none⟩ = some (.int .i64 l.pn) := by simp [World.cell?, hd8]
  have k2 : w2.cell? ⟨w.heap.size, 2, none⟩ = some (.int .i64 l.bl) := by simp [World.cell?, hd8]
  have k3 : w2.cell? ⟨w.heap.size, 3, none⟩ = some (.int .i64 l.tp) := by simp [World.cell?, hd8]
  clear hd8
  go_wp2_with fail
  refine (HF.out _ (HS.out.after HB.out)).mono ?_
  rintro e w3 ⟨base, fv, cv, vs, rfl, how, hln, hbase, hb3⟩
  obtain ⟨fa, fm, fc, rfl⟩ := ownsRow_shape (how.own (28, fv, vs) (by simp [items]))
  obtain ⟨ca, cm, cc, rfl⟩ := ownsRow_shape (how.own (3, cv, R.1.cs.map (Value.int .i64)) (by simp [items]))
  have HO := Lib.hid how
  have HLN := Lib.hid hln
  have HBA := Lib.hid hbase
  have HZ3 := Lib.hid ((hb3.block _ HD.out).trans HZ.out)
  have HB3 := Lib.hid (HB.out.trans (hb3.mono HB.out.size))
  have HD3 : Hid (w.heap.size + 1 < w3.heap.size) := Lib.hid (Nat.lt_of_lt_of_le HD.out hb3.size)
  clear how hln hbase hb3 k0 k1 k2 k3 HF HS HB HZ hB1 hz2
  unfold rval
  have hlt : ¬ (R.2 : Int) < (bs.length : Int) := by omega
  clear hb
  have HZ4 := Lib.hid ((Below.heap_alloc w3 (.cells #[.int .i64 l.fr, .int .i64 l.pn, .int .i64 l.bl, .int .i64 l.tp, .int .i64 R.1.s.f, .int .i64 R.1.s.b, .int .i64 R.1.s.s, .bool R.1.s.fresh, .bool R.1.s.more, .int .i64 R.1.s.x, .int .i64 R.1.s.y, .slice fa fm fc, .slice ca cm cc, .int .i64 R.1.tot] 74) _ HD3.out).trans HZ3.out)
  have hr3 := rec_new w3 l R.1 (.slice fa fm fc) (.slice ca cm cc)
  obtain ⟨d0, d1, d2, d3, d4, d5, d6, d7, d8, d9, d10, d11, d12, d13, z0, z1, z2, z3, z4, z5, z6, z7, z8, z9, z10, z11, z12, z13⟩ := z14 HZ4.out
  obtain ⟨c0, c1, c2, c3, c4, c5, c6, c7, c8, c9, c10, c11, c12, c13⟩ := hr3
  go_wp2_with fail
  obtain ⟨hC, hG⟩ := set14 l R.1 (.slice fa fm fc) (.slice ca cm cc) HZ4.out
  have HG := Lib.hid hG
  clear hG d0 d1 d2 d3 d4 d5 d6 d7 d8 d9 d10 d11 d12 d13 z0 z1 z2 z3 z4 z5 z6 z7 z8 z9 z10 z11 z12 z13 c0 c1 c2 c3 c4 c5 c6 c7 c8 c9 c10 c11 c12 c13
  generalize World.setCell _ _ _ = W9 at hC HG ⊢
  obtain ⟨c0, c1, c2, c3, c4, c5, c6, c7, c8, c9, c10, c11, c12, c13⟩ := hC
  refine bodyPost_ret (v := .tuple #[rval l R.1 (.slice fa fm fc) (.slice ca cm cc), .int .i64 0]) (by simp [results, Tryd.results28, go_sem, rval, c0, c1, c2, c3, c4, c5, c6, c7, c8, c9, c10, c11, c12, c13]) rfl ?_
  have hD := HD.out
  have hBA := HBA.out
  have hs3 := HB3.out.size
  refine ⟨base, _, _, vs, rfl, ?_, HLN.out, by omega, ?_⟩
  · exact (HO.out.kept (World.grownBy_alloc w3 _ none) (fun k e => by cases e)).kept HG.out (fun k e => by cases e; omega)
  · exact (HB3.out.alloc hs3 _).grown HG.out (by simp; omega) (fun k e => by cases e; omega)

set_option maxRecDepth 100000 in
set_option maxHeartbeats 4000000 in
theorem read_law (l : Lw) (bs : List Int) (a : Option Addr) (c : Nat) (w : World) (he : errS l bs.length = 0) (hs : BallsAt w a bs) (R : Rc × Nat) (hR : Hid (R = fol l (rec0 l) bs)) (hb : R.2 < bs.length) :
    Calls Tryd.prog 28 #[l.val, .slice a bs.length c] w fun e w' => e = .returned (.tuple #[zval, .int .i64 10]) ∧ Below w.heap.size w w' := by
  have HC := Lib.hid (fun w => checkSheet_any l a bs.length c w)
  have HF := Lib.hid (fun w h => follow_at l bs a c w (errS_zero he).1 (errS_zero he).2 h R hR)
  have HS := Lib.hid hs
  unfold Lw.val at *
  rw [he] at HC
  clear he hR hs
  go_enter Tryd.func28, Tryd.ntmps28
  go_wp2_with fail
  obtain ⟨hz2, hB1, H81, hc0⟩ := fol_start w l
  generalize World.alloc (World.alloc w _) _ = w1 at hz2 hB1 H81 hc0 ⊢
  have H28 := Lib.hid hc0
  have k0 : w1.cell? ⟨w.heap.size, 0, none⟩ = some (.int .i64 l.fr) := by simp [World.cell?, hc0]
  have k1 : w1.cell? ⟨w.heap.size, 1, none⟩ = some (.int .i64 l.pn) := by simp [World.cell?, hc0]
  have k2 : w1.cell? ⟨w.heap.size, 2, none⟩ = some (.int .i64 l.bl) := by simp [World.cell?, hc0]
  have k3 : w1.cell? ⟨w.heap.size, 3, none⟩ = some (.int .i64 l.tp) := by simp [World.cell?, hc0]
  clear hc0
  go_wp2_with fail
  refine (HC.out _).mono ?_
  rintro e w2 ⟨rfl, hb2⟩
  have hdd : w2.heap[w.heap.size + 1]? = _ := (hb2.block _ hz2.out).trans H81.out
  have hd8 : w2.heap[w.heap.size]? = _ := (hb2.block _ (by have := hz2.out; omega)).trans H28.out
  have HB := Lib.hid (hB1.out.trans (hb2.mono hB1.out.size))
  have HZ := Lib.hid hdd
  have HD : Hid (w.heap.size + 1 < w2.heap.size) := Lib.hid (lt_of_block hdd)
  clear k0 k1 k2 k3 HC hb2 hdd H81 H28
  have k0 : w2.cell? ⟨w.heap.size, 0, none⟩ = some (.int .i64 l.fr) := by simp [World.cell?, hd8]
  have k1 : w2.cell? ⟨w.heap.size, 1, none⟩ = some (.int .i64 l.pn) := by simp [World.cell?, hd8]
  have k2 : w2.cell? ⟨w.heap.size, 2, none⟩ = some (.int .i64 l.bl) := by simp [World.cell?, hd8]
  have k3 : w2.cell? ⟨w.heap.size, 3, none⟩ = some (.int .i64 l.tp) := by simp [World.cell?, hd8]
  clear hd8
  go_wp2_with fail
  refine (HF.out _ (HS.out.after HB.out)).mono ?_
  rintro e w3 ⟨base, fv, cv, vs, rfl, how, hln, hbase, hb3⟩
  obtain ⟨fa, fm, fc, rfl⟩ := ownsRow_shape (how.own (28, fv, vs) (by simp [items]))
  obtain ⟨ca, cm, cc, rfl⟩ := ownsRow_shape (how.own (3, cv, R.1.cs.map (Value.int .i64)) (by simp [items]))
  have HO := Lib.hid how
  have HLN := Lib.hid hln
  have HBA := Lib.hid hbase
  have HZ3 := Lib.hid ((hb3.block _ HD.out).trans HZ.out)
  have HB3 := Lib.hid (HB.out.trans (hb3.mono HB.out.size))
  have HD3 : Hid (w.heap.size + 1 < w3.heap.size) := Lib.hid (Nat.lt_of_lt_of_le HD.out hb3.size)
  clear how hln hbase hb3 k0 k1 k2 k3 HF HS HB HZ hB1 hz2
  unfold rval
  have hlt : (R.2 : Int) < (bs.length : Int) := by omega
  clear hb
  have HZ4 := Lib.hid ((Below.heap_alloc w3 (.cells #[.int .i64 l.fr, .int .i64 l.pn, .int .i64 l.bl, .int .i64 l.tp, .int .i64 R.1.s.f, .int .i64 R.1.s.b, .int .i64 R.1.s.s, .bool R.1.s.fresh, .bool R.1.s.more, .int .i64 R.1.s.x, .int .i64 R.1.s.y, .slice fa fm fc, .slice ca cm cc, .int .i64 R.1.tot] 74) _ HD3.out).trans HZ3.out)
  have hr3 := rec_new w3 l R.1 (.slice fa fm fc) (.slice ca cm cc)
  obtain ⟨d0, d1, d2, d3, d4, d5, d6, d7, d8, d9, d10, d11, d12, d13, z0, z1, z2, z3, z4, z5, z6, z7, z8, z9, z10, z11, z12, z13⟩ := z14 HZ4.out
  obtain ⟨c0, c1, c2, c3, c4, c5, c6, c7, c8, c9, c10, c11, c12, c13⟩ := hr3
  go_wp2_with fail
  obtain ⟨hC, hP⟩ := zero_end (d := w.heap.size + 1) HZ4.out (HB3.out.alloc HB3.out.size _) (Nat.le_succ _)
  have HP := Lib.hid hP
  clear hP d0 d1 d2 d3 d4 d5 d6 d7 d8 d9 d10 d11 d12 d13 z0 z1 z2 z3 z4 z5 z6 z7 z8 z9 z10 z11 z12 z13
  clear c0 c1 c2 c3 c4 c5 c6 c7 c8 c9 c10 c11 c12 c13
  generalize World.setCell _ _ _ = W9 at hC HP ⊢
  obtain ⟨c0, c1, c2, c3, c4, c5, c6, c7, c8, c9, c10, c11, c12, c13, _, _, _, _, _, _, _, _, _, _, _, _, _, _⟩ := hC
  refine bodyPost_ret (v := .tuple #[zval, .int .i64 10]) (by simp [results, Tryd.results28, go_sem, zval, c0, c1, c2, c3, c4, c5, c6, c7, c8, c9, c10, c11, c12, c13]) rfl ?_
  exact ⟨rfl, HP.out⟩

end Go.Proofs.YtmjbidnlknmcgabDoor

namespace Go.Proofs.YtmjbidnlknmcgabDoor
open Go.RowKit

theorem law_start (w : World) (l : Lw) :
    Hid (w.heap.size < (w.alloc (.cells #[.int .i64 l.fr, .int .i64 l.pn, .int .i64 l.bl, .int .i64 l.tp] 34)).heap.size) ∧
      Hid (Below w.heap.size w (w.alloc (.cells #[.int .i64 l.fr, .int .i64 l.pn, .int .i64 l.bl, .int .i64 l.tp] 34))) ∧
      (w.alloc (.cells #[.int .i64 l.fr, .int .i64 l.pn, .int .i64 l.bl, .int .i64 l.tp] 34)).heap[w.heap.size]? = some (.cells #[.int .i64 l.fr, .int .i64 l.pn, .int .i64 l.bl, .int .i64 l.tp] 34 (0, 0)) :=
  ⟨Lib.hid (by simp), Lib.hid ((Below.refl _ _).alloc (Nat.le_refl _) _), heap_alloc_new w _⟩

set_option maxRecDepth 100000 in
set_option maxHeartbeats 4000000 in
theorem bad_err (l : Lw) (n : Nat) (a : Option Addr) (c : Nat) (w : World) (he : errS l n ≠ 0) :
    Calls Tryd.prog 15 #[l.val, .slice a n c] w fun e w' => e = .returned (.tuple #[.int .i64 0, .int .i64 (errS l n)]) ∧ Below w.heap.size w w' := by
  have HC := Lib.hid (fun w => checkSheet_any l a n c w)
  unfold Lw.val at *
  have hne : (errS l n == 0) = false := by simpa using he
  obtain ⟨er, her⟩ : ∃ er, Hid (er = errS l n) := ⟨_, Lib.hid rfl⟩
  rw [← her.out] at hne HC ⊢
  clear he
  go_enter Tryd.func15, Tryd.ntmps15
  go_wp2_with fail
  obtain ⟨hz2, hB1, hc0⟩ := law_start w l
  generalize World.alloc w _ = w1 at hz2 hB1 hc0 ⊢
  have k0 : w1.cell? ⟨w.heap.size, 0, none⟩ = some (.int .i64 l.fr) := by simp [World.cell?, hc0]
  have k1 : w1.cell? ⟨w.heap.size, 1, none⟩ = some (.int .i64 l.pn) := by simp [World.cell?, hc0]
  have k2 : w1.cell? ⟨w.heap.size, 2, none⟩ = some (.int .i64 l.bl) := by simp [World.cell?, hc0]
  have k3 : w1.cell? ⟨w.heap.size, 3, none⟩ = some (.int .i64 l.tp) := by simp [World.cell?, hc0]
  clear hc0
  go_wp2_with fail
  refine (HC.out _).mono ?_
  rintro e w2 ⟨rfl, hb2⟩
  have HB := Lib.hid (hB1.out.trans (hb2.mono hB1.out.size))
  clear hb2 k0 k1 k2 k3 HC
  go_wp2_with fail
  go_returns
  exact ⟨rfl, HB.out⟩

/-- What is answered of the bad ball, and the error. -/
def badV (R : Rc × Nat) (n : Nat) : Int := if R.2 = n then 0 else R.2
def badE (R : Rc × Nat) (n : Nat) : Int := if R.2 = n then 7 else 0

set_option maxRecDepth 100000 in
set_option maxHeartbeats 4000000 in
theorem bad_fol (l : Lw) (bs : List Int) (a : Option Addr) (c : Nat) (w : World) (he : errS l bs.length = 0) (hs : BallsAt w a bs) (R : Rc × Nat) (hR : Hid (R = fol l (rec0 l) bs)) :
    Calls Tryd.prog 15 #[l.val, .slice a bs.length c] w fun e w' => e = .returned (.tuple #[.int .i64 (badV R bs.length), .int .i64 (badE R bs.length)]) ∧ Below w.heap.size w w' := by
  have HC := Lib.hid (fun w => checkSheet_any l a bs.length c w)
  have HF := Lib.hid (fun w h => follow_at l bs a c w (errS_zero he).1 (errS_zero he).2 h R hR)
  have HS := Lib.hid hs
  unfold Lw.val at *
  rw [he] at HC
  clear he hR hs
  go_enter Tryd.func15, Tryd.ntmps15
  go_wp2_with fail
  obtain ⟨hz2, hB1, hc0⟩ := law_start w l
  generalize World.alloc w _ = w1 at hz2 hB1 hc0 ⊢
  have H28 := Lib.hid hc0
  have k0 : w1.cell? ⟨w.heap.size, 0, none⟩ = some (.int .i64 l.fr) := by simp [World.cell?, hc0]
  have k1 : w1.cell? ⟨w.heap.size, 1, none⟩ = some (.int .i64 l.pn) := by simp [World.cell?, hc0]
  have k2 : w1.cell? ⟨w.heap.size, 2, none⟩ = some (.int .i64 l.bl) := by simp [World.cell?, hc0]
  have k3 : w1.cell? ⟨w.heap.size, 3, none⟩ = some (.int .i64 l.tp) := by simp [World.cell?, hc0]
  clear hc0
  go_wp2_with fail
  refine (HC.out _).mono ?_
  rintro e w2 ⟨rfl, hb2⟩
  have hd8 : w2.heap[w.heap.size]? = _ := (hb2.block _ hz2.out).trans H28.out
  have HB := Lib.hid (hB1.out.trans (hb2.mono hB1.out.size))
  clear k0 k1 k2 k3 HC hb2 H28
  have k0 : w2.cell? ⟨w.heap.size, 0, none⟩ = some (.int .i64 l.fr) := by simp [World.cell?, hd8]
  have k1 : w2.cell? ⟨w.heap.size, 1, none⟩ = some (.int .i64 l.pn) := by simp [World.cell?, hd8]
  have k2 : w2.cell? ⟨w.heap.size, 2, none⟩ = some (.int .i64 l.bl) := by simp [World.cell?, hd8]
  have k3 : w2.cell? ⟨w.heap.size, 3, none⟩ = some (.int .i64 l.tp) := by simp [World.cell?, hd8]
  clear hd8
  go_wp2_with fail
  refine (HF.out _ (HS.out.after HB.out)).mono ?_
  rintro e w3 ⟨base, fv, cv, vs, rfl, how, hln, hbase, hb3⟩
  obtain ⟨fa, fm, fc, rfl⟩ := ownsRow_shape (how.own (28, fv, vs) (by simp [items]))
  obtain ⟨ca, cm, cc, rfl⟩ := ownsRow_shape (how.own (3, cv, R.1.cs.map (Value.int .i64)) (by simp [items]))
  have HB3 := Lib.hid (HB.out.trans (hb3.mono HB.out.size))
  clear how hln hbase hb3 k0 k1 k2 k3 HF HS HB hB1 hz2
  unfold rval
  by_cases hb : R.2 = bs.length
  · have hbb : ((R.2 : Int) == (bs.length : Int)) = true := by simp [hb]
    have hv := Lib.hid (show badV R bs.length = 0 from if_pos hb)
    have hv2 := Lib.hid (show badE R bs.length = 7 from if_pos hb)
    clear hb
    go_wp2_with fail
    go_returns
    exact ⟨by rw [hv.out, hv2.out]; first | done | rfl, HB3.out.alloc HB3.out.size _⟩
  · have hbb : ((R.2 : Int) == (bs.length : Int)) = false := by simpa using fun h => hb (by omega)
    have hv := Lib.hid (show badV R bs.length = R.2 from if_neg hb)
    have hv2 := Lib.hid (show badE R bs.length = 0 from if_neg hb)
    clear hb
    go_wp2_with fail
    go_returns
    exact ⟨by rw [hv.out, hv2.out]; first | done | rfl, HB3.out.alloc HB3.out.size _⟩

end Go.Proofs.YtmjbidnlknmcgabDoor

namespace Go.Proofs.YtmjbidnlknmcgabDoor
open Go.RowKit

theorem fol_le (l : Lw) : ∀ (bs : List Int) (r : Rc), (fol l r bs).2 ≤ bs.length
  | [], _ => by simp [fol]
  | k :: ks, r => by
    rw [fol]
    split
    · have := fol_le l ks (noteR l r k); simp; omega
    · simp

theorem fol_rcw {l : Lw} (ok : l.Ok) : ∀ (bs : List Int) (r : Rc) (i : Nat), RcW l r i → RcW l (fol l r bs).1 (i + (fol l r bs).2)
  | [], r, i, h => by simpa [fol] using h
  | k :: ks, r, i, h => by
    rw [fol]
    split
    · rename_i ht
      have := fol_rcw ok ks (noteR l r k) (i + 1) (h.note ok ht)
      rw [show i + 1 + (fol l (noteR l r k) ks).2 = i + ((fol l (noteR l r k) ks).2 + 1) from by omega] at this
      exact this
    · simpa using h

theorem rec0_rcw {l : Lw} (ok : l.Ok) : RcW l (rec0 l) 0 :=
  ⟨beg_vd l ok, by simp [rec0], by simp [rec0], rfl, by simp [rec0], by simp [rec0, begS]⟩

/-- How much can have been counted. -/
structure Tb (l : Lw) (r : Rc) : Prop where
  b0 : r.s.b = 0 → r.tot + 10 * r.s.x + 10 * r.s.y ≤ 30 * r.s.f
  b1 : r.s.b = 1 → r.s.y = 0 ∧ r.s.x ≤ 1
  b2 : 2 ≤ r.s.b → r.s.y = 0 ∧ r.s.x = 0
  last : 1 ≤ r.s.b → r.s.f = l.fr - 1 → r.tot + 10 * r.s.x + 10 * (3 - r.s.b) ≤ 30 * (r.s.f + 1)
  mid : 1 ≤ r.s.b → r.s.f ≠ l.fr - 1 → r.tot + 10 * r.s.x + r.s.s + 20 ≤ 30 * (r.s.f + 1)

theorem Tb.note {l : Lw} {r : Rc} {i : Nat} {k : Int} (h : Tb l r) (hw : RcW l r i) (ok : l.Ok) (ht : okT l r.s k = true) : Tb l (noteR l r k) := by
  obtain ⟨hf, hk1, hk2⟩ := okT_out ht
  have v := hw.vd
  have hlt : r.s.f < l.fr := by have := v.f2; omega
  have hc := cnt_le ok v hk1 hk2
  have hb' := hw.vd.b2
  have hbl := v.bl hlt
  obtain ⟨f1, f2, b1, b2, s1, s2, x1, x2, y1, y2, fresh, _⟩ := v
  obtain ⟨of1, of2, p1, p2, hb, t1, t2⟩ := ok
  obtain ⟨h0, h1, h2, h3, h4⟩ := h
  have ht1 := hw.t1
  obtain ⟨c, hcc⟩ : ∃ c, c = cnt l r.s k := ⟨_, rfl⟩
  rw [← hcc] at hc
  have hx : c * (1 + r.s.x) ≤ c + 10 * r.s.x := by
    have : c * r.s.x ≤ 10 * r.s.x := Int.mul_le_mul_of_nonneg_right (by omega) x1
    have e : c * (1 + r.s.x) = c + c * r.s.x := by rw [Int.mul_add, Int.mul_one]
    omega
  unfold noteR
  rw [← hcc]
  generalize hS : behS l r.s k = S
  unfold behS finS midS thrS at hS
  rw [← hcc] at hS
  clear hcc ht hk1 hk2
  generalize c * (1 + r.s.x) = m at hx
  clear hw
  obtain ⟨s, fs, cs, tot⟩ := r
  obtain ⟨f, b, ss, fr, mo, x, y⟩ := s
  obtain ⟨F, P, B, T⟩ := l
  unfold allS endS nextS setS at hS
  simp only at *
  by_cases hl : f = F - 1
  · by_cases hz : ss - c = 0
    · cases mo
      · by_cases hb3 : b + 1 < 3
        · simp only [hz, hl, hb3, decide_true, Bool.or_true, if_true] at hS
          by_cases he : b + 1 = 3
          · omega
          · have e3 : (b + 1 == 3) = false := by simpa using he
            simp only [e3, if_false, Bool.false_eq_true] at hS
            subst hS; constructor <;> simp <;> omega
        · simp only [hz, hl, hb3, decide_false, Bool.or_false, Bool.false_eq_true, if_false, if_true] at hS
          have e0 : b + 1 = B := by have := hbl (by simp); omega
          have e : (b + 1 == B) = true := by simpa using e0
          simp only [e, if_true] at hS
          rw [if_pos (by omega)] at hS
          subst hS; constructor <;> simp <;> omega
      · simp only [hz, hl, Bool.true_or, if_true] at hS
        by_cases he : b + 1 = 3
        · have e3 : (b + 1 == 3) = true := by simpa using he
          simp only [e3, if_true] at hS
          rw [if_pos (by omega)] at hS
          subst hS; constructor <;> simp <;> omega
        · have e3 : (b + 1 == 3) = false := by simpa using he
          simp only [e3, if_false, Bool.false_eq_true] at hS
          subst hS; constructor <;> simp <;> omega
    · cases mo
      · simp only [hz, hl, Bool.false_eq_true, if_false, if_true] at hS
        have hbl := hbl (by simp)
        by_cases he : b + 1 = B
        · have e3 : (b + 1 == B) = true := by simpa using he
          simp only [e3, if_true] at hS
          rw [if_pos (by omega)] at hS
          subst hS; constructor <;> simp <;> omega
        · have e3 : (b + 1 == B) = false := by simpa using he
          simp only [e3, if_false, Bool.false_eq_true] at hS
          subst hS; constructor <;> simp <;> omega
      · simp only [hz, hl, if_true, if_false] at hS
        by_cases he : b + 1 = 3
        · have e3 : (b + 1 == 3) = true := by simpa using he
          simp only [e3, if_true] at hS
          rw [if_pos (by omega)] at hS
          subst hS; constructor <;> simp <;> omega
        · have e3 : (b + 1 == 3) = false := by simpa using he
          simp only [e3, if_false, Bool.false_eq_true] at hS
          subst hS; constructor <;> simp <;> omega
  · have hbl := hbl (fun h => hl h.1)
    by_cases hz : ss - c = 0
    · simp only [hz, hl, if_true, if_false, beq_self_eq_true, Bool.true_or] at hS
      by_cases hn : f + 1 = F
      · omega
      · simp only [hn, if_false] at hS
        by_cases hx2 : b + 1 ≤ 2
        · by_cases hx1 : b + 1 ≤ 1
          · simp only [hx2, hx1, if_true] at hS
            subst hS; constructor <;> simp <;> omega
          · simp only [hx2, hx1, if_true, if_false] at hS
            subst hS; constructor <;> simp <;> omega
        · have hx1 : ¬ b + 1 ≤ 1 := by omega
          simp only [hx2, hx1, if_false] at hS
          subst hS; constructor <;> simp <;> omega
    · have e0 : (ss - c == 0) = false := by simpa using hz
      simp only [hz, hl, if_false, e0, Bool.false_or] at hS
      by_cases he : b + 1 = B
      · have e3 : (b + 1 == B) = true := by simpa using he
        simp only [e3, if_true] at hS
        rw [if_neg (by omega)] at hS
        subst hS; constructor <;> simp <;> omega
      · have e3 : (b + 1 == B) = false := by simpa using he
        simp only [e3, if_false, Bool.false_eq_true] at hS
        subst hS; constructor <;> simp <;> omega

theorem rec0_tb (l : Lw) : Tb l (rec0 l) := by
  constructor <;> simp [rec0, begS]

theorem fol_tb {l : Lw} (ok : l.Ok) : ∀ (bs : List Int) (r : Rc) (i : Nat), RcW l r i → Tb l r → Tb l (fol l r bs).1
  | [], r, i, _, h => by simpa [fol] using h
  | k :: ks, r, i, hw, h => by
    rw [fol]
    split
    · rename_i ht
      exact fol_tb ok ks (noteR l r k) (i + 1) (hw.note ok ht) (h.note hw ok ht)
    · simpa using h

theorem tot_le {l : Lw} {r : Rc} {i : Nat} (h : Tb l r) (hw : RcW l r i) (ok : l.Ok) : r.tot ≤ 310 := by
  obtain ⟨h0, h1, h2, h3, h4⟩ := h
  have v := hw.vd
  have a1 := v.f2
  have a2 := v.b1
  have a3 := v.b2
  have a4 := v.x1
  have a5 := v.y1
  have a6 := v.s1
  have a7 := ok.f2
  by_cases hb : r.s.b = 0
  · have := h0 hb; omega
  · by_cases hl : r.s.f = l.fr - 1
    · have := h3 (by omega) hl; omega
    · have := h4 (by omega) hl; omega

/-- The record of a sheet, and the error of its reading. -/
def recS (l : Lw) (bs : List Int) : Rc := (fol l (rec0 l) bs).1
def rdE (l : Lw) (bs : List Int) : Int := if errS l bs.length ≠ 0 then errS l bs.length else if (fol l (rec0 l) bs).2 < bs.length then 10 else 0

theorem read_bad (l : Lw) (bs : List Int) (a : Option Addr) (c : Nat) (w : World) (hs : BallsAt w a bs) (h : rdE l bs ≠ 0) :
    Calls Tryd.prog 28 #[l.val, .slice a bs.length c] w fun e w' => e = .returned (.tuple #[zval, .int .i64 (rdE l bs)]) ∧ Below w.heap.size w w' := by
  by_cases he : errS l bs.length ≠ 0
  · rw [show rdE l bs = errS l bs.length from if_pos he]
    exact read_err l bs.length a c w he
  · have he0 : errS l bs.length = 0 := by simpa using he
    by_cases hb : (fol l (rec0 l) bs).2 < bs.length
    · rw [show rdE l bs = 10 from by unfold rdE; rw [if_neg he, if_pos hb]]
      exact read_law l bs a c w he0 hs _ (Lib.hid rfl) hb
    · exact absurd (show rdE l bs = 0 from by unfold rdE; rw [if_neg he, if_neg hb]) h

theorem rdE_zero {l : Lw} {bs : List Int} (h : rdE l bs = 0) : errS l bs.length = 0 ∧ (fol l (rec0 l) bs).2 = bs.length := by
  unfold rdE at h
  split at h
  · rename_i h1; exact absurd h h1
  · rename_i h1
    split at h
    · cases h
    · have := fol_le l bs (rec0 l); exact ⟨by simpa using h1, by omega⟩

theorem read_good (l : Lw) (bs : List Int) (a : Option Addr) (c : Nat) (w : World) (hs : BallsAt w a bs) (h : rdE l bs = 0) :
    Calls Tryd.prog 28 #[l.val, .slice a bs.length c] w fun e w' => ∃ base fv cv vs, e = .returned (.tuple #[rval l (recS l bs) fv cv, .int .i64 0]) ∧
      Owns w' base (items fv cv vs (recS l bs).fs (recS l bs).cs) ∧ vs.length = (recS l bs).fs.length ∧ w.heap.size ≤ base ∧ Below w.heap.size w w' :=
  read_ok l bs a c w (rdE_zero h).1 hs _ (Lib.hid rfl) (rdE_zero h).2

theorem recS_ok {l : Lw} {bs : List Int} (h : rdE l bs = 0) : l.Ok ∧ RcW l (recS l bs) bs.length ∧ (recS l bs).tot ≤ 310 := by
  obtain ⟨h1, h2⟩ := rdE_zero h
  have ok := (errS_zero h1).1
  have hw := fol_rcw ok bs (rec0 l) 0 (rec0_rcw ok)
  rw [h2, Nat.zero_add] at hw
  exact ⟨ok, hw, tot_le (fol_tb ok bs (rec0 l) 0 (rec0_rcw ok) (rec0_tb l)) hw ok⟩

end Go.Proofs.YtmjbidnlknmcgabDoor
