/- A rack turned over: what Hit, Falls and Kind tell of it. -/
import Derived.Test.YtaloffdkadhhnaaDoorTu
set_option linter.unusedVariables false
set_option linter.unusedSimpArgs false
namespace Go.Proofs.YtaloffdkadhhnaaDoor
open Go.RowKit

def mirB (m : Int) (ball : List Rg) : List Rg := ball.map fun b => ⟨2 * m - b.hi, 2 * m - b.lo⟩
def ovr (m : Int) (bs : List Int) : List Int := bs.map fun b => 2 * m - b
theorem ovr_two (m : Int) (bs : List Int) : ovr m (ovr m bs) = bs := by
  unfold ovr
  rw [List.map_map]
  conv => rhs; rw [← List.map_id bs]
  refine List.map_congr_left fun b _ => ?_
  show 2 * m - (2 * m - b) = b
  omega
theorem mirB_two (m : Int) (ball : List Rg) : mirB m (mirB m ball) = ball := by
  unfold mirB
  rw [List.map_map]
  conv => rhs; rw [← List.map_id ball]
  refine List.map_congr_left fun b _ => ?_
  show (⟨2 * m - (2 * m - b.lo), 2 * m - (2 * m - b.hi)⟩ : Rg) = b
  rw [show 2 * m - (2 * m - b.lo) = b.lo by omega, show 2 * m - (2 * m - b.hi) = b.hi by omega]
theorem choice_mir {m : Int} {ball : List Rg} {c : List Int} (h : c ∈ choices ball) : ovr m c ∈ choices (mirB m ball) := by
  obtain ⟨h1, h2⟩ := choices_out _ _ h
  refine mem_choices _ _ (by unfold ovr mirB; simp [h1]) fun i hi => ?_
  have hi' : i < ball.length := by unfold mirB at hi; simpa using hi
  have h3 := h2 i hi'
  have e1 : ((mirB m ball).getD i ⟨0, 0⟩) = ⟨2 * m - (ball.getD i ⟨0, 0⟩).hi, 2 * m - (ball.getD i ⟨0, 0⟩).lo⟩ := by
    unfold mirB
    rw [List.getD_eq_getElem?_getD, List.getD_eq_getElem?_getD, List.getElem?_map, List.getElem?_eq_getElem hi']; rfl
  have e2 : (ovr m c).getD i 0 = 2 * m - c.getD i 0 := by
    unfold ovr
    rw [List.getD_eq_getElem?_getD, List.getD_eq_getElem?_getD, List.getElem?_map, List.getElem?_eq_getElem (by omega)]; rfl
  rw [e1, e2]
  simp only
  omega

theorem pick_map (f : Lk → Lk) : ∀ (ls : List Lk) (cs : List Bool), pickL ((ls.map f).zip cs) = (pickL (ls.zip cs)).map f
  | [], cs => by simp [pickL]
  | l :: ls, [] => by simp [pickL]
  | l :: ls, c :: cs => by
    have ih := pick_map f ls cs
    unfold pickL at ih ⊢
    rw [List.map_cons, List.zip_cons_cons, List.zip_cons_cons, List.filterMap_cons, List.filterMap_cons]
    cases c
    · simpa using ih
    · simpa using ih

theorem bal_rows {r : Rk} {xs : List Int} (hck : chkE r xs = 0) : 1 ≤ r.rows ∧ r.rows ≤ 4 := by
  have ok := (faultN_ok (chk_ok hck).1).1
  exact ⟨ok.r1, ok.r2⟩
theorem mir_hit {r : Rk} {xs : List Int} (ht : Turn r xs) (hck : chkE r xs = 0) {c : List Int} (hc : (c.length : Int) = r.rows) (cb cb' : Lk → Bool) (hcb : ∀ l, cb' (mirLk l) = cb l) :
    Mir (hitN r (toCs c) cb (setN xs)) (hitN (mirR r) (toCs (ovr r.mid c)) cb' (setN (turL r xs))) :=
  mir_left ht.lb (fun l _ => hcb l) ht.m (mir_touch (bal_rows hck) hc ht.m ht.pn)
theorem mir_hitB {r : Rk} {xs : List Int} (ht : Turn r xs) (hck : chkE r xs = 0) {bs : List Int} (hc : (bs.length : Int) = r.rows) (cs : List Bool) :
    Mir (hitB r bs cs (setN xs)) (hitB (mirR r) (ovr r.mid bs) cs (setN (turL r xs))) := by
  rw [hitB_car, hitB_car]
  have e : ((mirR r).car cs).ls = (r.car cs).ls.map mirLk := pick_map mirLk r.ls cs
  rw [e]
  refine mir_left (fun l h => ht.lb l (car_mem h)) (fun l _ => rfl) ht.m ?_
  exact mir_touch (bal_rows hck) hc ht.m ht.pn

/-- What falls in each choice, mirrored. -/
theorem mir_all {r : Rk} {xs : List Int} {ball : List Rg} (ht : Turn r xs) (hck : chkE r xs = 0) (hbl : (ball.length : Int) = r.rows) (cb cb' : Lk → Bool) (hcb : ∀ l, cb' (mirLk l) = cb l) (v : Bool) {p : Int} (h0 : 0 ≤ p) (h9 : p ≤ 9) :
    (∀ y ∈ leavesL (mirR r) (mirB r.mid ball) cb' (setN (turL r xs)), y.testBit p.toNat = v) ↔ ∀ y ∈ leavesL r ball cb (setN xs), y.testBit (mir p).toNat = v := by
  have key : ∀ c ∈ choices ball, (hitN (mirR r) (toCs (ovr r.mid c)) cb' (setN (turL r xs))).testBit p.toNat = (hitN r (toCs c) cb (setN xs)).testBit (mir p).toNat := fun c hc =>
    (mir_hit ht hck (by rw [(choices_out _ _ hc).1]; exact hbl) cb cb' hcb).h p h0 h9
  unfold leavesL
  constructor
  · intro h y hy
    obtain ⟨c, hc, rfl⟩ := List.mem_map.1 hy
    rw [← key c hc]
    exact h _ (List.mem_map.2 ⟨_, choice_mir hc, rfl⟩)
  · intro h y hy
    obtain ⟨c', hc', rfl⟩ := List.mem_map.1 hy
    have hc := choice_mir (m := r.mid) hc'
    rw [mirB_two] at hc
    have e := key _ hc
    rw [ovr_two] at e
    rw [e]
    exact h _ (List.mem_map.2 ⟨_, hc, rfl⟩)
theorem sure_sub (r : Rk) (ball : List Rg) (St : Nat) : Sub (sureN r ball St) St := fun i h => ((fold_dif_bit _ _ _).1 h).1
theorem stay_sub (r : Rk) (ball : List Rg) (St : Nat) : Sub (stayN r ball St) St := fun i h => ((fold_and_bit _ _ _).1 h).1
theorem mir_sure {r : Rk} {xs : List Int} {ball : List Rg} (ht : Turn r xs) (hck : chkE r xs = 0) (hbl : (ball.length : Int) = r.rows) :
    Mir (sureN r ball (setN xs)) (sureN (mirR r) (mirB r.mid ball) (setN (turL r xs))) := by
  refine ⟨sub10 (sure_sub _ _ _) ht.m.a, sub10 (sure_sub _ _ _) ht.m.b, fun p h0 h9 => ?_⟩
  unfold sureN
  rw [Bool.eq_iff_iff, fold_dif_bit, fold_dif_bit, ht.m.h p h0 h9, mir_all ht hck hbl (fun l => l.sr) (fun l => l.sr) (fun l => rfl) false h0 h9]
theorem mir_stay {r : Rk} {xs : List Int} {ball : List Rg} (ht : Turn r xs) (hck : chkE r xs = 0) (hbl : (ball.length : Int) = r.rows) :
    Mir (stayN r ball (setN xs)) (stayN (mirR r) (mirB r.mid ball) (setN (turL r xs))) := by
  refine ⟨sub10 (stay_sub _ _ _) ht.m.a, sub10 (stay_sub _ _ _) ht.m.b, fun p h0 h9 => ?_⟩
  unfold stayN
  rw [Bool.eq_iff_iff, fold_and_bit, fold_and_bit, ht.m.h p h0 h9, mir_all ht hck hbl (fun _ => true) (fun _ => true) (fun l => rfl) true h0 h9]
theorem mir_dif {A B A' B' : Nat} (h : Mir A B) (h' : Mir A' B') : Mir (dif A A') (dif B B') := by
  refine ⟨sub10 (dif_sub _ _) h.a, sub10 (dif_sub _ _) h.b, fun p h0 h9 => ?_⟩
  rw [dif_bit, dif_bit, h.h p h0 h9, h'.h p h0 h9]

/-- A leave in one piece, whichever pin the search starts at. -/
def Conn (r : Rk) (N : Nat) : Prop := ∀ C : Int → Prop, (∃ a, C a ∧ a ∈ els N) → (∀ a q, C a → a ∈ els N → q ∈ els N → nextB r a q = true → C q) → ∀ q ∈ els N, C q
theorem piece_conn {r : Rk} {N : Nat} (h0 : N ≠ 0) (hlt : N < 65536) (hp : ∀ x ∈ els N, x < pinsN r.rows) : pieceB r N = true ↔ Conn r N := by
  have tb := tz_bit h0 hlt
  have hct : ((Lib.ctz 16 N : Nat) : Int) ∈ els N := (mem_els _ _).2 ⟨by omega, by omega, by simpa using tb.2.1⟩
  have hb := (mem_els _ _).1 hct
  have hpc := hp _ hct
  have hp10 := (@pinsN_bd r).2
  unfold pieceB pieceN
  generalize ((Lib.ctz 16 N : Nat) : Int) = x at *
  have m1 := reachF_le r N 16 x 0
  have m2 := reachF_lt r N 16 x 0 hb.1 hb.2.1 (by omega)
  have m3 := reachF_closed r N 16 x 0 hb.1 hpc (by have := @els_len (dif N 0); omega) hb.2.2 (by simp)
  have m4 := reachF_least r N
  have mx : (reachF r N 16 x 0).testBit x.toNat = true := m1 _ (by rw [Nat.testBit_or, one_bit]; simp)
  have mN : Sub (reachF r N 16 x 0) N := fun i hi => by
    have h16 := bit_in m2 hi
    have := m4 (fun a => N.testBit a.toNat = true) (fun a q _ _ hq => hq) 16 x 0 hb.1 hb.2.2 (fun y _ hy => by simp at hy) (i : Int) (by omega) (by simpa using hi)
    simpa using this
  rw [decide_eq_true_iff]
  constructor
  · intro e C hC hcl q hq
    obtain ⟨a, ha, haN⟩ := hC
    have hall : ∀ D : Int → Prop, D x → (∀ a q, D a → a ∈ els N → q ∈ els N → nextB r a q = true → D q) → ∀ q ∈ els N, D q := fun D hx hD q hq => by
      have hq' := (mem_els _ _).1 hq
      have := m4 (fun a => a ∈ els N ∧ D a) (fun a q ha hqn hql => by
        obtain ⟨⟨q0, q1⟩, hn⟩ := mem_nbrs.1 hqn
        have hqN : q ∈ els N := (mem_els _ _).2 ⟨q0, by omega, hql⟩
        exact ⟨hqN, hD a q ha.2 ha.1 hqN hn⟩) 16 x 0 hb.1 ⟨hct, hx⟩ (fun y _ hy => by simp at hy) q hq'.1 (by rw [e]; exact hq'.2.2)
      exact this.2
    by_cases hx : C x
    · exact hall C hx hcl q hq
    · exact absurd ha (hall (fun a => ¬ C a) hx (fun a q hna haN hqN hn hq => hna (hcl q a hq hqN haN (by rw [nextB_comm]; exact hn))) a haN)
  · intro hc
    refine Sub.antisymm mN fun i hi => ?_
    have h16 := bit_in hlt hi
    have := hc (fun a => (reachF r N 16 x 0).testBit a.toNat = true) ⟨x, mx, hct⟩ (fun a q ha haN hqN hn => by
      have haN' := (mem_els _ _).1 haN
      have hqN' := (mem_els _ _).1 hqN
      exact m3 a haN'.1 ha (by simp) q (mem_nbrs.2 ⟨⟨hqN'.1, hp q hqN⟩, hn⟩) hqN'.2.2) (i : Int) ((mem_els _ _).2 ⟨by omega, by omega, by simpa using hi⟩)
    simpa using this
theorem conn_mir {r : Rk} {A B : Nat} (h : Mir A B) (hc : Conn r A) : Conn (mirR r) B := by
  intro C hC hcl q hq
  obtain ⟨a, ha, haB⟩ := hC
  obtain ⟨a0, a9, ab⟩ := (els10 h.b).1 haB
  obtain ⟨q0, q9, qb⟩ := (els10 h.b).1 hq
  have ma := mir_ok a0 a9; have mq := mir_ok q0 q9
  have := hc (fun z => C (mir z)) ⟨mir a, by rw [ma.2.2.1]; exact ha, (els10 h.a).2 ⟨ma.1, ma.2.1, by rw [← h.h a a0 a9]; exact ab⟩⟩ (fun x y hx hxA hyA hn => by
    obtain ⟨x0, x9, xb⟩ := (els10 h.a).1 hxA
    obtain ⟨y0, y9, yb⟩ := (els10 h.a).1 hyA
    have mx := mir_ok x0 x9; have my := mir_ok y0 y9
    exact hcl (mir x) (mir y) hx ((els10 h.b).2 ⟨mx.1, mx.2.1, by rw [h.h _ mx.1 mx.2.1, mx.2.2.1]; exact xb⟩) ((els10 h.b).2 ⟨my.1, my.2.1, by rw [h.h _ my.1 my.2.1, my.2.2.1]; exact yb⟩) (by rw [next_mir r ⟨x0, x9⟩ ⟨y0, y9⟩]; exact hn)) (mir q) ((els10 h.a).2 ⟨mq.1, mq.2.1, by rw [← h.h q q0 q9]; exact qb⟩)
  simp only [mq.2.2.1] at this
  exact this
theorem size_mir_le {A B : Nat} (h : Mir A B) : sizeN A ≤ sizeN B := by
  have e : ((els A).map mir).length = (els A).length := List.length_map ..
  unfold sizeN
  rw [← e]
  refine sub_len _ _ ?_ fun x hx => ?_
  · refine List.pairwise_map.2 ((rise_nodup (els_rise A)).imp_of_mem fun {a b} ha hb hne he => hne ?_)
    obtain ⟨a0, a9, _⟩ := (els10 h.a).1 ha
    obtain ⟨b0, b9, _⟩ := (els10 h.a).1 hb
    rw [← (mir_ok a0 a9).2.2.1, he, (mir_ok b0 b9).2.2.1]
  · obtain ⟨q, hq, rfl⟩ := List.mem_map.1 hx
    obtain ⟨q0, q9, qb⟩ := (els10 h.a).1 hq
    have m := mir_ok q0 q9
    exact (els10 h.b).2 ⟨m.1, m.2.1, by rw [h.h _ m.1 m.2.1, m.2.2.1]; exact qb⟩
theorem mir_zero {A B : Nat} (h : Mir A B) (hA : A = 0) : B = 0 := ext10 h.b (by decide) fun p h0 h9 => by rw [h.h p h0 h9, hA]; simp
theorem kind_mir {r : Rk} {xs : List Int} (ht : Turn r xs) (hck : chkE r xs = 0) : kindN (mirR r) (setN (turL r xs)) = kindN r (setN xs) := by
  have h := ht.m
  obtain ⟨s1, s2, _⟩ := chk_set hck
  have hpn := ht.pn
  generalize setN xs = A at *
  generalize setN (turL r xs) = B at *
  have hz : B = 0 ↔ A = 0 := ⟨fun e => mir_zero h.symm e, fun e => mir_zero h e⟩
  have hs : sizeN B = sizeN A := Nat.le_antisymm (size_mir_le h.symm) (size_mir_le h)
  have hb0 : B.testBit 0 = A.testBit 0 := h.h 0 (by omega) (by omega)
  unfold kindN
  by_cases hA : A = 0
  · rw [if_pos (hz.2 hA), if_pos hA]
  · have hB : B ≠ 0 := fun e => hA (hz.1 e)
    rw [if_neg hB, if_neg hA, hs]
    have hp : pieceB (mirR r) B = pieceB r A := by
      rw [Bool.eq_iff_iff, piece_conn hA s1 s2, piece_conn (r := mirR r) hB (by have := h.b; omega) hpn]
      constructor
      · intro hc
        have hcc := conn_mir (r := mirR r) h.symm hc
        intro C hC hcl q hq
        exact hcc C hC (fun a q ha haN hqN hn => hcl a q ha haN hqN (by
          obtain ⟨a0, a9, _⟩ := (els10 h.a).1 haN
          obtain ⟨q0, q9, _⟩ := (els10 h.a).1 hqN
          have e1 := next_mir (mirR r) (mir_ok a0 a9 |> fun m => ⟨m.1, m.2.1⟩) (mir_ok q0 q9 |> fun m => ⟨m.1, m.2.1⟩)
          have e2 := next_mir r ⟨a0, a9⟩ ⟨q0, q9⟩
          rw [(mir_ok a0 a9).2.2.1, (mir_ok q0 q9).2.2.1, e2] at e1
          rw [← e1]; exact hn)) q hq
      · exact conn_mir h
    rw [hp, hb0]

theorem truth_mir {r : Rk} {ball : List Rg} {bs : List Int} {cs : List Bool} (hbl : (ball.length : Int) = r.rows) (hc : bs ∈ choices ball) (ht : truthB r ball bs cs = true) : truthB (mirR r) (mirB r.mid ball) (ovr r.mid bs) cs = true := by
  obtain ⟨h1, h2⟩ := choices_out _ _ hc
  obtain ⟨g1, g2⟩ := choices_out _ _ (choice_mir (m := r.mid) hc)
  obtain ⟨_, t2, _, t4⟩ := truth_len ht
  unfold truthB
  simp only [Bool.and_eq_true]
  have hl : (ovr r.mid bs).length = bs.length := by unfold ovr; simp
  have hm : (mirB r.mid ball).length = ball.length := by unfold mirB; simp
  refine ⟨by rw [hl]; show ((bs.length : Int) == r.rows) = true; simp; omega, ?_, ?_, ?_⟩
  · show (cs.length == (r.ls.map mirLk).length) = true
    rw [List.length_map, t2]; simp
  · unfold rowsB
    rw [List.all_eq_true]
    intro i hi
    have := List.mem_range.1 hi
    exact inB_iff.2 (g2 i (by omega))
  · show carsB (r.ls.map mirLk) cs (r.ls.map mirLk).length = true
    rw [List.length_map]
    unfold carsB at t4 ⊢
    rw [List.all_eq_true] at t4 ⊢
    intro i hi
    have hi' := List.mem_range.1 hi
    have h := t4 i hi
    have e : ((r.ls.map mirLk).getD i ⟨0, 0, false⟩).sr = (r.ls.getD i ⟨0, 0, false⟩).sr := by
      rw [List.getD_eq_getElem?_getD, List.getD_eq_getElem?_getD, List.getElem?_map, List.getElem?_eq_getElem hi']; rfl
    rw [e]; exact h

/-- All that RackTurned asks, once both are ready. -/
structure TurnOk (r : Rk) (xs : List Int) (ball : List Rg) (bs : List Int) (cs : List Bool) : Prop where
  hE : hitE r xs ball bs cs = 0
  hE' : hitE (mirR r) (turL r xs) (mirB r.mid ball) (ovr r.mid bs) cs = 0
  hL : turL r (hitL r xs ball bs cs) = hitL (mirR r) (turL r xs) (mirB r.mid ball) (ovr r.mid bs) cs
  sL : turL r (els (sureN r ball (setN xs))) = els (sureN (mirR r) (mirB r.mid ball) (setN (turL r xs)))
  mL : turL r (els (dif (setN xs) (stayN r ball (setN xs)))) = els (dif (setN (turL r xs)) (stayN (mirR r) (mirB r.mid ball) (setN (turL r xs))))
theorem turned_all {r : Rk} {xs : List Int} {ball : List Rg} {bs : List Int} {cs : List Bool} (hbal : balE r xs ball = 0) (hbal' : balE (mirR r) (turL r xs) (mirB r.mid ball) = 0) (htr : truthB r ball bs cs = true) : TurnOk r xs ball bs cs := by
  obtain ⟨hck, _, _⟩ := bal_ok hbal
  have ht := turn_of hck
  have hbl := ball_len hbal
  have hc := truth_choice (xs := xs) hbl htr
  have hbs : (bs.length : Int) = r.rows := by rw [(choices_out _ _ hc).1]; exact hbl
  have htr' := truth_mir hbl hc htr
  have e1 : hitE r xs ball bs cs = 0 := by unfold hitE; rw [if_pos hbal, if_pos htr]
  have e2 : hitE (mirR r) (turL r xs) (mirB r.mid ball) (ovr r.mid bs) cs = 0 := by unfold hitE; rw [if_pos hbal', if_pos htr']
  have sub : ∀ {N : Nat}, Sub N (setN (turL r xs)) → ∀ x ∈ els N, x < pinsN r.rows := fun h x hx => by
    obtain ⟨h0, h1, h2⟩ := (mem_els _ _).1 hx
    exact ht.pn x ((mem_els _ _).2 ⟨h0, h1, h _ h2⟩)
  refine ⟨e1, e2, ?_, ?_, ?_⟩
  · unfold hitL
    rw [if_pos e1, if_pos e2]
    exact (els_turn (mir_hitB ht hck hbs cs) (sub (leftN_le _ _ _ _))).symm
  · exact (els_turn (mir_sure ht hck hbl) (sub (sure_sub _ _ _))).symm
  · exact (els_turn (mir_dif ht.m (mir_stay ht hck hbl)) (sub (dif_sub _ _))).symm

end Go.Proofs.YtaloffdkadhhnaaDoor
