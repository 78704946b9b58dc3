/- What RackFalls asks: each truth of a ball tried, what is left in it, and what the program tells of all of them. -/
import Derived.Test.YtaloffdkadhhnaaDoorSr
import Derived.Test.YtaloffdkadhhnaaDoorOv
set_option linter.unusedVariables false
set_option linter.unusedSimpArgs false
namespace Go.Proofs.YtaloffdkadhhnaaDoor
open Go.RowKit

/-- All that links can do. -/
def carsA : List Lk → List (List Bool)
  | [] => [[]]
  | l :: ls => (carsA ls).map (fun q => true :: q) ++ if l.sr = true then [] else (carsA ls).map (fun q => false :: q)

theorem carsA_map (cb : Lk → Bool) : ∀ (ls : List Lk), (∀ l ∈ ls, l.sr = true → cb l = true) → ls.map cb ∈ carsA ls
  | [], _ => by simp [carsA]
  | l :: ls, h => by
    have ih := carsA_map cb ls fun x hx => h x (by simp [hx])
    unfold carsA
    rw [List.map_cons, List.mem_append]
    cases hc : cb l
    · right
      have hs : ¬ l.sr = true := fun hs => by rw [h l (by simp) hs] at hc; cases hc
      rw [if_neg hs]; exact List.mem_map.2 ⟨_, ih, rfl⟩
    · left; exact List.mem_map.2 ⟨_, ih, rfl⟩
theorem carsA_ok : ∀ (ls : List Lk) (cs : List Bool), cs ∈ carsA ls → cs.length = ls.length ∧ ∀ i, (ls.getD i ⟨0, 0, false⟩).sr = true → cs.getD i false = true
  | [], cs, h => by
    simp [carsA] at h; subst h
    exact ⟨rfl, fun i hi => by simp at hi⟩
  | l :: ls, cs, h => by
    unfold carsA at h
    rcases List.mem_append.1 h with h | h
    · obtain ⟨q, hq, rfl⟩ := List.mem_map.1 h
      obtain ⟨h1, h2⟩ := carsA_ok ls q hq
      refine ⟨by simp [h1], fun i hi => ?_⟩
      cases i with
      | zero => rfl
      | succ i => exact h2 i hi
    · by_cases hs : l.sr = true
      · rw [if_pos hs] at h; cases h
      · rw [if_neg hs] at h
        obtain ⟨q, hq, rfl⟩ := List.mem_map.1 h
        obtain ⟨h1, h2⟩ := carsA_ok ls q hq
        refine ⟨by simp [h1], fun i hi => ?_⟩
        cases i with
        | zero => exact absurd hi hs
        | succ i => exact h2 i hi
theorem choices_out : ∀ (ball : List Rg) (bs : List Int), bs ∈ choices ball → bs.length = ball.length ∧ ∀ i, i < ball.length → (ball.getD i ⟨0, 0⟩).lo ≤ bs.getD i 0 ∧ bs.getD i 0 ≤ (ball.getD i ⟨0, 0⟩).hi
  | [], bs, h => by
    simp [choices] at h; subst h
    exact ⟨rfl, fun i hi => by simp at hi⟩
  | b :: ball, bs, h => by
    unfold choices at h
    obtain ⟨j, hj, h⟩ := List.mem_flatMap.1 h
    obtain ⟨q, hq, rfl⟩ := List.mem_map.1 h
    obtain ⟨h1, h2⟩ := choices_out ball q hq
    have hj := List.mem_range.1 hj
    unfold spanN at hj
    refine ⟨by simp [h1], fun i hi => ?_⟩
    cases i with
    | zero => exact ⟨show b.lo ≤ b.lo + (j : Int) by omega, show b.lo + (j : Int) ≤ b.hi by omega⟩
    | succ i => exact h2 i (by simpa using hi)

theorem truth_of {r : Rk} {ball : List Rg} {bs : List Int} {cs : List Bool} (hl : (ball.length : Int) = r.rows) (hb : bs ∈ choices ball) (hc : cs ∈ carsA r.ls) : truthB r ball bs cs = true := by
  obtain ⟨b1, b2⟩ := choices_out _ _ hb
  obtain ⟨c1, c2⟩ := carsA_ok _ _ hc
  unfold truthB
  simp only [Bool.and_eq_true]
  refine ⟨by simp; omega, by simp [c1], ?_, ?_⟩
  · unfold rowsB
    rw [List.all_eq_true]
    intro i hi
    have := List.mem_range.1 hi
    exact inB_iff.2 (b2 i (by omega))
  · unfold carsB
    rw [List.all_eq_true]
    intro i hi
    have h := c2 i
    cases hs : (r.ls.getD i ⟨0, 0, false⟩).sr
    · rfl
    · rw [h hs]; rfl

theorem left_eq2 {r : Rk} {xs bs : List Int} {cs : List Bool} {ls' : List Lk} {cb : Lk → Bool} (hck : chkE r xs = 0) (hz : ∀ l, (l, true) ∈ r.ls.zip cs ↔ l ∈ ls' ∧ cb l = true) (hl : LinksOk ls') :
    leftL xs (els (falN r xs bs cs)) = els (leftN ls' cb (setN xs) (touchN r (toCs bs) (setN xs))) := by
  obtain ⟨h1, h2, h3⟩ := chk_set hck
  have hx := hasL_out (chk_ok hck).2
  obtain ⟨e1, e2⟩ := fal_left (bs := bs) (cs := cs) (ls' := ls') (cb := cb) hck hz hl
  rw [← e1]
  refine rise_ext (hx.1.filter _) (els_rise _) fun x => ?_
  unfold leftL
  rw [List.mem_filter, mem_els, dif_bit]
  constructor
  · rintro ⟨m1, m2⟩
    rw [← h3, mem_els] at m1
    refine ⟨m1.1, m1.2.1, ?_⟩
    rw [m1.2.2]
    cases hd : (falN r xs bs cs).testBit x.toNat
    · rfl
    · rw [hasI_iff.2 ((mem_els _ _).2 ⟨m1.1, m1.2.1, hd⟩)] at m2; cases m2
  · rintro ⟨m1, m2, m3⟩
    rw [Bool.and_eq_true] at m3
    refine ⟨by rw [← h3, mem_els]; exact ⟨m1, m2, m3.1⟩, ?_⟩
    cases hh : hasI (els (falN r xs bs cs)) x
    · rfl
    · have := ((mem_els _ _).1 (hasI_iff.1 hh)).2.2
      rw [this] at m3; simp at m3

/-- What is left, each truth tried. -/
def lvA (r : Rk) (xs : List Int) (ball : List Rg) : List (List Int) := (choices ball).flatMap fun bs => (carsA r.ls).map fun cs => leftL xs (els (falN r xs bs cs))

/-- All that RackFalls asks. -/
structure FallsOk (r : Rk) (xs : List Int) (ball : List Rg) : Prop where
  lo : (lvA r xs ball).foldl (fun m l => min m ((l.length : Nat) : Int)) (xs.length : Nat) = lowN r ball (setN xs) xs.length
  hi : (lvA r xs ball).foldl (fun m l => max m ((l.length : Nat) : Int)) 0 = topN r ball (setN xs)
  can : ∀ lv, ((lvA r xs ball).any fun l => l == lv) = canB r xs ball lv
  sure : xs.filter (fun x => (lvA r xs ball).all fun l => !hasI l x) = els (sureN r ball (setN xs))
  may : xs.filter (fun x => (lvA r xs ball).any fun l => !hasI l x) = els (dif (setN xs) (stayN r ball (setN xs)))

theorem falls_all {r : Rk} {xs : List Int} {ball : List Rg} (hbal : balE r xs ball = 0) : FallsOk r xs ball := by
  obtain ⟨hck, hb4, hbw⟩ := bal_ok hbal
  have hf := (chk_ok hck).1
  have hxb := hasL_out (chk_ok hck).2
  have hp := (@pinsN_bd r).2
  obtain ⟨hs1, hs2, hs3⟩ := chk_set hck
  have hlk := linksOk_of hf
  have hx15 : ∀ x ∈ xs, 0 ≤ x ∧ x ≤ 15 := fun x hx => ⟨(hxb.2 x hx).1, by have := (hxb.2 x hx).2; omega⟩
  have hbl := ball_len hbal
  have H1 : ∀ l ∈ lvA r xs ball, TruthOk r xs ball l := fun l hl => by
    unfold lvA at hl
    obtain ⟨bs, hbs, hl⟩ := List.mem_flatMap.1 hl
    obtain ⟨cs, hcs, rfl⟩ := List.mem_map.1 hl
    have ht := truth_of hbl hbs hcs
    have e : leftL xs (els (falN r xs bs cs)) = els (hitB r bs cs (setN xs)) :=
      left_eq2 (ls' := pickL (r.ls.zip cs)) (cb := fun _ => true) hck (fun l => by rw [pickL_mem]; simp) (car_ok hf cs)
    rw [e]
    exact truth_all hbal ht
  have H2 : ∀ c ∈ choices ball, ∀ cb : Lk → Bool, (∀ l ∈ r.ls, l.sr = true → cb l = true) → els (hitN r (toCs c) cb (setN xs)) ∈ lvA r xs ball := fun c hc cb hcb => by
    unfold lvA
    refine List.mem_flatMap.2 ⟨c, hc, List.mem_map.2 ⟨r.ls.map cb, carsA_map cb _ hcb, ?_⟩⟩
    exact left_eq2 hck (fun l => zip_map_mem) hlk
  have hlt' : ∀ c (cb : Lk → Bool), hitN r (toCs c) cb (setN xs) < 65536 := fun c cb => (show Sub (hitN r (toCs c) cb (setN xs)) (setN xs) from leftN_le _ _ _ _).lt hs1
  obtain ⟨c0, hc0⟩ := List.exists_mem_of_ne_nil _ (choices_ne ball hbw)
  have hnot : ∀ N x, 0 ≤ x → x ≤ 15 → ((!hasI (els N) x) = true ↔ N.testBit x.toNat = false) := fun N x h0 h1 => by
    constructor
    · intro h
      cases hb : N.testBit x.toNat
      · rfl
      · rw [hasI_iff.2 ((mem_els _ _).2 ⟨h0, h1, hb⟩)] at h; cases h
    · intro h
      cases hh : hasI (els N) x
      · rfl
      · have := ((mem_els _ _).1 (hasI_iff.1 hh)).2.2
        rw [h] at this; cases this
  refine ⟨?_, ?_, ?_, ?_, ?_⟩
  · have hA := min_fold (fun l : List Int => l.length) (lvA r xs ball) (xs.length : Nat)
    have hB := min_fold (fun x => sizeN x) (leavesL r ball (fun _ => true) (setN xs)) (xs.length : Nat)
    unfold lowN
    obtain ⟨a1, a2, a3⟩ := hA
    obtain ⟨b1, b2, b3⟩ := hB
    have hT : ∀ l ∈ lvA r xs ball, (leavesL r ball (fun _ => true) (setN xs)).foldl (fun m x => min m ((sizeN x : Nat) : Int)) ((xs.length : Nat) : Int) ≤ (l.length : Nat) := fun l hl => (H1 l hl).lo
    generalize (leavesL r ball (fun _ => true) (setN xs)).foldl (fun m x => min m ((sizeN x : Nat) : Int)) ((xs.length : Nat) : Int) = B at *
    generalize (lvA r xs ball).foldl (fun m l => min m ((l.length : Nat) : Int)) ((xs.length : Nat) : Int) = A at *
    apply Int.le_antisymm
    · rcases b3 with h | ⟨y, hy, h⟩
      · rw [h]; exact a2
      · obtain ⟨c, hc, rfl⟩ := List.mem_map.1 hy
        have := a1 _ (H2 c hc (fun _ => true) (fun _ _ _ => rfl))
        rw [h]; exact this
    · rcases a3 with h | ⟨l, hl, h⟩
      · rw [h]; exact b2
      · rw [h]; exact hT l hl
  · have hA := max_fold (fun l : List Int => l.length) (lvA r xs ball) 0
    have hB := max_fold (fun x => sizeN x) (leavesL r ball (fun l => l.sr) (setN xs)) 0
    unfold topN
    obtain ⟨a1, a2, a3⟩ := hA
    obtain ⟨b1, b2, b3⟩ := hB
    have hT : ∀ l ∈ lvA r xs ball, ((l.length : Nat) : Int) ≤ (leavesL r ball (fun l => l.sr) (setN xs)).foldl (fun m x => max m ((sizeN x : Nat) : Int)) 0 := fun l hl => (H1 l hl).hi
    generalize (leavesL r ball (fun l => l.sr) (setN xs)).foldl (fun m x => max m ((sizeN x : Nat) : Int)) 0 = B at *
    generalize (lvA r xs ball).foldl (fun m l => max m ((l.length : Nat) : Int)) 0 = A at *
    apply Int.le_antisymm
    · rcases a3 with h | ⟨l, hl, h⟩
      · rw [h]; exact b2
      · rw [h]; exact hT l hl
    · rcases b3 with h | ⟨y, hy, h⟩
      · rw [h]; exact a2
      · obtain ⟨c, hc, rfl⟩ := List.mem_map.1 hy
        have := a1 _ (H2 c hc (fun l => l.sr) (fun _ _ h => h))
        rw [h]; exact this
  · intro lv
    rw [Bool.eq_iff_iff, List.any_eq_true]
    constructor
    · rintro ⟨l, hl, h⟩
      have : l = lv := by simpa using h
      subst this
      exact (H1 l hl).can
    · intro h
      unfold canB at h
      simp only [Bool.and_eq_true] at h
      obtain ⟨_, hh, h⟩ := h
      rw [List.any_eq_true] at h
      obtain ⟨y, hy, he⟩ := h
      obtain ⟨c, hc, rfl⟩ := List.mem_map.1 hy
      have he : hitN r (toCs c) (spB (setN lv)) (setN xs) = setN lv := by simpa using he
      have hm := H2 c hc (spB (setN lv)) (fun l _ h => by unfold spB; rw [h]; rfl)
      obtain ⟨g1, g2⟩ := hasL_out hh
      rw [he, els_setN g1 (fun x hx => ⟨(g2 x hx).1, by have := (g2 x hx).2; omega⟩)] at hm
      exact ⟨lv, hm, by simp⟩
  · refine rise_ext (hxb.1.filter _) (els_rise _) fun x => ?_
    rw [List.mem_filter, List.all_eq_true]
    constructor
    · rintro ⟨hx, h⟩
      have h0 := hx15 x hx
      refine (mem_els _ _).2 ⟨h0.1, h0.2, (fold_dif_bit _ _ _).2 ⟨(setN_has hx15 h0.1).2 hx, fun y hy => ?_⟩⟩
      obtain ⟨c, hcm, rfl⟩ := List.mem_map.1 hy
      exact (hnot _ x h0.1 h0.2).1 (h _ (H2 c hcm (fun l => l.sr) (fun _ _ h => h)))
    · intro hx
      obtain ⟨h0, h1, h2⟩ := (mem_els _ _).1 hx
      have hxx : x ∈ xs := (setN_has hx15 h0).1 ((fold_dif_bit _ _ _).1 h2).1
      refine ⟨hxx, fun l hl => ?_⟩
      have h3 := (H1 l hl).sure
      unfold withinI leftL at h3
      rw [List.all_eq_true] at h3
      exact (List.mem_filter.1 (hasI_iff.1 (h3 x hx))).2
  · refine rise_ext (hxb.1.filter _) (els_rise _) fun x => ?_
    rw [List.mem_filter, List.any_eq_true]
    constructor
    · rintro ⟨hx, l, hl, h⟩
      have h3 := (H1 l hl).may
      unfold withinI leftL at h3
      rw [List.all_eq_true] at h3
      exact hasI_iff.1 (h3 x (List.mem_filter.2 ⟨hx, h⟩))
    · intro hx
      obtain ⟨h0, h1, h2⟩ := (mem_els _ _).1 hx
      rw [dif_bit, Bool.and_eq_true] at h2
      have hxx : x ∈ xs := (setN_has hx15 h0).1 h2.1
      refine ⟨hxx, ?_⟩
      apply Classical.byContradiction
      intro hc
      have hst : (stayN r ball (setN xs)).testBit x.toNat = true := (fold_and_bit _ _ _).2 ⟨h2.1, fun y hy => by
        obtain ⟨c, hcm, rfl⟩ := List.mem_map.1 hy
        cases hh : (hitN r (toCs c) (fun _ => true) (setN xs)).testBit x.toNat
        · exact absurd ⟨_, H2 c hcm (fun _ => true) (fun _ _ _ => rfl), (hnot _ x h0 h1).2 hh⟩ hc
        · rfl⟩
      rw [hst] at h2
      exact absurd h2.2 (by simp)

end Go.Proofs.YtaloffdkadhhnaaDoor
