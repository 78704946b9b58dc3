/- What RackTruth asks, in plain words of sets: a truth's leave against what surely falls, what may, and what can be left. -/
import Derived.Test.YtaloffdkadhhnaaDoorWmo
import Derived.Test.YtaloffdkadhhnaaDoorCl
set_option linter.unusedVariables false
set_option linter.unusedSimpArgs false
namespace Go.Proofs.YtaloffdkadhhnaaDoor
open Go.RowKit

theorem mem_choices : ∀ (ball : List Rg) (bs : List Int), bs.length = ball.length → (∀ i, i < ball.length → (ball.getD i ⟨0, 0⟩).lo ≤ bs.getD i 0 ∧ bs.getD i 0 ≤ (ball.getD i ⟨0, 0⟩).hi) → bs ∈ choices ball
  | [], bs, h, _ => by
    have : bs = [] := List.eq_nil_of_length_eq_zero h
    subst this; simp [choices]
  | b :: ball, [], h, _ => by simp at h
  | b :: ball, x :: bs, h, hr => by
    have h0 := hr 0 (by simp)
    simp at h0
    have hrest := mem_choices ball bs (by simpa using h) (fun i hi => by
      have := hr (i + 1) (by simp; omega)
      simpa using this)
    unfold choices
    refine List.mem_flatMap.2 ⟨(x - b.lo).toNat, List.mem_range.2 (by unfold spanN; omega), List.mem_map.2 ⟨bs, hrest, ?_⟩⟩
    congr 1
    omega
theorem truth_choice {r : Rk} {xs : List Int} {ball : List Rg} {bs : List Int} {cs : List Bool} (hbl : (ball.length : Int) = r.rows) (ht : truthB r ball bs cs = true) : bs ∈ choices ball := by
  obtain ⟨t1, t2, t3, t4⟩ := truth_len ht
  refine mem_choices ball bs (by omega) fun i hi => ?_
  unfold rowsB at t3
  rw [List.all_eq_true] at t3
  exact inB_iff.1 (t3 i (List.mem_range.2 (by omega)))

theorem fold_min_le (L : List Nat) : ∀ (m : Int) (y : Nat), (L.foldl (fun (m : Int) (x : Nat) => min m (sizeN x : Nat)) m ≤ m) ∧ (y ∈ L → L.foldl (fun (m : Int) (x : Nat) => min m (sizeN x : Nat)) m ≤ (sizeN y : Nat)) := by
  induction L with
  | nil => intro m y; exact ⟨Int.le_refl _, fun h => by cases h⟩
  | cons x L ih =>
    intro m y
    have h := ih (min m (sizeN x : Nat)) y
    simp only [List.foldl_cons]
    refine ⟨by have := h.1; omega, fun hy => ?_⟩
    rcases List.mem_cons.1 hy with rfl | hy
    · have := h.1; omega
    · exact h.2 hy
theorem fold_max_ge (L : List Nat) : ∀ (m : Int) (y : Nat), (m ≤ L.foldl (fun (m : Int) (x : Nat) => max m (sizeN x : Nat)) m) ∧ (y ∈ L → ((sizeN y : Nat) : Int) ≤ L.foldl (fun (m : Int) (x : Nat) => max m (sizeN x : Nat)) m) := by
  induction L with
  | nil => intro m y; exact ⟨Int.le_refl _, fun h => by cases h⟩
  | cons x L ih =>
    intro m y
    have h := ih (max m (sizeN x : Nat)) y
    simp only [List.foldl_cons]
    refine ⟨by have := h.1; omega, fun hy => ?_⟩
    rcases List.mem_cons.1 hy with rfl | hy
    · have := h.1; omega
    · exact h.2 hy
theorem fold_dif_bit (L : List Nat) (i : Nat) : ∀ N, (L.foldl (fun m x => dif m x) N).testBit i = true ↔ N.testBit i = true ∧ ∀ y ∈ L, y.testBit i = false := by
  induction L with
  | nil => intro N; simp
  | cons x L ih =>
    intro N
    rw [List.foldl_cons, ih, dif_bit]
    simp
    constructor
    · rintro ⟨⟨h1, h2⟩, h3⟩; exact ⟨h1, h2, h3⟩
    · rintro ⟨h1, h2, h3⟩; exact ⟨⟨h1, h2⟩, h3⟩
theorem fold_and_bit (L : List Nat) (i : Nat) : ∀ N, (L.foldl (fun m x => m &&& x) N).testBit i = true ↔ N.testBit i = true ∧ ∀ y ∈ L, y.testBit i = true := by
  induction L with
  | nil => intro N; simp
  | cons x L ih =>
    intro N
    rw [List.foldl_cons, ih, and_bit]
    simp
    constructor
    · rintro ⟨⟨h1, h2⟩, h3⟩; exact ⟨h1, h2, h3⟩
    · rintro ⟨h1, h2, h3⟩; exact ⟨⟨h1, h2⟩, h3⟩

theorem els_mono {a b : Nat} (h : Sub a b) (hb : b < 65536) : sizeN a ≤ sizeN b := by
  have ha := h.lt hb
  have hr := els_rise b
  have hs : ((els b).filter fun x => a.testBit x.toNat).Sublist (els b) := List.filter_sublist
  have h15 : ∀ x ∈ (els b).filter fun x => a.testBit x.toNat, 0 ≤ x ∧ x ≤ 15 := fun x hx => ⟨((mem_els _ _).1 (hs.mem hx)).1, ((mem_els _ _).1 (hs.mem hx)).2.1⟩
  have e1 := els_setN (hr.sublist hs) h15
  have e2 : setN ((els b).filter fun x => a.testBit x.toNat) = a := by
    apply Nat.eq_of_testBit_eq
    intro i
    rw [Bool.eq_iff_iff, setN_bit, List.any_eq_true]
    constructor
    · rintro ⟨x, hx, he⟩
      have := (List.mem_filter.1 hx).2
      have hi : x.toNat = i := by simpa using he
      rw [← hi]; exact this
    · intro hi
      have h16 := bit_in ha hi
      exact ⟨(i : Int), List.mem_filter.2 ⟨(mem_els _ _).2 ⟨by omega, by omega, by simpa using h i hi⟩, by simpa using hi⟩, by simp⟩
  rw [e2] at e1
  unfold sizeN
  rw [e1]
  exact List.length_filter_le _ _

theorem car_mem {r : Rk} {cs : List Bool} {l : Lk} (h : l ∈ (r.car cs).ls) : l ∈ r.ls := (List.of_mem_zip (pickL_mem.1 h)).1
theorem car_sure {r : Rk} {ball : List Rg} {bs : List Int} {cs : List Bool} (ht : truthB r ball bs cs = true) {l : Lk} (h : l ∈ r.ls) (hs : l.sr = true) : l ∈ (r.car cs).ls := by
  obtain ⟨t1, t2, t3, t4⟩ := truth_len ht
  obtain ⟨i, hi, rfl⟩ := List.getElem_of_mem h
  have h4 := (List.all_eq_true.1 t4) i (List.mem_range.2 hi)
  have e1 : r.ls.getD i ⟨0, 0, false⟩ = r.ls[i] := by rw [List.getD_eq_getElem?_getD, List.getElem?_eq_getElem hi]; rfl
  have hic : i < cs.length := by omega
  have e2 : cs.getD i false = cs[i] := by rw [List.getD_eq_getElem?_getD, List.getElem?_eq_getElem hic]; rfl
  rw [e1, e2, hs] at h4
  refine pickL_mem.2 ?_
  have hz : i < (r.ls.zip cs).length := by rw [List.length_zip]; omega
  have : (r.ls.zip cs)[i] = (r.ls[i], true) := by rw [List.getElem_zip]; simp at h4; rw [h4]
  rw [← this]
  exact List.getElem_mem hz

theorem hitB_car (r : Rk) (bs : List Int) (cs : List Bool) (St : Nat) : hitB r bs cs St = leftN (r.car cs).ls (fun _ => true) St (touchN r (toCs bs) St) := rfl

structure TruthOk (r : Rk) (xs : List Int) (ball : List Rg) (l : List Int) : Prop where
  w : withinI l xs = true
  lo : lowN r ball (setN xs) xs.length ≤ (l.length : Nat)
  hi : ((l.length : Nat) : Int) ≤ topN r ball (setN xs)
  can : canB r xs ball l = true
  sure : withinI (els (sureN r ball (setN xs))) (leftL xs l) = true
  may : withinI (leftL xs l) (els (dif (setN xs) (stayN r ball (setN xs)))) = true

theorem truth_all {r : Rk} {xs : List Int} {ball : List Rg} {bs : List Int} {cs : List Bool} (hbal : balE r xs ball = 0) (ht : truthB r ball bs cs = true) : TruthOk r xs ball (els (hitB r bs cs (setN xs))) := by
  obtain ⟨hck, hb4, hbw⟩ := bal_ok hbal
  have hf := (chk_ok hck).1
  have hxb := hasL_out (chk_ok hck).2
  have hp := (@pinsN_bd r).2
  obtain ⟨hs1, hs2, _⟩ := chk_set hck
  have hlk := linksOk_of hf
  have hcar := car_ok hf cs
  have hx15 : ∀ x ∈ xs, 0 ≤ x ∧ x ≤ 15 := fun x hx => ⟨(hxb.2 x hx).1, by have := (hxb.2 x hx).2; omega⟩
  have hmc := truth_choice (xs := xs) (ball_len hbal) ht
  have hlow : Sub (hitN r (toCs bs) (fun _ => true) (setN xs)) (hitB r bs cs (setN xs)) := by
    rw [hitB_car]; exact left_anti hcar hlk hs1 (fun l hl _ => ⟨car_mem hl, rfl⟩) (fun i h _ => h)
  have htop : Sub (hitB r bs cs (setN xs)) (hitN r (toCs bs) (fun l => l.sr) (setN xs)) := by
    rw [hitB_car]; exact left_anti hlk hcar hs1 (fun l hl h => ⟨car_sure ht hl h, rfl⟩) (fun i h _ => h)
  have hle : Sub (hitB r bs cs (setN xs)) (setN xs) := leftN_le _ _ _ _
  have hH := hle.lt hs1
  have hcan : hitN r (toCs bs) (spB (hitB r bs cs (setN xs))) (setN xs) = hitB r bs cs (setN xs) := by
    obtain ⟨a1, a2, a3⟩ := leftN_spec r.ls (spB (hitB r bs cs (setN xs))) hlk (setN xs) (touchN r (toCs bs) (setN xs))
    obtain ⟨b1, b2, b3⟩ := leftN_spec (r.car cs).ls (fun _ => true) hcar (setN xs) (touchN r (toCs bs) (setN xs))
    rw [← hitB_car] at b1 b2 b3
    have hle2 := leftN_le r.ls (spB (hitB r bs cs (setN xs))) (setN xs) (touchN r (toCs bs) (setN xs))
    unfold hitN
    generalize hitB r bs cs (setN xs) = H at *
    have hHR : Sub H (leftN r.ls (spB H) (setN xs) (touchN r (toCs bs) (setN xs))) := by
      apply a3 _ hle
      · intro i hi
        cases hT : (touchN r (toCs bs) (setN xs)).testBit i
        · rfl
        · rw [b1 i hT (bit_in hH hi)] at hi; cases hi
      · intro l hlm hc hto hfr
        unfold spB at hc
        rw [hto] at hc
        simp at hc
        exact b2 l (car_sure ht hlm hc) rfl hto hfr
    refine Sub.antisymm ?_ hHR
    apply b3 _ hle2
    · intro i hi
      cases hT : (touchN r (toCs bs) (setN xs)).testBit i
      · rfl
      · rw [a1 i hT (bit_in (hle2.lt hs1) hi)] at hi; cases hi
    · intro l hlm _ hto hfr
      cases hsp : spB H l
      · unfold spB at hsp
        simp at hsp
        exact hHR _ (b2 l hlm rfl hsp.2 hfr)
      · exact a2 l (car_mem hlm) hsp hto hfr
  have hmN : hitN r (toCs bs) (fun _ => true) (setN xs) ∈ leavesL r ball (fun _ => true) (setN xs) := List.mem_map.2 ⟨bs, hmc, rfl⟩
  have hmS : hitN r (toCs bs) (fun l => l.sr) (setN xs) ∈ leavesL r ball (fun l => l.sr) (setN xs) := List.mem_map.2 ⟨bs, hmc, rfl⟩
  have hmC : hitB r bs cs (setN xs) ∈ (choices ball).map fun x => hitN r (toCs x) (spB (hitB r bs cs (setN xs))) (setN xs) := List.mem_map.2 ⟨bs, hmc, hcan⟩
  have hin : ∀ x ∈ els (hitB r bs cs (setN xs)), x ∈ xs := fun x hx => by
    obtain ⟨h0, h1, h2⟩ := (mem_els _ _).1 hx
    exact (setN_has hx15 h0).1 (hle _ h2)
  have hSlt : hitN r (toCs bs) (fun l => l.sr) (setN xs) < 65536 := (leftN_le _ _ _ _).lt hs1
  generalize hitB r bs cs (setN xs) = H at *
  generalize hitN r (toCs bs) (fun _ => true) (setN xs) = N at *
  generalize hitN r (toCs bs) (fun l => l.sr) (setN xs) = S at *
  clear hcan
  refine ⟨?_, ?_, ?_, ?_, ?_, ?_⟩
  · unfold withinI
    rw [List.all_eq_true]
    exact fun x hx => hasI_iff.2 (hin x hx)
  · have h1 := (fold_min_le (leavesL r ball (fun _ => true) (setN xs)) (xs.length : Nat) N).2 hmN
    have h2 := els_mono hlow hH
    unfold lowN
    unfold sizeN at h1 h2 ⊢
    omega
  · have h1 := (fold_max_ge (leavesL r ball (fun l => l.sr) (setN xs)) 0 S).2 hmS
    have h2 := els_mono htop hSlt
    unfold topN
    unfold sizeN at h1 h2 ⊢
    omega
  · unfold canB
    rw [hbal, setN_els hH]
    have : hasL r (els H) = true := hasL_in (els_rise H) fun x hx => hxb.2 x (hin x hx)
    rw [this]
    simp only [beq_self_eq_true, Bool.true_and]
    rw [List.any_eq_true]
    exact ⟨H, hmC, by simp⟩
  · unfold withinI leftL
    rw [List.all_eq_true]
    intro x hx
    obtain ⟨h0, h1, h2⟩ := (mem_els _ _).1 hx
    unfold sureN at h2
    obtain ⟨g1, g2⟩ := (fold_dif_bit _ _ _).1 h2
    refine hasI_iff.2 (List.mem_filter.2 ⟨(setN_has hx15 h0).1 g1, ?_⟩)
    cases hh : hasI (els H) x
    · rfl
    · obtain ⟨_, _, k⟩ := (mem_els _ _).1 (hasI_iff.1 hh)
      have := htop _ k
      rw [g2 S hmS] at this; cases this
  · unfold withinI leftL
    rw [List.all_eq_true]
    intro x hx
    obtain ⟨h1, h2⟩ := List.mem_filter.1 hx
    have h0 := hx15 x h1
    refine hasI_iff.2 ((mem_els _ _).2 ⟨h0.1, h0.2, ?_⟩)
    rw [dif_bit, (setN_has hx15 h0.1).2 h1]
    cases hh : (stayN r ball (setN xs)).testBit x.toNat
    · rfl
    · unfold stayN at hh
      have := ((fold_and_bit _ _ _).1 hh).2 N hmN
      have h3 : x ∈ els H := (mem_els _ _).2 ⟨h0.1, h0.2, hlow _ this⟩
      rw [hasI_iff.2 h3] at h2; cases h2

end Go.Proofs.YtaloffdkadhhnaaDoor
