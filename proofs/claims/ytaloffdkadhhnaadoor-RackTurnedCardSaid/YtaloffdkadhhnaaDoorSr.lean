/- What RackSure asks, in plain words of sets: all leaves tried, one by one. -/
import Derived.Test.YtaloffdkadhhnaaDoorRt
set_option linter.unusedVariables false
set_option linter.unusedSimpArgs false
namespace Go.Proofs.YtaloffdkadhhnaaDoor
open Go.RowKit

/-- What is left, whatever of those that may carry does, can be left. -/
theorem can_of {r : Rk} {c : Cs} {cb : Lk → Bool} {St : Nat} (hl : LinksOk r.ls) (hS : St < 65536) (hcb : ∀ l ∈ r.ls, l.sr = true → cb l = true) : hitN r c (spB (hitN r c cb St)) St = hitN r c cb St := by
  have hle : Sub (hitN r c cb St) St := leftN_le _ _ _ _
  have hH := hle.lt hS
  obtain ⟨a1, a2, a3⟩ := leftN_spec r.ls (spB (hitN r c cb St)) hl St (touchN r c St)
  obtain ⟨b1, b2, b3⟩ := leftN_spec r.ls cb hl St (touchN r c St)
  have e : hitN r c cb St = leftN r.ls cb St (touchN r c St) := rfl
  rw [← e] at b1 b2 b3
  have hle2 := leftN_le r.ls (spB (hitN r c cb St)) St (touchN r c St)
  show leftN r.ls (spB (hitN r c cb St)) St (touchN r c St) = hitN r c cb St
  generalize hitN r c cb St = H at *
  have hHR : Sub H (leftN r.ls (spB H) St (touchN r c St)) := by
    apply a3 _ hle
    · intro i hi
      cases hT : (touchN r c St).testBit i
      · rfl
      · rw [b1 i hT (bit_in hH hi)] at hi; cases hi
    · intro l hlm hc hto hfr
      unfold spB at hc
      rw [hto] at hc
      simp at hc
      exact b2 l hlm (hcb l hlm hc) hto hfr
  refine Sub.antisymm ?_ hHR
  apply b3 _ hle2
  · intro i hi
    cases hT : (touchN r c St).testBit i
    · rfl
    · rw [a1 i hT (bit_in (hle2.lt hS) hi)] at hi; cases hi
  · intro l hlm hcb2 hto hfr
    cases hsp : spB H l
    · unfold spB at hsp
      simp at hsp
      exact hHR _ (b2 l hlm hcb2 hsp.2 hfr)
    · exact a2 l hlm hsp hto hfr

/-- A list's elements by the bits of a number. -/
theorem bitU_test (b i : Nat) : bitU (b : Int) i = b.testBit i := by
  unfold bitU
  have e0 : ((b : Int) / 2 ^ i) = ((b / 2 ^ i : Nat) : Int) := by simp
  rw [e0, Nat.testBit_eq_decide_div_mod_eq]
  generalize b / 2 ^ i = q
  rw [Int.tmod_eq_emod_of_nonneg (by omega), Bool.eq_iff_iff, beq_iff_eq, decide_eq_true_iff]
  omega
theorem fewT_filter (xs : List Int) (p : Int → Bool) : ∀ n, n ≤ xs.length → ∃ b : Nat, b < 2 ^ n ∧ fewT xs (b : Int) n = (xs.take n).filter p
  | 0, _ => ⟨0, by simp, by simp [fewT]⟩
  | n + 1, h => by
    obtain ⟨b, hb, e⟩ := fewT_filter xs p n (by omega)
    obtain ⟨x, hx⟩ : ∃ x, xs[n]? = some x := ⟨xs[n]'(by omega), List.getElem?_eq_getElem _⟩
    have hpow : (2 : Nat) ^ n < 2 ^ (n + 1) := Nat.pow_lt_pow_right (by omega) (by omega)
    have hsame : ∀ (b' : Nat), (∀ i, i < n → b'.testBit i = b.testBit i) → ∀ k, k ≤ n → fewT xs (b' : Int) k = fewT xs (b : Int) k := fun b' hbb k => by
      induction k with
      | zero => intro _; rfl
      | succ k ih =>
        intro hk
        unfold fewT
        rw [ih (by omega), bitU_test, bitU_test, hbb k (by omega)]
    have hbn : b.testBit n = false := Nat.testBit_lt_two_pow hb
    cases hp : p x
    · refine ⟨b, by omega, ?_⟩
      rw [fewT_at hx, e, bitU_test, hbn, take_next hx, List.filter_append]
      simp [List.filter, hp]
    · refine ⟨b ||| 2 ^ n, Nat.or_lt_two_pow (by omega) hpow, ?_⟩
      rw [fewT_at hx, hsame _ (fun i hi => by rw [Nat.testBit_or, Nat.testBit_two_pow]; simp; omega) n (Nat.le_refl _), e, bitU_test, Nat.testBit_or, Nat.testBit_two_pow, take_next hx, List.filter_append]
      simp [List.filter, hp]

section
variable (r : Rk) (xs : List Int) (ball : List Rg)
/-- Whether the leave of some bits can be left. -/
def cnS (b : Nat) : Bool := canB r xs ball (fewT xs (b : Int) xs.length)
def lvS (b : Nat) : List Int := fewT xs (b : Int) xs.length
def faS (B i : Nat) : Bool := (List.range B).any fun b => cnS r xs ball b && !hasI (lvS xs b) (xs.getD i 0)
def stS (B i : Nat) : Bool := (List.range B).any fun b => cnS r xs ball b && hasI (lvS xs b) (xs.getD i 0)
def loS (B : Nat) : Int := ((List.range B).filter fun b => cnS r xs ball b).foldl (fun m b => min m ((lvS xs b).length : Nat)) 99
def hiS (B : Nat) : Int := ((List.range B).filter fun b => cnS r xs ball b).foldl (fun m b => max m ((lvS xs b).length : Nat)) (-1)
end
theorem faS_succ (r : Rk) (xs : List Int) (ball : List Rg) (B i : Nat) : faS r xs ball (B + 1) i = (faS r xs ball B i || (cnS r xs ball B && !hasI (lvS xs B) (xs.getD i 0))) := by unfold faS; rw [List.range_succ, List.any_append]; simp
theorem stS_succ (r : Rk) (xs : List Int) (ball : List Rg) (B i : Nat) : stS r xs ball (B + 1) i = (stS r xs ball B i || (cnS r xs ball B && hasI (lvS xs B) (xs.getD i 0))) := by unfold stS; rw [List.range_succ, List.any_append]; simp
theorem loS_succ (r : Rk) (xs : List Int) (ball : List Rg) (B : Nat) : loS r xs ball (B + 1) = if cnS r xs ball B then min (loS r xs ball B) ((lvS xs B).length : Nat) else loS r xs ball B := by
  unfold loS; rw [List.range_succ, List.filter_append]
  cases h : cnS r xs ball B <;> simp [List.filter, h, List.foldl_append]
theorem hiS_succ (r : Rk) (xs : List Int) (ball : List Rg) (B : Nat) : hiS r xs ball (B + 1) = if cnS r xs ball B then max (hiS r xs ball B) ((lvS xs B).length : Nat) else hiS r xs ball B := by
  unfold hiS; rw [List.range_succ, List.filter_append]
  cases h : cnS r xs ball B <;> simp [List.filter, h, List.foldl_append]

theorem min_fold {α : Type} (f : α → Nat) : ∀ (L : List α) (a : Int), (∀ x ∈ L, L.foldl (fun m x => min m ((f x : Nat) : Int)) a ≤ (f x : Nat)) ∧ L.foldl (fun m x => min m ((f x : Nat) : Int)) a ≤ a ∧ (L.foldl (fun m x => min m ((f x : Nat) : Int)) a = a ∨ ∃ x ∈ L, L.foldl (fun m x => min m ((f x : Nat) : Int)) a = (f x : Nat))
  | [], a => ⟨fun x h => (by cases h), Int.le_refl _, .inl rfl⟩
  | x :: L, a => by
    obtain ⟨h1, h2, h3⟩ := min_fold f L (min a (f x : Nat))
    simp only [List.foldl_cons]
    refine ⟨fun y hy => ?_, by omega, ?_⟩
    · rcases List.mem_cons.1 hy with rfl | hy
      · omega
      · exact h1 y hy
    · rcases h3 with h3 | ⟨y, hy, h3⟩
      · by_cases hc : a ≤ (f x : Nat)
        · left; omega
        · right; exact ⟨x, by simp, by omega⟩
      · exact .inr ⟨y, by simp [hy], h3⟩
theorem max_fold {α : Type} (f : α → Nat) : ∀ (L : List α) (a : Int), (∀ x ∈ L, ((f x : Nat) : Int) ≤ L.foldl (fun m x => max m ((f x : Nat) : Int)) a) ∧ a ≤ L.foldl (fun m x => max m ((f x : Nat) : Int)) a ∧ (L.foldl (fun m x => max m ((f x : Nat) : Int)) a = a ∨ ∃ x ∈ L, L.foldl (fun m x => max m ((f x : Nat) : Int)) a = (f x : Nat))
  | [], a => ⟨fun x h => (by cases h), Int.le_refl _, .inl rfl⟩
  | x :: L, a => by
    obtain ⟨h1, h2, h3⟩ := max_fold f L (max a (f x : Nat))
    simp only [List.foldl_cons]
    refine ⟨fun y hy => ?_, by omega, ?_⟩
    · rcases List.mem_cons.1 hy with rfl | hy
      · omega
      · exact h1 y hy
    · rcases h3 with h3 | ⟨y, hy, h3⟩
      · by_cases hc : ((f x : Nat) : Int) ≤ a
        · left; omega
        · right; exact ⟨x, by simp, by omega⟩
      · exact .inr ⟨y, by simp [hy], h3⟩

theorem choices_ne : ∀ (ball : List Rg), (∀ b ∈ ball, wrongG b = false) → choices ball ≠ []
  | [], _ => by simp [choices]
  | b :: ball, h => by
    have hb := h b (by simp)
    unfold wrongG at hb
    simp at hb
    have ih := choices_ne ball fun x hx => h x (by simp [hx])
    obtain ⟨q, hq⟩ := List.exists_mem_of_ne_nil _ ih
    intro hc
    have : (b.lo + (0 : Nat)) :: q ∈ choices (b :: ball) := by
      unfold choices
      refine List.mem_flatMap.2 ⟨0, List.mem_range.2 (by unfold spanN; omega), List.mem_map.2 ⟨q, hq, rfl⟩⟩
    rw [hc] at this; cases this

/-- All that RackSure asks. -/
structure SureOk (r : Rk) (xs : List Int) (ball : List Rg) : Prop where
  w1 : withinI (els (sureN r ball (setN xs))) (els (dif (setN xs) (stayN r ball (setN xs)))) = true
  w2 : withinI (els (dif (setN xs) (stayN r ball (setN xs)))) xs = true
  fa : ∀ i x, xs[i]? = some x → faS r xs ball (2 ^ xs.length) i = hasI (els (dif (setN xs) (stayN r ball (setN xs)))) x
  st : ∀ i x, xs[i]? = some x → stS r xs ball (2 ^ xs.length) i = !hasI (els (sureN r ball (setN xs))) x
  lo : loS r xs ball (2 ^ xs.length) = lowN r ball (setN xs) xs.length
  hi : hiS r xs ball (2 ^ xs.length) = topN r ball (setN xs)

theorem sure_all {r : Rk} {xs : List Int} {ball : List Rg} (hbal : balE r xs ball = 0) : SureOk r xs ball := by
  obtain ⟨hck, hb4, hbw⟩ := bal_ok hbal
  have hf := (chk_ok hck).1
  have hxb := hasL_out (chk_ok hck).2
  have hp := (@pinsN_bd r).2
  obtain ⟨hs1, hs2, hs3⟩ := chk_set hck
  have hlk := linksOk_of hf
  have hx15 : ∀ x ∈ xs, 0 ≤ x ∧ x ≤ 15 := fun x hx => ⟨(hxb.2 x hx).1, by have := (hxb.2 x hx).2; omega⟩
  have hx16 : xs.length ≤ 16 := by rw [← hs3]; exact els_len
  have hlt' : ∀ c (cb : Lk → Bool), hitN r (toCs c) cb (setN xs) < 65536 := fun c cb => (show Sub (hitN r (toCs c) cb (setN xs)) (setN xs) from leftN_le _ _ _ _).lt hs1
  -- a leave that can be lies between what surely and what at most is left
  have key : ∀ b, cnS r xs ball b = true → ∃ c ∈ choices ball, Sub (hitN r (toCs c) (fun _ => true) (setN xs)) (setN (lvS xs b)) ∧ Sub (setN (lvS xs b)) (hitN r (toCs c) (fun l => l.sr) (setN xs)) := fun b hb => by
    unfold cnS canB at hb
    simp only [Bool.and_eq_true] at hb
    obtain ⟨_, _, h⟩ := hb
    rw [List.any_eq_true] at h
    obtain ⟨y, hy, he⟩ := h
    obtain ⟨c, hc, rfl⟩ := List.mem_map.1 hy
    have he : hitN r (toCs c) (spB (setN (lvS xs b))) (setN xs) = setN (lvS xs b) := by unfold lvS; simpa using he
    refine ⟨c, hc, ?_, ?_⟩
    · rw [← he]
      exact left_anti hlk hlk hs1 (fun l hl _ => ⟨hl, rfl⟩) (fun i h _ => h)
    · have := left_anti (ls := r.ls) (ls' := r.ls) (cb := fun l => l.sr) (cb' := spB (setN (lvS xs b))) (T := touchN r (toCs c) (setN xs)) (T' := touchN r (toCs c) (setN xs)) hlk hlk hs1 (fun l hl h => ⟨hl, by unfold spB; rw [h]; rfl⟩) (fun i h _ => h)
      have he2 : leftN r.ls (spB (setN (lvS xs b))) (setN xs) (touchN r (toCs c) (setN xs)) = setN (lvS xs b) := he
      rw [he2] at this
      exact this
  -- each of a choice's leaves is the leave of some bits
  have back : ∀ c ∈ choices ball, ∀ cb : Lk → Bool, (∀ l ∈ r.ls, l.sr = true → cb l = true) → ∃ b : Nat, b < 2 ^ xs.length ∧ cnS r xs ball b = true ∧ lvS xs b = els (hitN r (toCs c) cb (setN xs)) := fun c hc cb hcb => by
    have hle : Sub (hitN r (toCs c) cb (setN xs)) (setN xs) := leftN_le _ _ _ _
    have hlt := hle.lt hs1
    obtain ⟨b, hb, e⟩ := fewT_filter xs (fun x => (hitN r (toCs c) cb (setN xs)).testBit x.toNat) xs.length (Nat.le_refl _)
    rw [List.take_length] at e
    have e2 : lvS xs b = els (hitN r (toCs c) cb (setN xs)) := by
      unfold lvS
      rw [e, els_sub hle, hs3]
    refine ⟨b, hb, ?_, e2⟩
    have hhas : hasL r (lvS xs b) = true := by
      rw [e2]
      exact hasL_in (els_rise _) fun x hx => by
        obtain ⟨h0, h1, h2⟩ := (mem_els _ _).1 hx
        exact hxb.2 x ((setN_has hx15 h0).1 (hle _ h2))
    show canB r xs ball (lvS xs b) = true
    unfold canB
    rw [hbal, hhas]
    simp only [beq_self_eq_true, Bool.true_and]
    rw [List.any_eq_true]
    rw [e2, setN_els hlt]
    exact ⟨_, List.mem_map.2 ⟨c, hc, rfl⟩, by rw [can_of hlk hs1 hcb]; simp⟩
  obtain ⟨c0, hc0⟩ := List.exists_mem_of_ne_nil _ (choices_ne ball hbw)
  have hsl : ∀ b, (lvS xs b).Sublist xs := fun b => by have := fewT_sub xs (b : Int) xs.length; rwa [List.take_length] at this
  have hlen : ∀ b, (lvS xs b).length = sizeN (setN (lvS xs b)) := fun b => by
    unfold sizeN
    rw [els_setN (hxb.1.sublist (hsl b)) fun x hx => hx15 x ((hsl b).mem hx)]
  have hset : ∀ b, setN (lvS xs b) < 65536 := fun b => setN_lt fun x hx => hx15 x ((hsl b).mem hx)
  have hhas : ∀ b x, 0 ≤ x → (hasI (lvS xs b) x = (setN (lvS xs b)).testBit x.toNat) := fun b x h0 => by
    rw [Bool.eq_iff_iff, hasI_iff]
    exact (setN_has (fun y hy => hx15 y ((hsl b).mem hy)) h0).symm
  have hmay : ∀ x ∈ xs, hasI (els (dif (setN xs) (stayN r ball (setN xs)))) x = true ↔ ∃ c ∈ choices ball, (hitN r (toCs c) (fun _ => true) (setN xs)).testBit x.toNat = false := fun x hx => by
    have h0 := hx15 x hx
    rw [hasI_iff, mem_els, dif_bit, (setN_has hx15 h0.1).2 hx]
    constructor
    · rintro ⟨_, _, h⟩
      apply Classical.byContradiction
      intro hc
      have : (stayN r ball (setN xs)).testBit x.toNat = true := (fold_and_bit _ _ _).2 ⟨(setN_has hx15 h0.1).2 hx, fun y hy => by
        obtain ⟨c, hcm, rfl⟩ := List.mem_map.1 hy
        cases hh : (hitN r (toCs c) (fun _ => true) (setN xs)).testBit x.toNat
        · exact absurd ⟨c, hcm, hh⟩ hc
        · rfl⟩
      rw [this] at h; cases h
    · rintro ⟨c, hcm, h⟩
      refine ⟨h0.1, h0.2, ?_⟩
      cases hh : (stayN r ball (setN xs)).testBit x.toNat
      · rfl
      · have := ((fold_and_bit _ _ _).1 hh).2 _ (List.mem_map.2 ⟨c, hcm, rfl⟩)
        rw [h] at this; cases this
  have hsure : ∀ x ∈ xs, hasI (els (sureN r ball (setN xs))) x = true ↔ ∀ c ∈ choices ball, (hitN r (toCs c) (fun l => l.sr) (setN xs)).testBit x.toNat = false := fun x hx => by
    have h0 := hx15 x hx
    rw [hasI_iff, mem_els]
    constructor
    · rintro ⟨_, _, h⟩ c hcm
      exact ((fold_dif_bit _ _ _).1 h).2 _ (List.mem_map.2 ⟨c, hcm, rfl⟩)
    · intro h
      refine ⟨h0.1, h0.2, (fold_dif_bit _ _ _).2 ⟨(setN_has hx15 h0.1).2 hx, fun y hy => ?_⟩⟩
      obtain ⟨c, hcm, rfl⟩ := List.mem_map.1 hy
      exact h c hcm
  have hsm : ∀ c, Sub (hitN r (toCs c) (fun _ => true) (setN xs)) (hitN r (toCs c) (fun l => l.sr) (setN xs)) := fun c => left_anti hlk hlk hs1 (fun l hl _ => ⟨hl, rfl⟩) (fun i h _ => h)
  have hMin : ∀ x, hasI (els (sureN r ball (setN xs))) x = true → x ∈ xs := fun x hx => by
    obtain ⟨h0, h1, h2⟩ := (mem_els _ _).1 (hasI_iff.1 hx)
    exact (setN_has hx15 h0).1 ((fold_dif_bit _ _ _).1 h2).1
  refine ⟨?_, ?_, ?_, ?_, ?_, ?_⟩
  · unfold withinI
    rw [List.all_eq_true]
    intro x hx
    have hxx := hMin x (hasI_iff.2 hx)
    have := (hsure x hxx).1 (hasI_iff.2 hx) c0 hc0
    refine (hmay x hxx).2 ⟨c0, hc0, ?_⟩
    cases hh : (hitN r (toCs c0) (fun _ => true) (setN xs)).testBit x.toNat
    · rfl
    · rw [hsm c0 _ hh] at this; cases this
  · unfold withinI
    rw [List.all_eq_true]
    intro x hx
    obtain ⟨h0, h1, h2⟩ := (mem_els _ _).1 hx
    rw [dif_bit, Bool.and_eq_true] at h2
    exact hasI_iff.2 ((setN_has hx15 h0).1 h2.1)
  · intro i x hix
    have hxm := List.mem_of_getElem? hix
    have h0 := hx15 x hxm
    rw [Bool.eq_iff_iff, hmay x hxm]
    unfold faS
    rw [List.any_eq_true, getD_of hix]
    constructor
    · rintro ⟨b, hb, h⟩
      rw [Bool.and_eq_true] at h
      obtain ⟨c, hc, h1, h2⟩ := key b h.1
      refine ⟨c, hc, ?_⟩
      have h3 := h.2
      rw [hhas b x h0.1] at h3
      cases hh : (hitN r (toCs c) (fun _ => true) (setN xs)).testBit x.toNat
      · rfl
      · rw [h1 _ hh] at h3; cases h3
    · rintro ⟨c, hc, h⟩
      obtain ⟨b, hb, h1, h2⟩ := back c hc (fun _ => true) (fun _ _ _ => rfl)
      refine ⟨b, List.mem_range.2 hb, ?_⟩
      rw [h1, hhas b x h0.1, h2, setN_els (hlt' _ _), h]; rfl
  · intro i x hix
    have hxm := List.mem_of_getElem? hix
    have h0 := hx15 x hxm
    have hs := hsure x hxm
    cases hh : hasI (els (sureN r ball (setN xs))) x
    · show stS r xs ball (2 ^ xs.length) i = true
      have : ¬ ∀ c ∈ choices ball, (hitN r (toCs c) (fun l => l.sr) (setN xs)).testBit x.toNat = false := fun h => by rw [hs.2 h] at hh; cases hh
      obtain ⟨c, hc⟩ := Classical.not_forall.1 this
      obtain ⟨hc, hb⟩ := Classical.not_imp.1 hc
      obtain ⟨b, hb2, h1, h2⟩ := back c hc (fun l => l.sr) (fun _ _ h => h)
      unfold stS
      rw [List.any_eq_true, getD_of hix]
      refine ⟨b, List.mem_range.2 hb2, ?_⟩
      rw [h1, hhas b x h0.1, h2, setN_els (hlt' _ _)]
      simpa using hb
    · show stS r xs ball (2 ^ xs.length) i = false
      have hall := hs.1 hh
      unfold stS
      rw [List.any_eq_false]
      intro b hb
      rw [getD_of hix]
      intro h
      rw [Bool.and_eq_true] at h
      obtain ⟨c, hc, h1, h2⟩ := key b h.1
      have h3 := h.2
      rw [hhas b x h0.1] at h3
      have := h2 _ h3
      rw [hall c hc] at this; cases this
  · have hA := min_fold (fun b => (lvS xs b).length) ((List.range (2 ^ xs.length)).filter fun b => cnS r xs ball b) 99
    have hB := min_fold (fun x => sizeN x) (leavesL r ball (fun _ => true) (setN xs)) (xs.length : Nat)
    unfold loS lowN
    obtain ⟨a1, a2, a3⟩ := hA
    obtain ⟨b1, b2, b3⟩ := hB
    generalize ((List.range (2 ^ xs.length)).filter fun b => cnS r xs ball b).foldl (fun m b => min m (((lvS xs b).length : Nat) : Int)) 99 = A at *
    generalize (leavesL r ball (fun _ => true) (setN xs)).foldl (fun m x => min m ((sizeN x : Nat) : Int)) ((xs.length : Nat) : Int) = B at *
    have hle : ∀ c ∈ choices ball, A ≤ (sizeN (hitN r (toCs c) (fun _ => true) (setN xs)) : Nat) := fun c hc => by
      obtain ⟨b, hb, h1, h2⟩ := back c hc (fun _ => true) (fun _ _ _ => rfl)
      have := a1 b (List.mem_filter.2 ⟨List.mem_range.2 hb, h1⟩)
      simp only [h2] at this
      exact this
    have hsz : ∀ c, sizeN (hitN r (toCs c) (fun _ => true) (setN xs)) ≤ xs.length := fun c => by
      have : sizeN (hitN r (toCs c) (fun _ => true) (setN xs)) ≤ sizeN (setN xs) := els_mono (leftN_le _ _ _ _) hs1
      have e : sizeN (setN xs) = xs.length := by unfold sizeN; rw [hs3]
      omega
    have h1 : A ≤ B := by
      rcases b3 with h | ⟨y, hy, h⟩
      · have := hle c0 hc0; have := hsz c0; omega
      · obtain ⟨c, hc, rfl⟩ := List.mem_map.1 hy
        have := hle c hc; omega
    have h2 : B ≤ A := by
      rcases a3 with h | ⟨b, hb, h⟩
      · omega
      · obtain ⟨c, hc, k1, k2⟩ := key b (List.mem_filter.1 hb).2
        have := b1 _ (List.mem_map.2 ⟨c, hc, rfl⟩)
        have := els_mono k1 (hset b)
        have := hlen b
        omega
    omega
  · have hA := max_fold (fun b => (lvS xs b).length) ((List.range (2 ^ xs.length)).filter fun b => cnS r xs ball b) (-1)
    have hB := max_fold (fun x => sizeN x) (leavesL r ball (fun l => l.sr) (setN xs)) 0
    unfold hiS topN
    obtain ⟨a1, a2, a3⟩ := hA
    obtain ⟨b1, b2, b3⟩ := hB
    generalize ((List.range (2 ^ xs.length)).filter fun b => cnS r xs ball b).foldl (fun m b => max m (((lvS xs b).length : Nat) : Int)) (-1) = A at *
    generalize (leavesL r ball (fun l => l.sr) (setN xs)).foldl (fun m x => max m ((sizeN x : Nat) : Int)) 0 = B at *
    have hle : ∀ c ∈ choices ball, ((sizeN (hitN r (toCs c) (fun l => l.sr) (setN xs)) : Nat) : Int) ≤ A := fun c hc => by
      obtain ⟨b, hb, h1, h2⟩ := back c hc (fun l => l.sr) (fun _ _ h => h)
      have := a1 b (List.mem_filter.2 ⟨List.mem_range.2 hb, h1⟩)
      simp only [h2] at this
      exact this
    have h1 : B ≤ A := by
      rcases b3 with h | ⟨y, hy, h⟩
      · have := hle c0 hc0; omega
      · obtain ⟨c, hc, rfl⟩ := List.mem_map.1 hy
        have := hle c hc; omega
    have h2 : A ≤ B := by
      rcases a3 with h | ⟨b, hb, h⟩
      · omega
      · obtain ⟨c, hc, k1, k2⟩ := key b (List.mem_filter.1 hb).2
        have := b1 _ (List.mem_map.2 ⟨c, hc, rfl⟩)
        have := els_mono k2 (hlt' _ _)
        have := hlen b
        omega
    omega

end Go.Proofs.YtaloffdkadhhnaaDoor
