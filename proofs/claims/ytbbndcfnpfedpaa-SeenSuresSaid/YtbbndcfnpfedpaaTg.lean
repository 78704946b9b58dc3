/- Of fewer games: what is seen is narrower. -/
import Derived.Test.YtbbndcfnpfedpaaTe
set_option linter.unusedVariables false
set_option linter.unusedSimpArgs false
namespace Go.Proofs.Ytbbndcfnpfedpaa
open Go.RowKit Go.Shelf

theorem span_sub {ns ms : List Int} (h : ns ≠ []) (hs : ∀ n ∈ ns, n ∈ ms) : (spanL ms).1 ≤ (spanL ns).1 ∧ (spanL ns).2 ≤ (spanL ms).2 := by
  have hm : ms ≠ [] := by
    cases ns with
    | nil => exact absurd rfl h
    | cons n ns => intro e; have := hs n (by simp); rw [e] at this; cases this
  obtain ⟨a1, a2, a3⟩ := spanL_spec h
  obtain ⟨b1, b2, b3⟩ := spanL_spec hm
  exact ⟨(b3 _ (hs _ a1)).1, (b3 _ (hs _ a2)).2⟩

def SubF (ws ws' : List Wd) (s s' : Int → Bool) : Prop := ∀ fr p q, fitsB ws s fr p q = true → fitsB ws' s' fr p q = true
theorem games_sub {ws ws' : List Wd} {s s' : Int → Bool} (h : SubF ws ws' s s') (fr : Int) : (∀ p ∈ gamesL ws s fr, p ∈ gamesL ws' s' fr) ∧ (gamesL ws s fr).length ≤ (gamesL ws' s' fr).length := by
  have hsub : ∀ p ∈ gamesL ws s fr, p ∈ gamesL ws' s' fr := fun p hp => by
    obtain ⟨h1, h2⟩ := games_in hp
    unfold gamesL
    exact List.mem_filter.2 ⟨h1, h _ _ _ h2⟩
  refine ⟨hsub, ?_⟩
  have e : gamesL ws s fr = (gamesL ws' s' fr).filter fun p => fitsB ws s fr p.1 p.2 := by
    unfold gamesL
    rw [List.filter_filter]
    refine List.filter_congr fun p _ => ?_
    cases hb : fitsB ws s fr p.1 p.2
    · rfl
    · simp [h _ _ _ hb]
  rw [e]
  exact List.length_filter_le _ _

theorem fell_sub {gs gs' : List (Int × Int)} (hne : gs ≠ []) (h : ∀ p ∈ gs, p ∈ gs') : (fellL gs').1 ≤ (fellL gs).1 ∧ (fellL gs).2 ≤ (fellL gs').2 := by
  unfold fellL
  refine span_sub (by simpa using hne) fun n hn => ?_
  obtain ⟨p, hp, rfl⟩ := List.mem_map.1 hn
  exact List.mem_map.2 ⟨p, h p hp, rfl⟩
theorem cnt_mono (g g' : Nat → List (Int × Int)) : ∀ n : Nat, (∀ f, f < n → g f ≠ [] ∧ ∀ p ∈ g f, p ∈ g' f) → (cntL ((List.range n).map g')).1 ≤ (cntL ((List.range n).map g)).1 ∧ (cntL ((List.range n).map g)).2 ≤ (cntL ((List.range n).map g')).2
  | 0, _ => ⟨Int.le_refl _, Int.le_refl _⟩
  | n + 1, h => by
    have ih := cnt_mono g g' n (fun f hf => h f (by omega))
    have hn := fell_sub (h n (by omega)).1 (h n (by omega)).2
    rw [List.range_succ, List.map_append, List.map_append]
    simp only [List.map_cons, List.map_nil]
    rw [cntL_snoc, cntL_snoc]
    unfold cntStep
    simp only
    omega
theorem prod_mono (g g' : Nat → List (Int × Int)) : ∀ n : Nat, (∀ f, f < n → (g f).length ≤ (g' f).length) → prodN ((List.range n).map g) ≤ prodN ((List.range n).map g')
  | 0, _ => Nat.le_refl _
  | n + 1, h => by
    rw [List.range_succ, List.map_append, List.map_append]
    simp only [List.map_cons, List.map_nil]
    rw [prodN_snoc, prodN_snoc]
    exact Nat.mul_le_mul (prod_mono g g' n (fun f hf => h f (by omega))) (h n (by omega))

theorem rngs_cases {l : Lan} {ts : List Int} (h : gofE l ts = 0) {i : Nat} (hi : i < (rngsL l ts).length) : ∃ f : Nat, (f : Int) < l.fs ∧ (i = 2 * f ∨ i = 2 * f + 1) := by
  rw [rngsL_len h] at hi
  refine ⟨i / 2, by omega, by omega⟩

/-- With fewer games no range is wider, and there are not more games. -/
theorem narrow {l l' : Lan} {ts ts' : List Int} (hfs : l'.fs = l.fs) (h1 : gofE l ts = 0) (h2 : gofE l' ts' = 0) (hs : SubF l.ws l'.ws (offS ts) (offS ts')) :
    (∀ (i : Nat) (x y : Int × Int), (rngsL l ts)[i]? = some x → (rngsL l' ts')[i]? = some y → y.1 ≤ x.1 ∧ x.2 ≤ y.2) ∧ (cntL (gofL l' ts')).1 ≤ (cntL (gofL l ts)).1 ∧ (cntL (gofL l ts)).2 ≤ (cntL (gofL l' ts')).2 ∧ manyN l ts ≤ manyN l' ts' := by
  refine ⟨fun i x y hx hy => ?_, ?_⟩
  · obtain ⟨f, hf, hi⟩ := rngs_cases h1 (List.getElem?_eq_some_iff.1 hx).1
    have hne := games_ne h1 hf
    obtain ⟨g1, _⟩ := games_sub hs (f : Int)
    obtain ⟨a1, a2⟩ := rngs_at h1 hf
    obtain ⟨b1, b2⟩ := rngs_at h2 (f := f) (by rw [hfs]; exact hf)
    rcases hi with rfl | rfl
    · rw [a1] at hx; rw [b1] at hy
      cases hx; cases hy
      refine span_sub (by simpa using hne) fun n hn => ?_
      obtain ⟨p, hp, rfl⟩ := List.mem_map.1 hn
      exact List.mem_map.2 ⟨p, g1 p hp, rfl⟩
    · rw [a2] at hx; rw [b2] at hy
      cases hx; cases hy
      refine span_sub (by simpa using hne) fun n hn => ?_
      obtain ⟨p, hp, rfl⟩ := List.mem_map.1 hn
      exact List.mem_map.2 ⟨p, g1 p hp, rfl⟩
  · unfold manyN
    rw [if_pos h1, if_pos h2, gofL_ok h1, gofL_ok h2]
    unfold frmL
    rw [hfs]
    obtain ⟨c1, c2⟩ := cnt_mono (fun f => gamesL l.ws (offS ts) (f : Int)) (fun f => gamesL l'.ws (offS ts') (f : Int)) l.fs.toNat (fun f hf => ⟨games_ne h1 (by omega), (games_sub hs (f : Int)).1⟩)
    exact ⟨c1, c2, prod_mono _ _ _ fun f hf => (games_sub hs (f : Int)).2⟩

theorem chkE_ok {l : Lan} {ts : List Int} (h : faultW l = 0) (hr : riseIn 0 3 ts = true) : chkE l ts = 0 := by unfold chkE; rw [if_pos h, if_pos hr]
theorem gofE_of {l : Lan} {ts : List Int} (h : chkE l ts = 0) : gofE l ts = if explB l ts = true then 0 else 9 := by
  unfold gofE explB
  rw [if_pos h, h]
  simp
theorem explB_sub {l l' : Lan} {ts ts' : List Int} (hfs : l'.fs = l.fs) (h1 : chkE l ts = 0) (h2 : chkE l' ts' = 0) (hs : SubF l.ws l'.ws (offS ts) (offS ts')) (h : explB l ts = true) : explB l' ts' = true := by
  unfold explB at *
  rw [h1] at h
  rw [h2]
  simp only [decide_true, Bool.true_and] at *
  unfold possB at *
  rw [hfs]
  refine List.all_eq_true.2 fun f hf => ?_
  have h3 := List.all_eq_true.1 h f hf
  unfold someB at *
  have := (games_sub hs (f : Int)).2
  cases e : gamesL l'.ws (offS ts') (f : Int) with
  | nil =>
    rw [e] at this
    have h4 : gamesL l.ws (offS ts) (f : Int) = [] := List.eq_nil_of_length_eq_zero (by simpa using this)
    rw [h4] at h3
    simp at h3
  | cons a b => rfl
/-- More tellers left out: more games fit. -/
theorem sub_off {ws : List Wd} {s s' : Int → Bool} (h : ∀ t, s t = true → s' t = true) : SubF ws ws s s' := by
  have key : ∀ fr b z, ws.all (okW s fr b z) = true → ws.all (okW s' fr b z) = true := fun fr b z hh => by
    refine List.all_eq_true.2 fun x hx => ?_
    have := List.all_eq_true.1 hh x hx
    unfold okW toldB at *
    cases hs : s x.te
    · rw [hs] at this
      cases hs' : s' x.te
      · exact this
      · simp
    · rw [h _ hs]; simp
  intro fr p q hh
  unfold fitsB at *
  simp only [Bool.and_eq_true] at *
  exact ⟨key _ _ _ hh.1, key _ _ _ hh.2⟩
theorem offS_mem (ts : List Int) (t : Int) : offS ts t = true ↔ t ∈ ts := by
  unfold offS withS
  simp only [Bool.false_or]
  exact hasI_iff
/-- All tellers left out: all games fit. -/
theorem all_off {l : Lan} (h : faultW l = 0) : explB l [0, 1, 2, 3] = true := by
  have hc : chkE l [0, 1, 2, 3] = 0 := chkE_ok h (by decide)
  unfold explB
  rw [hc]
  simp only [decide_true, Bool.true_and]
  unfold possB
  refine List.all_eq_true.2 fun f _ => ?_
  have hm : ((0 : Int), (0 : Int)) ∈ gamesL l.ws (offS [0, 1, 2, 3]) (f : Int) := by
    unfold gamesL
    refine List.mem_filter.2 ⟨by decide, ?_⟩
    unfold fitsB
    have key : ∀ b z, l.ws.all (okW (offS [0, 1, 2, 3]) f b z) = true := fun b z => List.all_eq_true.2 fun x hx => by
      have ht := (fault0 h).1 x hx
      refine okW_out ((offS_mem _ _).2 ?_)
      have : x.te = 0 ∨ x.te = 1 ∨ x.te = 2 ∨ x.te = 3 := by omega
      rcases this with e | e | e | e <;> rw [e] <;> simp
    rw [key, key]; rfl
  unfold someB
  cases e : gamesL l.ws (offS [0, 1, 2, 3]) (f : Int) with
  | nil => rw [e] at hm; cases hm
  | cons a b => rfl

theorem ofInt8 {n : Nat} (h : n < 256) : (BitVec.ofInt 8 (n : Int)).toNat = n := by
  rw [BitVec.toNat_ofInt]; omega
theorem wrap8 {n : Nat} (h : n < 256) : IntKind.u8.wrap (n : Int) = (n : Int) := by
  unfold IntKind.wrap; simp [IntKind.bits, IntKind.signed]; omega
theorem or8 {m n : Nat} (hm : m < 256) (hn : n < 256) : bits .or .u8 (m : Int) (n : Int) = ((m ||| n : Nat) : Int) := by
  have h : m ||| n < 256 := Nat.or_lt_two_pow (n := 8) hm hn
  show IntKind.u8.wrap ((BitVec.ofInt 8 (m : Int) ||| BitVec.ofInt 8 (n : Int)).toNat : Int) = _
  rw [BitVec.toNat_or, ofInt8 hm, ofInt8 hn, wrap8 h]
theorem bitB_nat (m k : Nat) : bitB (m : Int) k = m.testBit k := by
  unfold bitB
  rw [Nat.testBit_eq_decide_div_mod_eq]
  have e : ((m : Int) / (2 : Int) ^ k % 2) = ((m / 2 ^ k % 2 : Nat) : Int) := by
    rw [Int.natCast_emod, Int.natCast_ediv, Int.natCast_pow]; rfl
  rw [e]
  by_cases h : m / 2 ^ k % 2 = 1
  · rw [h]; rfl
  · rw [decide_eq_false h]
    refine decide_eq_false fun e2 => h (by omega)
theorem chosen_or {m n : Nat} {t : Int} (h : t ∈ chosenL (m : Int)) : t ∈ chosenL ((m ||| n : Nat) : Int) := by
  unfold chosenL chosenTo at *
  obtain ⟨k, hk, rfl⟩ := List.mem_map.1 h
  obtain ⟨h1, h2⟩ := List.mem_filter.1 hk
  refine List.mem_map.2 ⟨k, List.mem_filter.2 ⟨h1, ?_⟩, rfl⟩
  rw [bitB_nat] at *
  rw [Nat.testBit_or, h2]; rfl

end Go.Proofs.Ytbbndcfnpfedpaa
