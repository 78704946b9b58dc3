/- What is seen of lanes with more words, or with the same ones: the mathematics. -/
import Derived.Test.YtbbndcfnpfedpaaYd
import Derived.Test.YtbbndcfnpfedpaaXb
set_option linter.unusedVariables false
set_option linter.unusedSimpArgs false
namespace Go.Proofs.Ytbbndcfnpfedpaa
open Go.RowKit Go.Shelf Go.Maps

theorem cnt_le {p : Int × Int → Bool} : ∀ (A B : List (Int × Int)), A.length = B.length → (∀ (i : Nat) x y, A[i]? = some x → B[i]? = some y → p y = true → p x = true) → B.countP p ≤ A.countP p
  | [], [], _, _ => Nat.le_refl _
  | [], y :: B, h, _ => by simp at h
  | x :: A, [], h, _ => by simp at h
  | x :: A, y :: B, h, hp => by
    have ih := cnt_le A B (by simpa using h) fun i a b ha hb => hp (i + 1) a b (by simpa using ha) (by simpa using hb)
    have h0 := hp 0 x y rfl rfl
    rw [List.countP_cons, List.countP_cons]
    cases hy : p y with
    | false => simp; split <;> omega
    | true => rw [h0 hy]; simp; omega
theorem sure_count (l : Lan) (ts : List Int) : (sureL l ts).length = (rngsL l ts).countP fun r => r.1 == r.2 := by
  unfold sureL sureP rngsL
  rw [List.length_map, List.countP_map, List.countP_eq_length_filter]
  rfl
theorem rngs_ord {l : Lan} {ts : List Int} (h : gofE l ts = 0) {i : Nat} {x : Int × Int} (hx : (rngsL l ts)[i]? = some x) : x.1 ≤ x.2 := by
  obtain ⟨f, hf, hi⟩ := rngs_cases h (List.getElem?_eq_some_iff.1 hx).1
  obtain ⟨a1, a2⟩ := rngs_at h hf
  have hne := games_ne h hf
  rcases hi with rfl | rfl
  · rw [a1] at hx; cases hx
    have h3 : ((gamesL l.ws (offS ts) (f : Int)).map fun p => p.1) ≠ [] := by simpa using hne
    exact ((spanL_spec h3).2.2 _ (spanL_spec h3).1).2
  · rw [a2] at hx; cases hx
    have h3 : ((gamesL l.ws (offS ts) (f : Int)).map fun p => p.2) ≠ [] := by simpa using hne
    exact ((spanL_spec h3).2.2 _ (spanL_spec h3).1).2
theorem fs5 {l : Lan} {ts : List Int} (h : gofE l ts = 0) : 1 ≤ l.fs ∧ l.fs ≤ 5 := by
  have := fault0 (chkE_zero (gofE_zero h).1).1
  exact ⟨this.2.2.1, this.2.2.2.1⟩
theorem NarH.of_sub {a b : Lan} {ts : List Int} (ha : gofE a ts = 0) (hb : gofE b ts = 0) (hfs : b.fs = a.fs) (hs : SubF a.ws b.ws (offS ts) (offS ts)) : NarH a b ts := by
  obtain ⟨r, c1, c2, m⟩ := narrow hfs ha hb hs
  have hl : (rngsL a ts).length = (rngsL b ts).length := by rw [rngsL_len ha, rngsL_len hb, hfs]
  refine ⟨ha, hb, hl, by rw [rngsL_len hb]; have := fs5 hb; omega, ?_, m, c1, c2, r⟩
  rw [sure_count, sure_count]
  refine cnt_le _ _ hl fun i x y hx hy e => ?_
  have h1 := r i x y hx hy
  have h2 := rngs_ord ha hx
  have e2 : y.1 = y.2 := by simpa using e
  have : x.1 = x.2 := by omega
  simpa using this
theorem NarH.of_eq {a b : Lan} {ts : List Int} (ha : gofE a ts = 0) (hb : gofE b ts = 0) (hg : gofL a ts = gofL b ts) : NarH a b ts := by
  have hr : rngsL a ts = rngsL b ts := by unfold rngsL; rw [hg]
  have hs : sureL a ts = sureL b ts := by unfold sureL; rw [hg]
  have hm : manyN a ts = manyN b ts := by unfold manyN; rw [ha, hb, hg]
  refine ⟨ha, hb, by rw [hr], by rw [rngsL_len hb]; have := fs5 hb; omega, by rw [hs]; exact Nat.le_refl _, by rw [hm]; exact Nat.le_refl _, by rw [hg]; exact Int.le_refl _, by rw [hg]; exact Int.le_refl _, fun i x y hx hy => ?_⟩
  rw [hr, hy] at hx
  cases hx
  exact ⟨Int.le_refl _, Int.le_refl _⟩
theorem NarH.to {fa fb : Int} {wa wb : List Wd} {a1 a2 b1 b2 : Option Addr} {c1 c2 d1 d2 : Nat} {ts : List Int} (h : NarH ⟨fa, a1, c1, wa⟩ ⟨fb, b1, d1, wb⟩ ts) : NarH ⟨fa, a2, c2, wa⟩ ⟨fb, b2, d2, wb⟩ ts :=
  ⟨h.ea, h.eb, h.len, h.l10, h.sure, h.many, h.c1, h.c2, h.rng⟩

theorem same_frm {l : Lan} {ws : List Wd} {s : Int → Bool} (h : ∀ f : Nat, (f : Int) < l.fs → gamesL ws s (f : Int) = gamesL l.ws s (f : Int)) : frmL (withW l ws) s = frmL l s := by
  unfold frmL withW
  refine List.map_congr_left fun f hf => h f ?_
  have := List.mem_range.1 hf
  simp only at this
  omega
theorem same_gof {l : Lan} {ws : List Wd} {ts : List Int} (h0 : gofE l ts = 0) (hF : faultW (withW l ws) = 0) (h : ∀ f : Nat, (f : Int) < l.fs → gamesL ws (offS ts) (f : Int) = gamesL l.ws (offS ts) (f : Int)) : gofE (withW l ws) ts = 0 ∧ gofL (withW l ws) ts = gofL l ts := by
  obtain ⟨hc, hp⟩ := gofE_zero h0
  have hri : riseIn 0 3 ts = true := (chkE_zero hc).2
  have hc2 : chkE (withW l ws) ts = 0 := chkE_ok hF hri
  have hE : gofE (withW l ws) ts = 0 := by
    unfold gofE
    rw [if_pos hc2, if_pos]
    rw [poss_f]
    intro f hf
    show gamesL ws _ _ ≠ []
    rw [h f hf]
    exact poss_f.1 hp f hf
  refine ⟨hE, ?_⟩
  rw [gofL_ok hE, gofL_ok h0]
  exact same_frm h

/-- A word that says the range of a place changes nothing. -/
theorem more_same {l : Lan} {ts : List Int} (hE : gofE l ts = 0) (hn29 : l.ws.length ≤ 29) {k : Nat} {r : Int × Int} (hr : (rngsL l ts)[k]? = some r) {t : Int} (ht : 0 ≤ t ∧ t ≤ 3) :
    NarH (withW l (l.ws ++ [⟨((k / 2 : Nat) : Int), ((k % 2 : Nat) : Int), t, r.1, r.2⟩])) l ts ∧ NarH l (withW l (l.ws ++ [⟨((k / 2 : Nat) : Int), ((k % 2 : Nat) : Int), t, r.1, r.2⟩])) ts := by
  obtain ⟨hc, hp⟩ := gofE_zero hE
  have hF := (chkE_zero hc).1
  have hkl : k < 2 * l.fs.toNat := by rw [← rngsL_len hE]; exact (List.getElem?_eq_some_iff.1 hr).1
  have hfs := fs5 hE
  have hfk : ((k / 2 : Nat) : Int) < l.fs := by omega
  obtain ⟨a1, a2⟩ := rngs_at hE hfk
  have hne := games_ne hE hfk
  have key : (∀ p ∈ gamesL l.ws (offS ts) ((k / 2 : Nat) : Int), (k % 2 = 0 → r.1 ≤ p.1 ∧ p.1 ≤ r.2) ∧ (k % 2 = 1 → r.1 ≤ p.2 ∧ p.2 ≤ r.2)) ∧ 0 ≤ r.1 ∧ r.1 ≤ r.2 ∧ r.2 ≤ 10 := by
    rcases Nat.mod_two_eq_zero_or_one k with hm | hm
    · have e2 : 2 * (k / 2) = k := by omega
      rw [e2] at a1
      rw [a1] at hr
      cases hr
      have h3 : ((gamesL l.ws (offS ts) ((k / 2 : Nat) : Int)).map fun p => p.1) ≠ [] := by simpa using hne
      obtain ⟨s1, s2, s3⟩ := spanL_spec h3
      obtain ⟨⟨p1, q1⟩, m1, e1⟩ := List.mem_map.1 s1
      obtain ⟨⟨p2, q2⟩, m2, e2'⟩ := List.mem_map.1 s2
      simp only at e1 e2'
      rw [mem_games] at m1 m2
      have h4 := s3 _ s1
      exact ⟨fun p hp => ⟨fun _ => s3 _ (List.mem_map.2 ⟨p, hp, rfl⟩), fun h => by omega⟩, by omega, by omega, by omega⟩
    · have e2 : 2 * (k / 2) + 1 = k := by omega
      rw [e2] at a2
      rw [a2] at hr
      cases hr
      have h3 : ((gamesL l.ws (offS ts) ((k / 2 : Nat) : Int)).map fun p => p.2) ≠ [] := by simpa using hne
      obtain ⟨s1, s2, s3⟩ := spanL_spec h3
      obtain ⟨⟨p1, q1⟩, m1, e1⟩ := List.mem_map.1 s1
      obtain ⟨⟨p2, q2⟩, m2, e2'⟩ := List.mem_map.1 s2
      simp only at e1 e2'
      rw [mem_games] at m1 m2
      have h4 := s3 _ s1
      exact ⟨fun p hp => ⟨fun h => by omega, fun _ => s3 _ (List.mem_map.2 ⟨p, hp, rfl⟩)⟩, by omega, by omega, by omega⟩
  obtain ⟨kg, k0, k1, k2⟩ := key
  have hF2 := fault_one (x := ⟨((k / 2 : Nat) : Int), ((k % 2 : Nat) : Int), t, r.1, r.2⟩) hF hn29 (wrong_no ⟨⟨by simp; omega, hfk⟩, ⟨by simp; omega, by simp; omega⟩, ht, ⟨k0, k1⟩, k2⟩)
  have hg : ∀ f : Nat, (f : Int) < l.fs → gamesL (l.ws ++ [⟨((k / 2 : Nat) : Int), ((k % 2 : Nat) : Int), t, r.1, r.2⟩]) (offS ts) (f : Int) = gamesL l.ws (offS ts) (f : Int) := fun f hf => by
    rw [games_app]
    refine List.filter_eq_self.2 fun p hp => ?_
    by_cases e : f = k / 2
    · subst e
      obtain ⟨g1, g2⟩ := kg p hp
      rw [Bool.and_eq_true]
      constructor
      · unfold okW
        cases ht : toldB (offS ts) ((k / 2 : Nat) : Int) 0 ⟨((k / 2 : Nat) : Int), ((k % 2 : Nat) : Int), t, r.1, r.2⟩ with
        | false => rfl
        | true =>
          unfold toldB at ht
          simp only [Bool.and_eq_true] at ht
          have hk0 : k % 2 = 0 := by have := ht.1.2; simp at this; omega
          have := g1 hk0
          simp only [Bool.not_true, Bool.false_or, inB_iff]
          omega
      · unfold okW
        cases ht : toldB (offS ts) ((k / 2 : Nat) : Int) 1 ⟨((k / 2 : Nat) : Int), ((k % 2 : Nat) : Int), t, r.1, r.2⟩ with
        | false => rfl
        | true =>
          unfold toldB at ht
          simp only [Bool.and_eq_true] at ht
          have hk0 : k % 2 = 1 := by have := ht.1.2; simp at this; omega
          have := g2 hk0
          simp only [Bool.not_true, Bool.false_or, inB_iff]
          omega
    · have far : ∀ b z, okW (offS ts) (f : Int) b z ⟨((k / 2 : Nat) : Int), ((k % 2 : Nat) : Int), t, r.1, r.2⟩ = true := fun b z => okW_far (by
        have : (((k / 2 : Nat) : Int) == (f : Int)) = false := by simp; omega
        rw [this]; rfl)
      rw [far, far]; rfl
  obtain ⟨e1, e2⟩ := same_gof hE hF2 hg
  exact ⟨NarH.of_eq e1 hE e2, NarH.of_eq hE e1 e2.symm⟩

/-- With one word more, if the words are still explained. -/
theorem more_nar {l : Lan} {ts : List Int} {x : Wd} (hE : gofE l ts = 0) (hF : faultW (withW l (l.ws ++ [x])) = 0) (hx : explB (withW l (l.ws ++ [x])) ts = true) : NarH (withW l (l.ws ++ [x])) l ts := by
  have hri := (chkE_zero (gofE_zero hE).1).2
  have hc2 := chkE_ok hF hri
  have e1 : gofE (withW l (l.ws ++ [x])) ts = 0 := by rw [gofE_of hc2, if_pos hx]
  refine NarH.of_sub e1 hE rfl fun fr p q h => ?_
  unfold fitsB at *
  have h' : (l.ws ++ [x]).all (okW (offS ts) fr 0 p) = true ∧ (l.ws ++ [x]).all (okW (offS ts) fr 1 q) = true := Bool.and_eq_true_iff.1 h
  rw [List.all_append, List.all_append] at h'
  rw [Bool.and_eq_true]
  exact ⟨(Bool.and_eq_true_iff.1 h'.1).1, (Bool.and_eq_true_iff.1 h'.2).1⟩

/-- Lanes of the same words, in whatever order. -/
theorem same_words {l : Lan} {ws : List Wd} (h : ∀ x, x ∈ ws ↔ x ∈ l.ws) (s : Int → Bool) (f : Int) : gamesL ws s f = gamesL l.ws s f := by
  unfold gamesL
  refine List.filter_congr fun p _ => ?_
  have key : ∀ b z, ws.all (okW s f b z) = l.ws.all (okW s f b z) := fun b z => by
    rw [Bool.eq_iff_iff, List.all_eq_true, List.all_eq_true]
    exact ⟨fun hh x hx => hh x ((h x).2 hx), fun hh x hx => hh x ((h x).1 hx)⟩
  unfold fitsB
  rw [key, key]
theorem order_same {l : Lan} {ws : List Wd} (hF : faultW l = 0) (hn : ws.length ≤ 30) (h : ∀ x, x ∈ ws ↔ x ∈ l.ws) :
    faultW (withW l ws) = 0 ∧ (∀ s, possB (withW l ws) s = possB l s) ∧ leastL (withW l ws) = leastL l ∧ blmN (withW l ws) = blmN l ∧ blmE (withW l ws) = blmE l ∧ ∀ ts, chkE (withW l ws) ts = chkE l ts ∧ explB (withW l ws) ts = explB l ts ∧ (gofE l ts = 0 → NarH l (withW l ws) ts ∧ NarH (withW l ws) l ts) := by
  have hF2 : faultW (withW l ws) = 0 := fault_with hF hn fun x hx => (fault0 hF).2.2.2.2 x ((h x).1 hx)
  have hp : ∀ s, possB (withW l ws) s = possB l s := fun s => by
    rw [Bool.eq_iff_iff, poss_f, poss_f]
    constructor
    · intro hh f hf
      have := hh f hf
      rwa [show (withW l ws).ws = ws from rfl, same_words h] at this
    · intro hh f hf
      rw [show (withW l ws).ws = ws from rfl, same_words h]
      exact hh f hf
  have hc : ∀ ts, chkE (withW l ws) ts = chkE l ts := fun ts => by unfold chkE; rw [hF, hF2]
  have hx : ∀ ts, explB (withW l ws) ts = explB l ts := fun ts => by unfold explB; rw [hc, hp]
  have hb : blameN (withW l ws) = blameN l := by unfold blameN aloneL; simp only [hx]
  refine ⟨hF2, hp, ?_, ?_, ?_, fun ts => ⟨hc ts, hx ts, fun hE => ?_⟩⟩
  · unfold leastL; rw [hF, hF2, show possB (withW l ws) = possB l from funext hp]
  · unfold blmN; rw [hF, hF2, hb]
  · unfold blmE; rw [hF, hF2, hb]
  · obtain ⟨e1, e2⟩ := same_gof hE hF2 fun f hf => same_words h _ _
    exact ⟨NarH.of_eq hE e1 e2.symm, NarH.of_eq e1 hE e2⟩

end Go.Proofs.Ytbbndcfnpfedpaa
