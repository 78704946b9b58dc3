/- Of words that are true of a game: the mathematics of SeenTruth and SeenBlame. -/
import Derived.Test.YtbbndcfnpfedpaaZb
set_option linter.unusedVariables false
set_option linter.unusedSimpArgs false
namespace Go.Proofs.Ytbbndcfnpfedpaa
open Go.RowKit Go.Shelf Go.Maps

theorem has_chosen {u te : Int} (ht : 0 ≤ te ∧ te ≤ 3) : hasI (chosenL u) te = bitB u te.toNat := by
  rw [Bool.eq_iff_iff, hasI_iff]
  unfold chosenL chosenTo
  rw [List.mem_map]
  constructor
  · rintro ⟨k, hk, e⟩
    have : te.toNat = k := by omega
    rw [this]
    exact (List.mem_filter.1 hk).2
  · intro h
    exact ⟨te.toNat, List.mem_filter.2 ⟨List.mem_range.2 (by omega), h⟩, by omega⟩
theorem chosen_set (u : Int) : chosenL u ∈ setsL := by
  unfold chosenL chosenTo
  have e : (List.range 4) = [0, 1, 2, 3] := rfl
  rw [e]
  simp only [List.filter]
  cases bitB u 0 <;> cases bitB u 1 <;> cases bitB u 2 <;> cases bitB u 3 <;> decide
/-- The rows of a game by words. -/
theorem rowT_vals (ns : List Int) (f : Nat) : ∃ p q : Int, rollV (rowT ns f) = ((p, q), true) ∧ behN (rowT ns f) 0 = p ∧ behN (rowT ns f) 1 = q ∧ 0 ≤ q ∧ q ≤ p ∧ p ≤ 10 := by
  have h := rowT_roll ns f
  obtain ⟨⟨⟨p, q⟩, b⟩, hrv⟩ : ∃ rv, rollV (rowT ns f) = rv := ⟨_, rfl⟩
  rw [hrv] at h
  simp only at h
  subst h
  obtain ⟨b1, b2, b3, b4⟩ := roll_behind hrv
  refine ⟨p, q, hrv, b1, b2, ?_⟩
  unfold rowT at hrv
  have h1 := Int.emod_nonneg (numB ns (2 * f)) (show (11 : Int) ≠ 0 by decide)
  have h2 := Int.emod_lt_of_pos (numB ns (2 * f)) (show (0 : Int) < 11 by decide)
  generalize numB ns (2 * f) % 11 = x at *
  split at hrv
  · cases hrv; omega
  · have hp : 0 < 11 - x := by omega
    have h3 := Int.emod_nonneg (numB ns (2 * f + 1)) (show (11 - x : Int) ≠ 0 by omega)
    have h4 := Int.emod_lt_of_pos (numB ns (2 * f + 1)) hp
    generalize numB ns (2 * f + 1) % (11 - x) = y at *
    have h5 : (if (inB x 0 9 && inB y 0 (10 - x)) = true then ((10 - x, 10 - x - y), true) else (((0 : Int), (0 : Int)), false)) = ((p, q), true) := hrv
    rw [if_pos (by rw [Bool.and_eq_true]; exact ⟨inB_iff.2 (by omega), inB_iff.2 (by omega)⟩)] at h5
    cases h5
    omega
theorem gameT_mem {ns : List Int} {F : Nat} {row : List Int} (h : row ∈ gameT ns F) : ∃ f, f < F ∧ row = rowT ns f := by
  unfold gameT at h
  obtain ⟨f, hf, rfl⟩ := List.mem_map.1 h
  exact ⟨f, List.mem_range.1 hf, rfl⟩
theorem gameT_rows {ns : List Int} {F : Nat} : ∀ row ∈ gameT ns F, row.length ≤ 1000 ∧ ∀ x ∈ row, 0 ≤ x ∧ x ≤ 10 := fun row h => by
  obtain ⟨f, _, rfl⟩ := gameT_mem h
  obtain ⟨p, q, hr, _⟩ := rowT_vals ns f
  obtain ⟨_, _, h3, h4⟩ := roll_behind hr
  exact ⟨by omega, h4⟩
/-- What stood behind a ball of it. -/
def stoodT (ns : List Int) (f b : Nat) : Int := behN (rowT ns f) b

theorem toldX_ok {ns : List Int} {F : Nat} {u : Int} {i : Nat} {l : Lan} {x : Wd} (hF : (F : Int) = l.fs) (hf : faultW l = 0) (hx : x ∈ l.ws) :
    wrongW l.fs (toldX ns (gameT ns F) u i x) = false ∧ (toldX ns (gameT ns F) u i x).te = x.te ∧ (bitB u x.te.toNat = false → fitR (chosenL u) (gameT ns F) (toldX ns (gameT ns F) u i x) = true) := by
  have hw := fault_w hf x hx
  obtain ⟨f, hfr⟩ : ∃ f : Nat, x.fr = (f : Int) := ⟨x.fr.toNat, by omega⟩
  have hfl : f < F := by omega
  have hb : x.ba.toNat = 0 ∨ x.ba.toNat = 1 := by omega
  have hgd : (gameT ns F).getD x.fr.toNat [] = rowT ns f := by rw [show x.fr.toNat = f by omega, List.getD_eq_getElem?_getD, gameT_at hfl]; rfl
  obtain ⟨p, q, _, h0, h1, hq, hqp, hp⟩ := rowT_vals ns f
  have hn : 0 ≤ behN (rowT ns f) x.ba.toNat ∧ behN (rowT ns f) x.ba.toNat ≤ 10 := by
    rcases hb with e | e <;> rw [e]
    · rw [h0]; omega
    · rw [h1]; omega
  unfold toldX
  cases hbit : bitB u x.te.toNat with
  | true =>
    rw [if_pos rfl]
    exact ⟨(fault0 hf).2.2.2.2 x hx, rfl, fun h => by cases h⟩
  | false =>
    rw [if_neg (by simp), hgd]
    obtain ⟨n, hnn⟩ : ∃ n, n = behN (rowT ns f) x.ba.toNat := ⟨_, rfl⟩
    rw [← hnn] at hn ⊢
    have hr := Int.emod_nonneg (numB ns (3 * i + 2)) (show (x.mo - x.le + 1 : Int) ≠ 0 by omega)
    generalize numB ns (3 * i + 2) % (x.mo - x.le + 1) = r at *
    refine ⟨wrong_no ⟨hw.1, hw.2.1, hw.2.2.1, ⟨by show 0 ≤ max 0 (n - r); omega, by show max 0 (n - r) ≤ max n (min 10 (max 0 (n - r) + (x.mo - x.le))); omega⟩, by show max n (min 10 (max 0 (n - r) + (x.mo - x.le))) ≤ 10; omega⟩, rfl, fun _ => ?_⟩
    unfold fitR
    rw [has_chosen hw.2.2.1, hbit, Bool.false_or, hgd]
    have : inB (behN (rowT ns f) x.ba.toNat) (max 0 (n - r)) (max n (min 10 (max 0 (n - r) + (x.mo - x.le)))) = true := by
      have e : behN (rowT ns f) x.ba.toNat = n := hnn.symm
      rw [e]; exact inB_iff.2 (by omega)
    exact this

/-- The lane with words made anew. -/
theorem told_fault {ns : List Int} {F : Nat} {u : Int} {l : Lan} (hF : (F : Int) = l.fs) (hf : faultW l = 0) : faultW (withW l (toldW ns (gameT ns F) u l.ws)) = 0 := by
  refine fault_with hf (by rw [toldW_len]; exact (fault0 hf).2.1) fun y hy => ?_
  obtain ⟨i, hi⟩ := List.mem_iff_getElem?.1 hy
  obtain ⟨x, hx, rfl⟩ := toldW_at hi
  exact (toldX_ok hF hf (List.mem_of_getElem? hx)).1
theorem told_prov {ns : List Int} {F : Nat} {u : Int} {l : Lan} (hF : (F : Int) = l.fs) (hf : faultW l = 0) : provB (withW l (toldW ns (gameT ns F) u l.ws)) (chosenL u) (gameT ns F) = true := by
  have hf2 := told_fault (ns := ns) (u := u) hF hf
  have hc : chkE (withW l (toldW ns (gameT ns F) u l.ws)) (chosenL u) = 0 := chkE_ok hf2 (chosenL_rise u)
  rw [prove_math hc, Bool.and_eq_true]
  constructor
  · unfold isgB
    rw [Bool.and_eq_true]
    refine ⟨decide_eq_true (by rw [gameT_len]; exact hF), ?_⟩
    unfold isgTo
    rw [List.all_eq_true]
    intro f hfm
    have hfl : f < F := by have := List.mem_range.1 hfm; rwa [gameT_len] at this
    rw [List.getD_eq_getElem?_getD, gameT_at hfl]
    exact rowT_roll ns f
  · unfold fitsR
    rw [List.all_eq_true]
    intro y hy
    obtain ⟨i, hi⟩ := List.mem_iff_getElem?.1 hy
    obtain ⟨x, hx, rfl⟩ := toldW_at hi
    obtain ⟨_, h2, h3⟩ := toldX_ok (ns := ns) (u := u) (i := i) hF hf (List.mem_of_getElem? hx)
    have hw := fault_w hf x (List.mem_of_getElem? hx)
    cases hb : bitB u x.te.toNat with
    | false => exact h3 hb
    | true => exact fitR_out (by rw [h2, has_chosen hw.2.2.1, hb])
/-- The frames of the game are among those that fit. -/
theorem told_games {ns : List Int} {F : Nat} {u : Int} {l : Lan} (hF : (F : Int) = l.fs) (hf : faultW l = 0) {f : Nat} (h : f < F) :
    (stoodT ns f 0, stoodT ns f 1) ∈ gamesL (withW l (toldW ns (gameT ns F) u l.ws)).ws (offS (chosenL u)) (f : Int) := by
  have hp := told_prov (ns := ns) (u := u) hF hf
  unfold provB at hp
  have h2 := (Bool.and_eq_true_iff.1 hp).2
  unfold provTo at h2
  have h3 := List.all_eq_true.1 h2 f (List.mem_range.2 (by rw [gameT_len]; exact h))
  rw [List.getD_eq_getElem?_getD, gameT_at h, Option.getD_some] at h3
  unfold rollB at h3
  obtain ⟨p, q, hr, h0, h1, hq, hqp, hp10⟩ := rowT_vals ns f
  rw [hr] at h3
  have h4 := (Bool.and_eq_true_iff.1 h3).2
  unfold fitsB at h4
  unfold stoodT
  rw [h0, h1]
  exact mem_games.2 ⟨⟨hq, hqp, hp10⟩, (Bool.and_eq_true_iff.1 h4).1, (Bool.and_eq_true_iff.1 h4).2⟩
theorem told_expl {ns : List Int} {F : Nat} {u : Int} {l : Lan} (hF : (F : Int) = l.fs) (hf : faultW l = 0) : chkE (withW l (toldW ns (gameT ns F) u l.ws)) (chosenL u) = 0 ∧ explB (withW l (toldW ns (gameT ns F) u l.ws)) (chosenL u) = true ∧ gofE (withW l (toldW ns (gameT ns F) u l.ws)) (chosenL u) = 0 := by
  have hc : chkE (withW l (toldW ns (gameT ns F) u l.ws)) (chosenL u) = 0 := chkE_ok (told_fault hF hf) (chosenL_rise u)
  have hx : explB (withW l (toldW ns (gameT ns F) u l.ws)) (chosenL u) = true := by
    unfold explB
    rw [hc]
    simp only [decide_true, Bool.true_and]
    rw [poss_f]
    intro f hf2 e
    have h9 : f < F := by
      have h8 : (f : Int) < l.fs := hf2
      omega
    have := told_games (ns := ns) (u := u) hF hf h9
    rw [e] at this
    cases this
  exact ⟨hc, hx, by rw [gofE_of hc, if_pos hx]⟩
theorem told_least {ns : List Int} {F : Nat} {u : Int} {l : Lan} (hF : (F : Int) = l.fs) (hf : faultW l = 0) : (leastL (withW l (toldW ns (gameT ns F) u l.ws))).length ≤ (chosenL u).length := by
  have hx := (told_expl (ns := ns) (u := u) hF hf).2.1
  rw [leastL_find (told_fault hF hf)]
  unfold leastN
  generalize explB (withW l (toldW ns (gameT ns F) u l.ws)) = E at *
  have hm := chosen_set u
  have hp : setsL.Pairwise (fun a b => a.length ≤ b.length) := by decide
  generalize chosenL u = ts at *
  have key : ∀ L : List (List Int), L.Pairwise (fun a b => a.length ≤ b.length) → ts ∈ L → ((L.find? fun t => E t).getD []).length ≤ ts.length := fun L => by
    induction L with
    | nil => intro _ h; cases h
    | cons a L ih =>
      intro hp h
      rw [List.find?_cons]
      cases ha : E a with
      | true =>
        show a.length ≤ _
        rcases List.mem_cons.1 h with rfl | h
        · exact Nat.le_refl _
        · exact (List.pairwise_cons.1 hp).1 ts h
      | false =>
        rcases List.mem_cons.1 h with rfl | h
        · rw [hx] at ha; cases ha
        · exact ih (List.pairwise_cons.1 hp).2 h
  exact key setsL hp hm

/-- What stood is in its range. -/
theorem told_rng {ns : List Int} {F : Nat} {u : Int} {l : Lan} (hF : (F : Int) = l.fs) (hf : faultW l = 0) {i : Nat} {r : Int × Int} (hr : (rngsL (withW l (toldW ns (gameT ns F) u l.ws)) (chosenL u))[i]? = some r) :
    i / 2 < F ∧ r.1 ≤ stoodT ns (i / 2) (i % 2) ∧ stoodT ns (i / 2) (i % 2) ≤ r.2 := by
  have hE := (told_expl (ns := ns) (u := u) hF hf).2.2
  have hl : i < 2 * (withW l (toldW ns (gameT ns F) u l.ws)).fs.toNat := by rw [← rngsL_len hE]; exact (List.getElem?_eq_some_iff.1 hr).1
  have hl2 : i < 2 * l.fs.toNat := hl
  have h9 : i / 2 < F := by omega
  have hg := told_games (ns := ns) (u := u) hF hf h9
  obtain ⟨a1, a2⟩ := rngs_at hE (f := i / 2) (show ((i / 2 : Nat) : Int) < l.fs by omega)
  refine ⟨h9, ?_⟩
  rcases Nat.mod_two_eq_zero_or_one i with hm | hm
  · have e2 : 2 * (i / 2) = i := by omega
    rw [e2] at a1
    rw [a1] at hr; cases hr
    rw [hm]
    have hm2 : stoodT ns (i / 2) 0 ∈ (gamesL (withW l (toldW ns (gameT ns F) u l.ws)).ws (offS (chosenL u)) ((i / 2 : Nat) : Int)).map fun p => p.1 := List.mem_map.2 ⟨_, hg, rfl⟩
    exact (spanL_spec (by intro e; rw [e] at hm2; cases hm2)).2.2 _ hm2
  · have e2 : 2 * (i / 2) + 1 = i := by omega
    rw [e2] at a2
    rw [a2] at hr; cases hr
    rw [hm]
    have hm2 : stoodT ns (i / 2) 1 ∈ (gamesL (withW l (toldW ns (gameT ns F) u l.ws)).ws (offS (chosenL u)) ((i / 2 : Nat) : Int)).map fun p => p.2 := List.mem_map.2 ⟨_, hg, rfl⟩
    exact (spanL_spec (by intro e; rw [e] at hm2; cases hm2)).2.2 _ hm2
/-- How many fell, of the first places. -/
def cntT (ns : List Int) : Nat → Int
  | 0 => 0
  | n + 1 => cntT ns n + (10 - stoodT ns n 1)
theorem told_cnt {ns : List Int} {F : Nat} {u : Int} {l : Lan} (hF : (F : Int) = l.fs) (hf : faultW l = 0) :
    (cntL (gofL (withW l (toldW ns (gameT ns F) u l.ws)) (chosenL u))).1 ≤ cntT ns F ∧ cntT ns F ≤ (cntL (gofL (withW l (toldW ns (gameT ns F) u l.ws)) (chosenL u))).2 := by
  have hE := (told_expl (ns := ns) (u := u) hF hf).2.2
  rw [gofL_ok hE]
  unfold frmL
  have hFn : (withW l (toldW ns (gameT ns F) u l.ws)).fs.toNat = F := by show l.fs.toNat = F; omega
  rw [hFn]
  have key : ∀ n : Nat, n ≤ F → (cntL ((List.range n).map fun (f : Nat) => gamesL (withW l (toldW ns (gameT ns F) u l.ws)).ws (offS (chosenL u)) (f : Int))).1 ≤ cntT ns n ∧ cntT ns n ≤ (cntL ((List.range n).map fun (f : Nat) => gamesL (withW l (toldW ns (gameT ns F) u l.ws)).ws (offS (chosenL u)) (f : Int))).2 := fun n => by
    induction n with
    | zero => intro _; exact ⟨Int.le_refl _, Int.le_refl _⟩
    | succ n ih =>
      intro hn
      have ih2 := ih (by omega)
      have hg := told_games (ns := ns) (u := u) hF hf (f := n) (by omega)
      rw [List.range_succ, List.map_append]
      simp only [List.map_cons, List.map_nil]
      rw [cntL_snoc]
      unfold cntStep
      have hm2 : (10 - stoodT ns n 1) ∈ (gamesL (withW l (toldW ns (gameT ns F) u l.ws)).ws (offS (chosenL u)) ((n : Nat) : Int)).map fun p => 10 - p.2 := List.mem_map.2 ⟨_, hg, rfl⟩
      have h3 := (spanL_spec (by intro e; rw [e] at hm2; cases hm2)).2.2 _ hm2
      have h4 : (fellL (gamesL (withW l (toldW ns (gameT ns F) u l.ws)).ws (offS (chosenL u)) ((n : Nat) : Int))).1 ≤ 10 - stoodT ns n 1 ∧ 10 - stoodT ns n 1 ≤ (fellL (gamesL (withW l (toldW ns (gameT ns F) u l.ws)).ws (offS (chosenL u)) ((n : Nat) : Int))).2 := h3
      simp only
      show _ ≤ cntT ns n + (10 - stoodT ns n 1) ∧ cntT ns n + (10 - stoodT ns n 1) ≤ _
      omega
  exact key F (Nat.le_refl _)
theorem rngL_at2 {L : List (List (Int × Int))} {i : Nat} {x : (Int × Int) × (Int × Int)} (h : (rngL L)[i]? = some x) : x.1 = (((i / 2 : Nat) : Int), ((i % 2 : Nat) : Int)) := by
  have hl : i < 2 * L.length := by rw [← rngL_len]; exact (List.getElem?_eq_some_iff.1 h).1
  obtain ⟨h1, h2⟩ := flat_two (rngF L) (fun k => rfl) L.length (i / 2) (by omega)
  have hdm : i = 2 * (i / 2) + i % 2 := by omega
  unfold rngL at h
  rcases Nat.mod_two_eq_zero_or_one i with e | e
  · rw [e]
    generalize i / 2 = j at *
    obtain rfl : i = 2 * j := by omega
    rw [h1] at h
    have : x = (((j : Int), 0), spanL ((L.getD j []).map fun p => p.1)) := by simpa [rngF] using h.symm
    rw [this]; rfl
  · rw [e]
    generalize i / 2 = j at *
    obtain rfl : i = 2 * j + 1 := by omega
    rw [h2] at h
    have : x = (((j : Int), 1), spanL ((L.getD j []).map fun p => p.2)) := by simpa [rngF] using h.symm
    rw [this]; rfl
/-- Where a place is sure, its range is one number. -/
theorem sure_rng {l : Lan} {ts : List Int} {j : Nat} {p : Int × Int} (h : (sureL l ts)[j]? = some p) : ∃ (k : Nat) (r : Int × Int), 2 * p.1 + p.2 = (k : Int) ∧ (rngsL l ts)[k]? = some r ∧ r.1 = r.2 := by
  unfold sureL sureP at h
  have hm := List.mem_of_getElem? h
  obtain ⟨x, hx, rfl⟩ := List.mem_map.1 hm
  obtain ⟨hx1, hx2⟩ := List.mem_filter.1 hx
  obtain ⟨k, hk⟩ := List.mem_iff_getElem?.1 hx1
  have e := rngL_at2 hk
  refine ⟨k, x.2, ?_, ?_, ?_⟩
  · rw [e]; simp only; omega
  · unfold rngsL; rw [List.getElem?_map, hk]; rfl
  · unfold sureF at hx2; simpa using hx2

/-- Who is alone to blame, if all but one tell what is true. -/
theorem told_blame {ns : List Int} {F : Nat} {k : Int} {l : Lan} (hF : (F : Int) = l.fs) (hf : faultW l = 0) {x : Lan} (hx0 : faultW x = 0) (hk : 0 ≤ k ∧ k ≤ 3) (hx : explB x [k] = true) : (blmE x = 7 ∧ blmN x = 0) ∨ (blmE x = 0 ∧ blmN x = k) := by
  unfold blmE blmN
  rw [if_pos hx0, if_pos hx0]
  by_cases h : blameN x = -1
  · rw [if_pos h, if_pos h]; exact .inl ⟨rfl, rfl⟩
  · rw [if_neg h, if_neg h]
    right
    refine ⟨rfl, ?_⟩
    unfold blameN at h ⊢
    by_cases h0 : explB x [] = true
    · rw [if_pos h0] at h; exact absurd rfl h
    · rw [if_neg h0] at h ⊢
      by_cases h1 : (aloneL x 4).length = 1
      · rw [if_pos h1]
        have hm : k ∈ aloneL x 4 := by
          unfold aloneL
          refine List.mem_filter.2 ⟨?_, hx⟩
          rcases four_cases hk with rfl | rfl | rfl | rfl <;> decide
        obtain ⟨b, hb⟩ := List.length_eq_one_iff.1 h1
        rw [hb] at hm ⊢
        obtain rfl : k = b := by simpa using hm
        rfl
      · rw [if_neg h1] at h; exact absurd rfl h

end Go.Proofs.Ytbbndcfnpfedpaa
