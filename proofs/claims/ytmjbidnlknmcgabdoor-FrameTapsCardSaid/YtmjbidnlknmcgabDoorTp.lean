/- With a lesser Tap: if the balls lie in the same frames, no ball counts less, and no count that both have is less. -/
import Derived.Test.YtmjbidnlknmcgabDoorCt
set_option linter.unusedVariables false
set_option linter.unusedSimpArgs false
namespace Go.Proofs.YtmjbidnlknmcgabDoor
open Go.RowKit

/-- The same law but for a Tap that is not greater. -/
structure Kd (l x : Lw) : Prop where
  f : x.fr = l.fr
  p : x.pn = l.pn
  b : x.bl = l.bl
  t : x.tp ≤ l.tp

/-- A ball that leaves its frame open, or opens the next one. -/
theorem beh_open {l : Lw} {s : Sd} {k : Int} (h : (behS l s k).f = s.f) :
    (behS l s k).b = s.b + 1 ∧ ((s.s - cnt l s k = 0 ∧ s.f = l.fr - 1 ∧ (behS l s k).s = l.pn ∧ (behS l s k).fresh = true) ∨ (s.s - cnt l s k ≠ 0 ∧ (behS l s k).s = s.s - cnt l s k ∧ (behS l s k).fresh = false)) := by
  have hmf : (midS l (thrS l s k)).f = s.f := midS_f l _
  have hmb : (midS l (thrS l s k)).b = s.b + 1 := by
    unfold midS thrS allS
    split
    · split <;> rfl
    · rfl
  have hms : (midS l (thrS l s k)).s = s.s - cnt l s k := by
    unfold midS thrS allS
    split
    · split <;> rfl
    · rfl
  have hmr : (midS l (thrS l s k)).fresh = false := by
    unfold midS thrS allS
    split
    · split <;> rfl
    · rfl
  unfold behS at h ⊢
  generalize hu : midS l (thrS l s k) = u at hmf hmb hms hmr h ⊢
  unfold finS at h ⊢
  by_cases he : endS l u = true
  · rw [if_pos he] at h
    exfalso
    unfold nextS setS at h
    split at h <;> simp only at h <;> omega
  · rw [if_neg he] at h ⊢
    by_cases hz : u.s = 0
    · rw [if_pos hz]
      have hl : s.f = l.fr - 1 := by
        unfold endS at he
        rw [hmf] at he
        by_cases hl : s.f = l.fr - 1
        · exact hl
        · rw [if_neg hl] at he
          simp [hz] at he
      exact ⟨hmb, .inl ⟨by omega, hl, rfl, rfl⟩⟩
    · rw [if_neg hz]
      exact ⟨hmb, .inr ⟨by omega, hms, hmr⟩⟩

theorem beh_next {l : Lw} {s : Sd} {k : Int} (h : (behS l s k).f ≠ s.f) (h2 : (behS l s k).f ≠ l.fr) : (behS l s k).b = 0 ∧ (behS l s k).s = l.pn ∧ (behS l s k).fresh = true := by
  have hmf : (midS l (thrS l s k)).f = s.f := midS_f l _
  unfold behS at h h2 ⊢
  generalize hu : midS l (thrS l s k) = u at hmf h h2 ⊢
  unfold finS at h h2 ⊢
  by_cases he : endS l u = true
  · rw [if_pos he] at h h2 ⊢
    unfold nextS setS at h2 ⊢
    split
    · rename_i e
      rw [if_pos e] at h2
      exact absurd e h2
    · exact ⟨rfl, rfl, rfl⟩
  · rw [if_neg he] at h
    exfalso
    apply h
    split
    · exact hmf
    · exact hmf

/-- How two games of the same balls stand, by a law and a kinder one. -/
structure Jk (l : Lw) (s s' : Sd) : Prop where
  f : s'.f = s.f
  b : s'.b = s.b
  std : s.f ≠ l.fr - 1 → s'.s = s.s ∧ s'.fresh = s.fresh
  b0 : s.b = 0 → s.s = l.pn ∧ s'.s = l.pn ∧ s.fresh = true ∧ s'.fresh = true
  b1 : s.f = l.fr - 1 → s.b = 1 → (s'.s = s.s ∧ s'.fresh = s.fresh) ∨ (s.fresh = false ∧ s'.fresh = true ∧ s'.s = l.pn ∧ l.pn - s.s < l.tp ∧ 0 < s.s)
  b2 : s.f = l.fr - 1 → s.b = 2 → s.fresh = true → s'.fresh = true ∨ s'.s < l.tp

theorem Jk.cle {l x : Lw} {s s' : Sd} {k : Int} (h : Jk l s s') (hk : Kd l x) (ok : l.Ok) (v : Vd l s) (v' : Vd x s') (h1 : -1 ≤ k) (h2 : k ≤ s.s) (h3 : k ≤ s'.s) : cnt l s k ≤ cnt x s' k := by
  have e1 := hk.p
  have e2 := hk.t
  have hs := v'.s2
  unfold cnt
  by_cases hm : k = -1
  · simp [hm]
  · rw [if_neg hm, if_neg hm]
    by_cases hf : s.fresh = true ∧ l.tp ≤ k
    · rw [if_pos hf]
      have hf' : s'.fresh = true := by
        by_cases hl : s.f = l.fr - 1
        · have hb1 := v.b1
          have hb2 := v.b2
          rcases (by omega : s.b = 0 ∨ s.b = 1 ∨ s.b = 2) with hb | hb | hb
          · exact (h.b0 hb).2.2.2
          · rcases h.b1 hl hb with ⟨_, h5⟩ | ⟨h5, h6, _⟩
            · rw [h5]; exact hf.1
            · exact h6
          · rcases h.b2 hl hb hf.1 with h5 | h5
            · exact h5
            · omega
        · rw [(h.std hl).2]; exact hf.1
      rw [if_pos ⟨hf', by omega⟩]
      omega
    · rw [if_neg hf]
      split
      · omega
      · omega

theorem Jk.step {l x : Lw} {s s' : Sd} {k : Int} (h : Jk l s s') (hk : Kd l x) (ok : l.Ok) (okx : x.Ok) (v : Vd l s) (v' : Vd x s') (ht : okT l s k = true) (ht' : okT x s' k = true)
    (hf : (behS x s' k).f = (behS l s k).f) (hne : (behS l s k).f ≠ l.fr) : Jk l (behS l s k) (behS x s' k) := by
  obtain ⟨g1, g2, g3⟩ := okT_out ht
  obtain ⟨g1', g2', g3'⟩ := okT_out ht'
  have hlt : s.f < l.fr := by have := v.f2; omega
  have hlt' : s'.f < x.fr := by have := v'.f2; omega
  have w := (beh_vd ok v hlt g2 g3).1
  have w' := (beh_vd okx v' hlt' g2' g3').1
  have ef := h.f
  have eb := h.b
  have kf := hk.f
  have kp := hk.p
  have kt := hk.t
  have t1 := ok.t1
  have t2 := ok.t2
  have t1' := okx.t1
  have p1 := ok.p1
  have hs1 := v.s1
  have hs2 := v.s2
  have hs1' := v'.s1
  have hs2' := v'.s2
  by_cases hs : (behS l s k).f = s.f
  · have hs' : (behS x s' k).f = s'.f := by omega
    obtain ⟨q1, q2⟩ := beh_open hs
    obtain ⟨q1', q2'⟩ := beh_open hs'
    have hcv : ∀ (L : Lw) (S : Sd), 1 ≤ L.tp → (cnt L S k = L.pn ∧ S.fresh = true ∧ L.tp ≤ k) ∨ ((S.fresh = true → k < L.tp) ∧ cnt L S k = (if k = -1 then 0 else k)) := by
      intro L S hL
      unfold cnt
      by_cases hm : k = -1
      · exact .inr ⟨fun _ => by omega, by simp [hm]⟩
      · by_cases hx : S.fresh = true ∧ L.tp ≤ k
        · exact .inl ⟨by rw [if_neg hm, if_pos hx], hx.1, hx.2⟩
        · exact .inr ⟨fun e => Int.not_le.1 (fun h2 => hx ⟨e, h2⟩), by rw [if_neg hm, if_neg hx, if_neg hm]⟩
    have c1 := hcv l s t1
    have c2 := hcv x s' t1'
    generalize cnt l s k = C at *
    generalize cnt x s' k = C' at *
    obtain ⟨kk, hkk⟩ : ∃ kk, (if k = -1 then (0 : Int) else k) = kk := ⟨_, rfl⟩
    rw [hkk] at c1 c2
    have hkk1 : (k = -1 ∧ kk = 0) ∨ (k ≠ -1 ∧ kk = k) := by
      by_cases e : k = -1
      · rw [if_pos e] at hkk; exact .inl ⟨e, hkk.symm⟩
      · rw [if_neg e] at hkk; exact .inr ⟨e, hkk.symm⟩
    have hfr := v.fresh
    have hfr' := v'.fresh
    refine ⟨by omega, by omega, fun hl => ?_, fun hb => ?_, fun hl hb => ?_, fun hl hb hfre => ?_⟩
    · have hl0 : s.f ≠ l.fr - 1 := by omega
      obtain ⟨e1, e2⟩ := h.std hl0
      rcases q2 with ⟨_, q, _⟩ | ⟨z1, z2, z3⟩
      · omega
      · rcases q2' with ⟨_, q, _⟩ | ⟨z1', z2', z3'⟩
        · omega
        · refine ⟨?_, by rw [z3, z3']⟩
          rcases c1 with ⟨d1, d2, d3⟩ | ⟨d1, d2⟩
          · have := hfr d2; omega
          · rcases c2 with ⟨d1', d2', d3'⟩ | ⟨d1', d2'⟩
            · have := hfr' d2'; omega
            · omega
    · have := v.b1; omega
    · have hl0 : s.f = l.fr - 1 := by omega
      obtain ⟨e1, e2, e3, e4⟩ := h.b0 (by omega)
      rcases c1 with ⟨d1, d2, d3⟩ | ⟨d1, d2⟩
      · rcases c2 with ⟨d1', d2', d3'⟩ | ⟨d1', d2'⟩
        · rcases q2 with ⟨z0, z1, z2, z3⟩ | ⟨z1, z2, z3⟩
          · rcases q2' with ⟨z0', z1', z2', z3'⟩ | ⟨z1', z2', z3'⟩
            · exact .inl ⟨by omega, by rw [z3, z3']⟩
            · omega
          · omega
        · have := d1' e4; omega
      · have k1 := d1 e3
        rcases c2 with ⟨d1', d2', d3'⟩ | ⟨d1', d2'⟩
        · rcases q2 with ⟨z0, z1, z2, z3⟩ | ⟨z1, z2, z3⟩
          · omega
          · rcases q2' with ⟨z0', z1', z2', z3'⟩ | ⟨z1', z2', z3'⟩
            · exact .inr ⟨z3, z3', by omega, by omega, by omega⟩
            · omega
        · rcases q2 with ⟨z0, z1, z2, z3⟩ | ⟨z1, z2, z3⟩
          · rcases q2' with ⟨z0', z1', z2', z3'⟩ | ⟨z1', z2', z3'⟩
            · exact .inl ⟨by omega, by rw [z3, z3']⟩
            · omega
          · rcases q2' with ⟨z0', z1', z2', z3'⟩ | ⟨z1', z2', z3'⟩
            · omega
            · exact .inl ⟨by omega, by rw [z3, z3']⟩
    · have hl0 : s.f = l.fr - 1 := by omega
      have hb1 : s.b = 1 := by omega
      rcases q2 with ⟨z0, z1, z2, z3⟩ | ⟨z1, z2, z3⟩
      · rcases h.b1 hl0 hb1 with ⟨e1, e2⟩ | ⟨e1, e2, e3, e4, e5⟩
        · left
          rcases q2' with ⟨z0', z1', z2', z3'⟩ | ⟨z1', z2', z3'⟩
          · exact z3'
          · exfalso
            rcases c1 with ⟨d1, d2, d3⟩ | ⟨d1, d2⟩
            · have f1 := hfr d2
              rcases c2 with ⟨d1', d2', d3'⟩ | ⟨d1', d2'⟩
              · omega
              · have := d1' (by rw [e2]; exact d2); omega
            · rcases c2 with ⟨d1', d2', d3'⟩ | ⟨d1', d2'⟩
              · have f1 := hfr' d2'
                omega
              · omega
        · rcases c1 with ⟨d1, d2, d3⟩ | ⟨d1, d2⟩
          · rw [e1] at d2; cases d2
          · rcases q2' with ⟨z0', z1', z2', z3'⟩ | ⟨z1', z2', z3'⟩
            · exact .inl z3'
            · right
              rcases c2 with ⟨d1', d2', d3'⟩ | ⟨d1', d2'⟩
              · omega
              · omega
      · rw [z3] at hfre; cases hfre
  · have hs' : (behS x s' k).f ≠ s'.f := by omega
    obtain ⟨q1, q2, q3⟩ := beh_next hs hne
    obtain ⟨q1', q2', q3'⟩ := beh_next hs' (by omega)
    exact ⟨hf, by omega, fun _ => ⟨by omega, by rw [q3, q3']⟩, fun _ => ⟨q2, by omega, q3, q3'⟩, fun _ hb => by omega, fun _ hb => by omega⟩

/-- Ball by ball, no ball counts less. -/
def Les : List Int → List Int → Prop
  | [], [] => True
  | c :: cs, d :: ds => c ≤ d ∧ Les cs ds
  | _, _ => False

theorem Jk.play {l x : Lw} (hk : Kd l x) (ok : l.Ok) (okx : x.Ok) : ∀ (bs : List Int) (s s' : Sd), Vd l s → Vd x s' → (s.f ≠ l.fr → bs ≠ [] → Jk l s s') → (playL l s bs).length = bs.length → (playL x s' bs).length = bs.length →
    (playL l s bs).map (·.1) = (playL x s' bs).map (·.1) → Les ((playL l s bs).map (·.2)) ((playL x s' bs).map (·.2))
  | [], s, s', _, _, _, _, _, _ => by simp [playL, Les]
  | k :: ks, s, s', v, v', hj, h1, h2, ht => by
    cases ho : okT l s k
    · simp [playL, ho] at h1
    · cases ho' : okT x s' k
      · simp [playL, ho'] at h2
      · have e1 : playL l s (k :: ks) = (s.f, cnt l s k) :: playL l (behS l s k) ks := by rw [playL, if_pos ho]
        have e2 : playL x s' (k :: ks) = (s'.f, cnt x s' k) :: playL x (behS x s' k) ks := by rw [playL, if_pos ho']
        rw [e1] at h1 ht ⊢
        rw [e2] at h2 ht ⊢
        simp only [List.map_cons, List.length_cons, List.cons.injEq, Nat.add_right_cancel_iff] at h1 h2 ht ⊢
        obtain ⟨g1, g2, g3⟩ := okT_out ho
        obtain ⟨g1', g2', g3'⟩ := okT_out ho'
        have hJ := hj g1 (by simp)
        have hlt : s.f < l.fr := by have := v.f2; omega
        have hlt' : s'.f < x.fr := by have := v'.f2; omega
        refine ⟨hJ.cle hk ok v v' g2 g3 g3', Jk.play hk ok okx ks _ _ (beh_vd ok v hlt g2 g3).1 (beh_vd okx v' hlt' g2' g3').1 ?_ h1 h2 ht.2⟩
        intro hne hks
        cases ks with
        | nil => exact absurd rfl hks
        | cons k2 ks2 =>
          refine hJ.step hk ok okx v v' ho ho' ?_ hne
          have ht2 := ht.2
          cases hp : okT l (behS l s k) k2
          · simp [playL, hp] at h1
          · cases hp' : okT x (behS x s' k) k2
            · simp [playL, hp'] at h2
            · rw [playL, if_pos hp, playL, if_pos hp'] at ht2
              simp only [List.map_cons, List.cons.injEq] at ht2
              exact ht2.1.symm

theorem Les.len : ∀ {cs ds : List Int}, Les cs ds → cs.length = ds.length
  | [], [], _ => rfl
  | c :: cs, d :: ds, h => by simp [Les.len h.2]
  | [], d :: ds, h => h.elim
  | c :: cs, [], h => h.elim
theorem Les.drop : ∀ {cs ds : List Int} (n : Nat), Les cs ds → Les (cs.drop n) (ds.drop n)
  | _, _, 0, h => by simpa using h
  | [], [], n + 1, _ => by simp [Les]
  | c :: cs, d :: ds, n + 1, h => by simpa using Les.drop n h.2
  | [], d :: ds, _ + 1, h => h.elim
  | c :: cs, [], _ + 1, h => h.elim
theorem Les.sum_take : ∀ {cs ds : List Int} (m n : Nat), Les cs ds → (∀ d ∈ ds, 0 ≤ d) → m ≤ n → (cs.take m).sum ≤ (ds.take n).sum
  | [], [], m, n, _, _, _ => by simp
  | c :: cs, d :: ds, 0, 0, _, _, _ => by simp
  | c :: cs, d :: ds, 0, n + 1, h, h0, _ => by
    have h1 := Les.sum_take 0 n h.2 (fun e he => h0 e (by simp [he])) (by omega)
    have h2 := h0 d (by simp)
    simp only [List.take_zero, List.sum_nil, List.take_succ_cons, List.sum_cons] at h1 ⊢
    omega
  | c :: cs, d :: ds, m + 1, n + 1, h, h0, hm => by
    have h1 := Les.sum_take m n h.2 (fun e he => h0 e (by simp [he])) (by omega)
    have h2 := h.1
    simp only [List.take_succ_cons, List.sum_cons]
    omega
  | c :: cs, d :: ds, m + 1, 0, _, _, hm => by omega
  | [], d :: ds, _, _, h, _, _ => h.elim
  | c :: cs, [], _, _, h, _, _ => h.elim
theorem Les.part {cs ds : List Int} (h : Les cs ds) (h0 : ∀ d ∈ ds, 0 ≤ d) (f : Nat) {m n : Nat} (hm : m ≤ n) : (partL cs f m).sum ≤ (partL ds f n).sum :=
  Les.sum_take m n (h.drop f) (fun d hd => h0 d (List.mem_of_mem_drop hd)) hm

/-- Counts that both have. -/
def LeC (us bs : List Int) : Prop := ∀ (i : Nat) (a b : Int), us[i]? = some a → bs[i]? = some b → a ≤ b

theorem LeC.pre {us bs cs : List Int} (h : LeC us bs) (hl : us.length = bs.length) (hp : us <+: cs) : LeC cs bs := by
  intro i a b ha hb
  have hi : i < us.length := by have := (List.getElem?_eq_some_iff.1 hb).1; omega
  have h1 : us[i]? = some (us[i]) := List.getElem?_eq_getElem hi
  obtain ⟨t, rfl⟩ := hp
  rw [List.getElem?_append_left hi] at ha
  exact h i a b ha hb
theorem LeC.pre2 {us bs cs : List Int} (h : LeC us bs) (hl : us.length = bs.length) (hp : bs <+: cs) : LeC us cs := by
  intro i a b ha hb
  have hi : i < bs.length := by have := (List.getElem?_eq_some_iff.1 ha).1; omega
  obtain ⟨t, rfl⟩ := hp
  rw [List.getElem?_append_left hi] at hb
  exact h i a b ha hb

theorem setGo_preT (pn : Int) (cs : List Int) : ∀ (bs : List (List Int)) (f : Nat) (acc : List Int), acc <+: setGo pn cs bs f acc
  | [], f, acc => List.prefix_refl _
  | b :: bs, f, acc => by
    rw [setGo]
    split
    · exact List.prefix_refl _
    · exact (List.prefix_append _ _).trans (setGo_preT pn cs bs _ _)

theorem lastC_snocT (acc : List Int) (a : Int) : lastC (acc ++ [a]) = a := by simp [lastC]

theorem setGo_kind (pn : Int) {cs ds : List Int} (h : Les cs ds) (h0 : ∀ d ∈ ds, 0 ≤ d) : ∀ (fs : List (List Int)) (m n f : Nat) (us bs : List Int), (∀ z ∈ fs, z.length ≤ 3) → LeC us bs → us.length = bs.length → lastC us ≤ lastC bs → LeC (setGo pn cs (fs.take m) f us) (setGo pn ds (fs.take n) f bs)
  | fs, 0, n, f, us, bs, _, hc, hl, _ => by
    rw [List.take_zero, setGo]
    exact hc.pre2 hl (setGo_preT _ _ _ _ _)
  | fs, m, 0, f, us, bs, _, hc, hl, _ => by
    rw [List.take_zero]
    rw [show setGo pn ds [] f bs = bs from rfl]
    exact hc.pre hl (setGo_preT _ _ _ _ _)
  | [], m + 1, n + 1, f, us, bs, _, hc, hl, _ => by
    simpa [setGo] using hc
  | z :: fs, m + 1, n + 1, f, us, bs, hz, hc, hl, hla => by
    rw [List.take_succ_cons, List.take_succ_cons, setGo, setGo]
    have hz3 := hz z (by simp)
    have hn : needs pn cs f z.length ≤ needs pn ds f z.length := by
      have h1 := h.part h0 f (Nat.le_refl z.length)
      unfold needs
      split
      · rw [if_pos (by omega)]; exact Nat.le_refl _
      · split
        · exact hz3
        · exact Nat.le_refl _
    by_cases b1 : cs.length < f + needs pn cs f z.length
    · rw [if_pos b1]
      split
      · exact hc
      · exact hc.pre2 hl ((List.prefix_append _ _).trans (setGo_preT _ _ _ _ _))
    · rw [if_neg b1]
      by_cases b2 : ds.length < f + needs pn ds f z.length
      · rw [if_pos b2]
        exact hc.pre hl ((List.prefix_append _ _).trans (setGo_preT _ _ _ _ _))
      · rw [if_neg b2]
        have hp := h.part h0 f hn
        refine setGo_kind pn h h0 fs m n (f + z.length) _ _ (fun y hy => hz y (by simp [hy])) ?_ (by simp [hl]) (by rw [lastC_snocT, lastC_snocT]; omega)
        intro i a b ha hb
        by_cases hi : i < us.length
        · rw [List.getElem?_append_left hi] at ha
          rw [List.getElem?_append_left (by omega)] at hb
          exact hc i a b ha hb
        · rw [List.getElem?_append_right (by omega)] at ha
          rw [List.getElem?_append_right (by omega), ← hl] at hb
          have hi0 : i - us.length = 0 := by
            have := (List.getElem?_eq_some_iff.1 ha).1
            simp at this
            omega
          rw [hi0] at ha hb
          simp at ha hb
          omega

end Go.Proofs.YtmjbidnlknmcgabDoor

namespace Go.Proofs.YtmjbidnlknmcgabDoor
open Go.RowKit

/-- A frame has at most three balls. -/
theorem fol_three {l : Lw} (ok : l.Ok) : ∀ (bs : List Int) (r : Rc) (i : Nat), RcW l r i → Ls l r → (∀ z ∈ r.fs, z.length ≤ 3) → ∀ z ∈ (fol l r bs).1.fs, z.length ≤ 3
  | [], r, i, _, _, h => by simpa [fol] using h
  | k :: ks, r, i, hw, hl, h => by
    rw [fol]
    split
    · rename_i ht
      obtain ⟨hf, hk1, hk2⟩ := okT_out ht
      have hv := hw.vd
      have hlt : r.s.f < l.fr := by have := hv.f2; omega
      refine fol_three ok ks (noteR l r k) (i + 1) (hw.note ok ht) (hl.note hw ok ht) ?_
      obtain ⟨y', hy1, hy2, _, hT⟩ := note_frame (k := k) hl hw hlt
      have hfl := (hw.note ok ht).fl
      have hs : (noteR l r k).s = behS l r.s k := rfl
      intro z hz
      obtain ⟨j, hj⟩ := List.mem_iff_getElem?.1 hz
      have hn : (noteR l r k).fs.length = r.s.f.toNat + 1 := by
        rw [hs] at hfl
        have hv1 := hv.f1
        rcases beh_fb l r.s k with ⟨q1, q2⟩ | ⟨q1, q2⟩
        · rw [q1, q2] at hfl; simp at hfl; omega
        · have hb1 := hv.b1
          rw [if_neg (by omega), q2] at hfl; omega
      have hjl := (List.getElem?_eq_some_iff.1 hj).1
      by_cases hje : j = r.s.f.toNat
      · rw [hje, hy1] at hj
        cases hj
        have := hv.b2
        omega
      · have hj2 : (r.fs.take r.s.f.toNat)[j]? = some z := by
          rw [← hT, List.getElem?_take, if_pos (by omega)]; exact hj
        exact h z (List.mem_of_mem_take (List.mem_of_getElem? hj2))
    · exact h

theorem beg_jk {l x : Lw} (hk : Kd l x) : Jk l (begS l) (begS x) := by
  have e := hk.p
  unfold begS
  exact ⟨rfl, rfl, fun _ => ⟨e, rfl⟩, fun _ => ⟨rfl, e, rfl, rfl⟩, fun _ h => by simp at h, fun _ h => by simp at h⟩

/-- With a lesser Tap, and the same balls in each frame, no count that both have is less. -/
theorem taps_le {l x : Lw} {bs : List Int} (hk : Kd l x) (h : rdE l bs = 0) (hx : rdE x bs = 0) (hF : rdF l bs = rdF x bs) : LeC (rdM l bs) (rdM x bs) := by
  have ok := (recS_ok h).1
  have okx := (recS_ok hx).1
  have hn := (rdE_zero h).2
  have hnx := (rdE_zero hx).2
  have p := play_fol l bs (rec0 l)
  have px := play_fol x bs (rec0 x)
  have t := play_tag ok bs (rec0 l) 0 (rec0_rcw ok) (rec0_ls ok)
  have tx := play_tag okx bs (rec0 x) 0 (rec0_rcw okx) (rec0_ls okx)
  have e0 : (rec0 l).s = begS l := rfl
  have e1 : (fol l (rec0 l) bs).1 = recS l bs := rfl
  have e2 : tag (rec0 l).fs 0 = [] := rfl
  have e3 : (rec0 l).cs = [] := rfl
  have e0x : (rec0 x).s = begS x := rfl
  have e1x : (fol x (rec0 x) bs).1 = recS x bs := rfl
  have e2x : tag (rec0 x).fs 0 = [] := rfl
  have e3x : (rec0 x).cs = [] := rfl
  rw [e0, e1, e2, List.nil_append] at t
  rw [e0x, e1x, e2x, List.nil_append] at tx
  rw [e0, e1, e3, List.nil_append] at p
  rw [e0x, e1x, e3x, List.nil_append] at px
  have f1 : rdF l bs = (recS l bs).fs := by simp [rdF, h]
  have f2 : rdF x bs = (recS x bs).fs := by simp [rdF, hx]
  have m1 : rdM l bs = setL l (recS l bs) := by simp [rdM, h]
  have m2 : rdM x bs = setL x (recS x bs) := by simp [rdM, hx]
  rw [f1, f2] at hF
  have hL := Jk.play hk ok okx bs (begS l) (begS x) (beg_vd l ok) (beg_vd x okx) (fun _ _ => beg_jk hk) (by rw [← p.1, hn]) (by rw [← px.1, hnx]) (by rw [← t, ← tx, hF])
  rw [← p.2.2, ← px.2.2] at hL
  rw [m1, m2]
  unfold setL
  rw [hk.p, ← hF]
  have h3 := fol_three ok bs (rec0 l) 0 (rec0_rcw ok) (rec0_ls ok) (by simp [rec0])
  rw [e1] at h3
  exact setGo_kind l.pn hL (fun d hd => ((recS_rcs hx).cb d hd).1) (recS l bs).fs _ _ 0 [] [] h3 (fun i a b ha _ => by simp at ha) rfl (Int.le_refl _)

end Go.Proofs.YtmjbidnlknmcgabDoor
