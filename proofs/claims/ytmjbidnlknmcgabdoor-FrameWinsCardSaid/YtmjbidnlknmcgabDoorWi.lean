/- Two lists of sheets that grow beside each other, and the words beside them (for FrameWins). -/
import Derived.Test.YtmjbidnlknmcgabDoorAb
import Derived.Test.YtmjbidnlknmcgabDoorSe
set_option linter.unusedVariables false
set_option linter.unusedSimpArgs false
namespace Go.Proofs.YtmjbidnlknmcgabDoor
open Go.RowKit

/-- A cell that neither row has. -/
structure Fc (W : World) (v1 v2 : Value) (g k : Nat) (u : Value) : Prop where
  c : W.cell? ⟨g, k, none⟩ = some u
  n1 : v1.ownBlock ≠ some g
  n2 : v2.ownBlock ≠ some g
theorem Fc.lo {W W' : World} {v1 v2 u : Value} {g k : Nat} (h : Fc W v1 v2 g k u) (hb : Below W.heap.size W W') : Fc W' v1 v2 g k u := ⟨below_cell hb h.c, h.n1, h.n2⟩
theorem Fc.lt {W : World} {v1 v2 u : Value} {g k : Nat} (h : Fc W v1 v2 g k u) : g < W.heap.size := World.block_lt_of_cell? W ⟨g, k, none⟩ h.c
theorem Fc.app1 {W W' : World} {v1 v1' v2 u : Value} {g k : Nat} (h : Fc W v1 v2 g k u) (hg : W.grownBy W' v1.ownBlock) (hl : v1'.ownBlock = v1.ownBlock ∨ v1'.ownBlock = some W.heap.size) : Fc W' v1' v2 g k u := by
  refine ⟨(hg.cell_far _ h.lt (Ne.symm h.n1)).trans h.c, ?_, h.n2⟩
  rcases hl with e | e
  · rw [e]; exact h.n1
  · rw [e]; intro e2; cases e2; exact Nat.lt_irrefl _ h.lt
theorem Fc.app2 {W W' : World} {v1 v2 v2' u : Value} {g k : Nat} (h : Fc W v1 v2 g k u) (hg : W.grownBy W' v2.ownBlock) (hl : v2'.ownBlock = v2.ownBlock ∨ v2'.ownBlock = some W.heap.size) : Fc W' v1 v2' g k u := by
  refine ⟨(hg.cell_far _ h.lt (Ne.symm h.n2)).trans h.c, h.n1, ?_⟩
  rcases hl with e | e
  · rw [e]; exact h.n2
  · rw [e]; intro e2; cases e2; exact Nat.lt_irrefl _ h.lt

def hdrL (CS : List (Option Addr × Nat × List Int)) : List Value := CS.map fun p => .slice p.1 p.2.2.length p.2.1

structure Wi (w W : World) (v1 v2 : Value) (n1 n2 : Nat) (CS DS : List (Option Addr × Nat × List Int)) (xa : Option Addr) (ws : List Int) : Prop where
  o1 : W.ownsRow w.heap.size 28 1 v1 n1 (hdrL CS)
  o2 : W.ownsRow w.heap.size 28 1 v2 n2 (hdrL DS)
  ne : ∀ k, v1.ownBlock = some k → v2.ownBlock ≠ some k
  bl : Below w.heap.size w W
  q1 : ∀ p ∈ CS, ∀ k x, p.2.2[k]? = some x → ∃ g o, p.1 = some ⟨g, o, none⟩ ∧ Fc W v1 v2 g (o + k) (.int .i64 x)
  q2 : ∀ p ∈ DS, ∀ k x, p.2.2[k]? = some x → ∃ g o, p.1 = some ⟨g, o, none⟩ ∧ Fc W v1 v2 g (o + k) (.int .i64 x)
  wd : ∀ k x, ws[k]? = some x → (∃ g o, xa = some ⟨g, o, none⟩ ∧ Fc W v1 v2 g (o + k) (.int .u8 x)) ∧ 0 ≤ x ∧ x < 256

theorem Wi.start {w : World} {xa : Option Addr} {ws : List Int} (h : WordsAt w xa ws) : Wi w w (.slice none 0 0) (.slice none 0 0) 0 0 [] [] xa ws :=
  ⟨World.ownsRow_nil _ _ _ _, World.ownsRow_nil _ _ _ _, fun k e => (by cases e), Below.refl _ _, fun p hp => (by cases hp), fun p hp => (by cases hp), fun k x hx => by
    obtain ⟨⟨g, o, e, hc⟩, h0⟩ := h k x hx
    exact ⟨⟨g, o, e, hc, (by intro e; cases e), (by intro e; cases e)⟩, h0⟩⟩

section
variable {w W : World} {v1 v2 : Value} {n1 n2 : Nat} {CS DS : List (Option Addr × Nat × List Int)} {xa : Option Addr} {ws : List Int} (h : Wi w W v1 v2 n1 n2 CS DS xa ws)
include h

theorem Wi.words : WordsAt W xa ws := fun k x hx => by
  obtain ⟨⟨g, o, e, hf⟩, h0⟩ := h.wd k x hx
  exact ⟨⟨g, o, e, hf.c⟩, h0⟩

theorem Wi.lo {W' : World} (hb : Below W.heap.size W W') : Wi w W' v1 v2 n1 n2 CS DS xa ws :=
  ⟨own_below h.o1 hb, own_below h.o2 hb, h.ne, h.bl.trans (hb.mono h.bl.size), fun p hp k x hx => by
    obtain ⟨g, o, e, hf⟩ := h.q1 p hp k x hx
    exact ⟨g, o, e, hf.lo hb⟩, fun p hp k x hx => by
    obtain ⟨g, o, e, hf⟩ := h.q2 p hp k x hx
    exact ⟨g, o, e, hf.lo hb⟩, fun k x hx => by
    obtain ⟨⟨g, o, e, hf⟩, h0⟩ := h.wd k x hx
    exact ⟨⟨g, o, e, hf.lo hb⟩, h0⟩⟩

/-- Other words, that are new. -/
theorem Wi.turn {W' : World} {xa' : Option Addr} {ws' : List Int} (hb : Below W.heap.size W W') (hx : ∀ k x, ws'[k]? = some x → (∃ g o, xa' = some ⟨g, o, none⟩ ∧ W'.cell? ⟨g, o + k, none⟩ = some (.int .u8 x) ∧ W.heap.size ≤ g) ∧ 0 ≤ x ∧ x < 256) : Wi w W' v1 v2 n1 n2 CS DS xa' ws' := by
  have h1 := h.lo hb
  refine ⟨h1.o1, h1.o2, h1.ne, h1.bl, h1.q1, h1.q2, fun k x hk => ?_⟩
  obtain ⟨⟨g, o, e, hc, hge⟩, h0⟩ := hx k x hk
  refine ⟨⟨g, o, e, hc, fun e2 => ?_, fun e2 => ?_⟩, h0⟩
  · have := (h.o1.lt g e2).2; omega
  · have := (h.o2.lt g e2).2; omega

theorem new_fr {W1 : World} {m c : Nat} {va : Option Addr} {zs : List Int} (hz : zs.length = m) (hl : W1.ownsRow W.heap.size 3 1 (.slice va m c) m (zs.map (Value.int .i64))) (hb : Below W.heap.size W W1) : ∀ k x, zs[k]? = some x → ∃ g o, va = some ⟨g, o, none⟩ ∧ Fc W1 v1 v2 g (o + k) (.int .i64 x) := by
  intro k x hx
  have hk : k < m := by rw [← hz]; exact (List.getElem?_eq_some_iff.1 hx).1
  obtain ⟨g, cap, hv, hg1, hg2, _, _⟩ := own_form hl (by omega)
  cases hv
  have hc := own_cell hl k _ (show (zs.map (Value.int .i64))[k]? = some (.int .i64 x) by rw [List.getElem?_map, hx]; rfl)
  refine ⟨g, 0, rfl, by rw [Nat.zero_add]; exact hc, fun e => ?_, fun e => ?_⟩
  · have := (h.o1.lt g e).2; omega
  · have := (h.o2.lt g e).2; omega

theorem Wi.app1 {W1 W3 : World} {v1' : Value} {m c : Nat} {va : Option Addr} {zs : List Int} {o : Obj} (hz : zs.length = m) (hl : W1.ownsRow W.heap.size 3 1 (.slice va m c) m (zs.map (Value.int .i64))) (hb : Below W.heap.size W W1)
    (hg : (W1.alloc o).grownBy W3 v1.ownBlock) (ho : W3.ownsRow w.heap.size 28 1 v1' (n1 + 1) (hdrL CS ++ [.slice va m c])) (hloc : v1'.ownBlock = v1.ownBlock ∨ v1'.ownBlock = some (W1.alloc o).heap.size) :
    Wi w W3 v1' v2 (n1 + 1) n2 (CS ++ [(va, c, zs)]) DS xa ws := by
  have h2 := (h.lo hb).lo (below_al W1 o)
  have hn := new_fr h hz hl hb
  refine ⟨by simpa [hdrL, hz] using ho, h2.o2.kept hg ?_, ?_, h2.bl.grown hg h2.bl.size (fun k e => (h2.o1.lt k e).1), ?_, ?_, ?_⟩
  · cases hk : v2.ownBlock with
    | none => exact .inl rfl
    | some k => exact .inr (fun e => h.ne k e.symm hk)
  · intro k hk hk2
    rcases hloc with e | e
    · rw [e] at hk; exact h.ne k hk hk2
    · rw [e] at hk; cases hk; exact Nat.lt_irrefl _ (h2.o2.lt _ hk2).2
  · intro p hp k x hx
    rcases List.mem_append.1 hp with hp | hp
    · obtain ⟨g, of, e, hf⟩ := h2.q1 p hp k x hx
      exact ⟨g, of, e, hf.app1 hg hloc⟩
    · simp at hp
      subst hp
      obtain ⟨g, of, e, hf⟩ := hn k x hx
      exact ⟨g, of, e, (hf.lo (below_al W1 o)).app1 hg hloc⟩
  · intro p hp k x hx
    obtain ⟨g, of, e, hf⟩ := h2.q2 p hp k x hx
    exact ⟨g, of, e, hf.app1 hg hloc⟩
  · intro k x hx
    obtain ⟨⟨g, of, e, hf⟩, h0⟩ := h2.wd k x hx
    exact ⟨⟨g, of, e, hf.app1 hg hloc⟩, h0⟩

theorem Wi.app2 {W1 W3 : World} {v2' : Value} {m c : Nat} {va : Option Addr} {zs : List Int} {o : Obj} (hz : zs.length = m) (hl : W1.ownsRow W.heap.size 3 1 (.slice va m c) m (zs.map (Value.int .i64))) (hb : Below W.heap.size W W1)
    (hg : (W1.alloc o).grownBy W3 v2.ownBlock) (ho : W3.ownsRow w.heap.size 28 1 v2' (n2 + 1) (hdrL DS ++ [.slice va m c])) (hloc : v2'.ownBlock = v2.ownBlock ∨ v2'.ownBlock = some (W1.alloc o).heap.size) :
    Wi w W3 v1 v2' n1 (n2 + 1) CS (DS ++ [(va, c, zs)]) xa ws := by
  have h2 := (h.lo hb).lo (below_al W1 o)
  have hn := new_fr h hz hl hb
  refine ⟨h2.o1.kept hg ?_, by simpa [hdrL, hz] using ho, ?_, h2.bl.grown hg h2.bl.size (fun k e => (h2.o2.lt k e).1), ?_, ?_, ?_⟩
  · cases hk : v1.ownBlock with
    | none => exact .inl rfl
    | some k => exact .inr (fun e => h.ne k hk e.symm)
  · intro k hk hk2
    rcases hloc with e | e
    · rw [e] at hk2; exact h.ne k hk hk2
    · rw [e] at hk2; cases hk2; exact Nat.lt_irrefl _ (h2.o1.lt _ hk).2
  · intro p hp k x hx
    obtain ⟨g, of, e, hf⟩ := h2.q1 p hp k x hx
    exact ⟨g, of, e, hf.app2 hg hloc⟩
  · intro p hp k x hx
    rcases List.mem_append.1 hp with hp | hp
    · obtain ⟨g, of, e, hf⟩ := h2.q2 p hp k x hx
      exact ⟨g, of, e, hf.app2 hg hloc⟩
    · simp at hp
      subst hp
      obtain ⟨g, of, e, hf⟩ := hn k x hx
      exact ⟨g, of, e, (hf.lo (below_al W1 o)).app2 hg hloc⟩
  · intro k x hx
    obtain ⟨⟨g, of, e, hf⟩, h0⟩ := h2.wd k x hx
    exact ⟨⟨g, of, e, hf.app2 hg hloc⟩, h0⟩
end

theorem hdr_sheets {w W : World} {v1 v2 : Value} {a : Option Addr} {n c : Nat} {XS : List (Option Addr × Nat × List Int)} (ho : W.ownsRow w.heap.size 28 1 (.slice a n c) n (hdrL XS)) (hq : ∀ p ∈ XS, ∀ k x, p.2.2[k]? = some x → ∃ g o, p.1 = some ⟨g, o, none⟩ ∧ Fc W v1 v2 g (o + k) (.int .i64 x)) : SheetsAt W a XS := by
  intro i p hp
  have hm : (hdrL XS)[i]? = some (.slice p.1 p.2.2.length p.2.1) := by rw [hdrL, List.getElem?_map, hp]; rfl
  have hl : XS.length = n := by have := ho.1; simpa [hdrL] using this
  have hi : i < n := by rw [← hl]; exact (List.getElem?_eq_some_iff.1 hp).1
  obtain ⟨g, cap, hv, _⟩ := own_form ho (by omega)
  cases hv
  refine ⟨g, 0, rfl, ?_, ?_⟩
  · rw [Nat.zero_add]; exact own_cell ho i _ hm
  · intro k x hx
    obtain ⟨g2, o2, e1, e2⟩ := hq p (List.mem_of_getElem? hp) k x hx
    exact ⟨g2, o2, e1, e2.c⟩

end Go.Proofs.YtmjbidnlknmcgabDoor
