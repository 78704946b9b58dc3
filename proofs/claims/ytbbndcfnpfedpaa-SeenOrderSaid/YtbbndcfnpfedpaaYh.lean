/- Parts of a list of words, one behind the other, made anew. -/
import Derived.Test.YtbbndcfnpfedpaaYe
set_option linter.unusedVariables false
set_option linter.unusedSimpArgs false
namespace Go.Proofs.Ytbbndcfnpfedpaa
open Go.RowKit Go.Shelf Go.Maps

theorem wds_drop {W : World} {g o : Nat} {L : List Wd} (h : WdsAt W (some ⟨g, o, none⟩) L) (t : Nat) : WdsAt W (some ⟨g, o + t * 5, none⟩) (L.drop t) := fun i x hx => by
  rw [List.getElem?_drop] at hx
  obtain ⟨g', o', e, k1, k2, k3, k4, k5⟩ := h _ x hx
  cases e
  have e : o + (t + i) * 5 = o + t * 5 + i * 5 := by omega
  rw [e] at k1 k2 k3 k4 k5
  exact ⟨g, o + t * 5, rfl, k1, k2, k3, k4, k5⟩
theorem wds_take {W : World} {a : Option Addr} {L : List Wd} (h : WdsAt W a L) (n : Nat) : WdsAt W a (L.take n) := fun i x hx => by
  rw [List.getElem?_take] at hx
  split at hx
  · exact h i x hx
  · cases hx

theorem armCopyN {wr W : World} {ws : List Wd} {a0 : Option Addr} {c0 b n : Nat} (hWr : WdsAt wr a0 ws) (ha : a0 = none → ws = [] ∧ c0 = 0) (hn : ws.length ≤ 900) (hln : n = ws.length) {t ty : TypeId} {ops : Array Oper} {d : Option Tmp} {s x : Operand} {p : String} {af : Array Edge} {act : Act} {K : Act → World → Prop} {Q : Exit → Act → World → Prop} {E : Prop}
    (ht : t = 22) (hty : ty = 22) (hs : act.eval s = .slice (some ⟨b, 0, none⟩) 0 0) (hx : act.eval x = .slice a0 n c0) (hE : Blk W b #[] 81) (hB : Below wr.heap.size wr W) (hb : wr.heap.size ≤ b) (h : ∀ v1 w1, CpF wr W b ws v1 w1 → K (act.put d v1) w1) :
    if Region.wanted { dst := d, op := .call { callee := .builtin .append, args := #[s, x], argTypes := #[t, t] }, type := ty, pos := p, after := af, guard := none } (yielded ops act.tmps) = true then Oper.wp Try.prog { dst := d, op := .call { callee := .builtin .append, args := #[s, x], argTypes := #[t, t] }, type := ty, pos := p, after := af, guard := none } act W K Q else E := by
  subst hln
  exact armCopy hWr ha hn ht hty hs hx hE hB hb h

theorem armApp {wr W : World} {ws xs : List Wd} {a0 : Option Addr} {c0 n nn : Nat} {v1 : Value} {b : Nat} (hO : W.ownsRow b 81 5 v1 ws.length (wdCells ws)) (hWr : WdsAt wr a0 xs) (ha : a0 = none → xs = [] ∧ c0 = 0) (hn : ws.length + xs.length ≤ 900) (h0 : 0 < xs.length) (hln : n = xs.length) (hnn : nn = (ws ++ xs).length) (hbl : b ≤ W.heap.size) {t ty : TypeId} {ops : Array Oper} {d : Option Tmp} {s x : Operand} {p : String} {af : Array Edge} {act : Act} {K : Act → World → Prop} {Q : Exit → Act → World → Prop} {E : Prop}
    (ht : t = 22) (hty : ty = 22) (hs : act.eval s = v1) (hx : act.eval x = .slice a0 n c0) (hB : Below wr.heap.size wr W) (hb : wr.heap.size ≤ b) (h : ∀ g c w2, OnF wr W v1 (ws ++ xs) g c w2 → K (act.put d (.slice (some ⟨g, 0, none⟩) nn c)) w2) :
    if Region.wanted { dst := d, op := .call { callee := .builtin .append, args := #[s, x], argTypes := #[t, t] }, type := ty, pos := p, after := af, guard := none } (yielded ops act.tmps) = true then Oper.wp Try.prog { dst := d, op := .call { callee := .builtin .append, args := #[s, x], argTypes := #[t, t] }, type := ty, pos := p, after := af, guard := none } act W K Q else E := by
  subst ht hty hln hnn
  rw [if_pos (by simp [Region.wanted])]
  obtain ⟨v2, w2, hr, ho, hg, hat⟩ := run_appW ws xs a0 c0 v1 b W hO (hWr.lo hB) ha (by omega) hbl
  obtain ⟨g, c, rfl, hwd, hbg, hgl⟩ := own_wds81 ho (by rw [List.length_append]; omega)
  refine wp_run2 s x 22 rfl _ _ _ w2 hs hx hr (h g c w2 ⟨hwd, below_grow hB hg (fun k e => Nat.le_trans hb (hO.lt k e).1), hgl, fun k hk hne => ⟨fun e => ?_, fun cs t hB2 => (hg.block k hk (fun e => hne k e.symm rfl)).trans hB2⟩⟩)
  rcases hat with e2 | e2
  · exact hne g (e2.symm.trans rfl) e.symm
  · have : g = W.heap.size := by simpa [Value.ownBlock] using e2
    omega

theorem mem_turn {α : Type} {L : List α} {t : Nat} (ht : t < L.length) (x : α) : x ∈ L.drop t ++ L.take (t + 1) ↔ x ∈ L := by
  constructor
  · intro h
    rcases List.mem_append.1 h with h | h
    · exact List.mem_of_mem_drop h
    · exact List.mem_of_mem_take h
  · intro h
    rw [← List.take_append_drop t L] at h
    rcases List.mem_append.1 h with h | h
    · refine List.mem_append.2 (.inr ?_)
      obtain ⟨i, hi⟩ := List.mem_iff_getElem?.1 h
      rw [List.getElem?_take] at hi
      split at hi
      · exact List.mem_iff_getElem?.2 ⟨i, by rw [List.getElem?_take, if_pos (by omega)]; exact hi⟩
      · cases hi
    · exact List.mem_append.2 (.inl h)

end Go.Proofs.Ytbbndcfnpfedpaa
