/- SeenNames: one word more. -/
import Derived.Test.YtbbndcfnpfedpaaNc
set_option linter.unusedVariables false
set_option linter.unusedSimpArgs false
namespace Go.Proofs.Ytbbndcfnpfedpaa
open Go.RowKit Go.Shelf Go.Maps

theorem Blk.lo3 {W W' : World} {b : Nat} {cs : Array Value} {t : TypeId} (h : Blk W b cs t) (hb : Below W.heap.size W W') : Blk W' b cs t := Blk.alt (p := fun _ => False) h (Alt.of_below hb (fun k hk e => by omega)) id
theorem night_own {W : World} {g B : Nat} (h : Blk W g nightC 70) (hb : B ≤ g) : W.ownsRow B 70 5 (.slice (some ⟨g, 0, none⟩) 5 5) 5 (wdCells nightW) :=
  ⟨rfl, .inr ⟨g, 5, nightC, rfl, hb, h, by decide, by unfold maxLen; omega, rfl, rfl⟩⟩
structure MoreF (w8 : World) (bm g5 g c : Nat) (w2 : World) : Prop where
  wd : WdsAt w2 (some ⟨g, 0, none⟩) moreW
  lt : g < w2.heap.size
  bl : Below w8.heap.size w8 w2
  m : Blk w2 bm #[.int .i64 2, .slice (some ⟨g5, 0, none⟩) 5 5] 32
  ne : g ≠ bm
  ge : w8.heap.size ≤ bm
theorem armMore {w8 W : World} {g5 bm B : Nat} (hO : Blk W g5 nightC 70) (hM : Blk W bm #[.int .i64 2, .slice (some ⟨g5, 0, none⟩) 5 5] 32) (hne : g5 ≠ bm) (h5 : w8.heap.size ≤ g5) (h8 : w8.heap.size ≤ bm) {t ty : TypeId} {ops : Array Oper} {d : Option Tmp} {s x : Operand} {p : String} {af : Array Edge} {act : Act} {K : Act → World → Prop} {Q : Exit → Act → World → Prop} {E : Prop}
    (ht : t = 30) (hty : ty = 30) (hs : act.eval s = .slice (some ⟨g5, 0, none⟩) 5 5) (hx : act.eval x = .slice (some ⟨B, 0, none⟩) 1 1) (hE : Blk W B #[.int .i64 0, .int .i64 1, .int .i64 1, .int .i64 9, .int .i64 9] 70) (hB : Below w8.heap.size w8 W) (h : ∀ g c w2, MoreF w8 bm g5 g c w2 → K (act.put d (.slice (some ⟨g, 0, none⟩) 6 c)) w2) :
    if Region.wanted { dst := d, op := .call { callee := .builtin .append, args := #[s, x], argTypes := #[t, t] }, type := ty, pos := p, after := af, guard := none } (yielded ops act.tmps) = true then Oper.wp Try.prog { dst := d, op := .call { callee := .builtin .append, args := #[s, x], argTypes := #[t, t] }, type := ty, pos := p, after := af, guard := none } act W K Q else E := by
  subst ht hty
  rw [if_pos (by simp [Region.wanted])]
  obtain ⟨i, hi, hy0, hy1, hy2⟩ := info_parts info70
  have hW : WdsAt W (some ⟨B, 0, none⟩) [⟨0, 1, 1, 9, 9⟩] := wds_blk hE rfl
  obtain ⟨v2, w2, hr, ho, hg, _, hat⟩ := run_append_own_at (P := Try.prog) (w := W) w8.heap.size 30 30 70 i _ 5 40 Try.underlying30 hi hy0 hy1 hy2 rfl (by decide) _ 5 (wdCells nightW) (night_own hO h5) ⟨B, 0, none⟩ 1 1 (wdCells [⟨0, 1, 1, 9, 9⟩]) (cells_len _) (wds_cells hW) (fun u hu => cells_one hu) (by unfold maxLen; omega) (by decide) hB.size
  have ho2 : w2.ownsRow w8.heap.size 70 5 v2 moreW.length (wdCells moreW) := ho
  obtain ⟨g, c, hv, hbg, hgl⟩ := ho2.form (by decide)
  obtain ⟨a, c', e, hwd, _⟩ := own_wds ho2
  rw [hv] at e
  cases e
  subst hv
  refine wp_run2 s x 30 rfl _ _ _ w2 hs hx hr (h g c w2 ⟨hwd, hgl, below_grow hB hg (fun k e => by cases e; exact h5), (hg.block bm hM.lt (fun e => hne (by cases e; rfl))).trans hM, fun e => ?_, h8⟩)
  rcases hat with e2 | e2
  · have : g = g5 := by simpa [Value.ownBlock] using e2
    exact hne (this.symm.trans e)
  · have : g = W.heap.size := by simpa [Value.ownBlock] using e2
    have := hM.lt
    omega
def MoreE (w8 : World) (bm g c : Nat) (wx : World) : Prop := Blk wx bm #[.int .i64 2, .slice (some ⟨g, 0, none⟩) 6 c] 32 ∧ WdsAt wx (some ⟨g, 0, none⟩) moreW ∧ g < wx.heap.size ∧ Below w8.heap.size w8 wx
theorem MoreF.done {w8 w2 : World} {bm g5 g c : Nat} (h : MoreF w8 bm g5 g c w2) : MoreE w8 bm g c (w2.setCell ⟨bm, 1, none⟩ (.slice (some ⟨g, 0, none⟩) 6 c)) := by
  have ha : Alt (fun k => k = bm) w2 (w2.setCell ⟨bm, 1, none⟩ (.slice (some ⟨g, 0, none⟩) 6 c)) := Alt.setCell (p := fun k => k = bm) (q := ⟨bm, 1, none⟩) (Alt.refl _ _) rfl _
  have hz := ha.size
  refine ⟨h.m.setAt 1 _, h.wd.alt ha (fun g' o e => by cases e; exact h.ne), Nat.lt_of_lt_of_le h.lt hz, ?_⟩
  exact ((Alt.of_below (p := fun k => w8.heap.size ≤ k) h.bl (fun k hk e => e)).trans (ha.mono fun k _ e => by have := h.ge; omega)).below (Nat.le_refl _) fun _ e => e
end Go.Proofs.Ytbbndcfnpfedpaa
