/- Words with one word more, made anew, in whatever order a region draws. -/
import Derived.Test.YtbbndcfnpfedpaaWa
set_option linter.unusedVariables false
set_option linter.unusedSimpArgs false
namespace Go.Proofs.Ytbbndcfnpfedpaa
open Go.RowKit Go.Shelf Go.Maps

theorem cells_one {L : List Wd} {u : Value} (h : u ∈ wdCells L) : u.oneCell' = true := by
  unfold wdCells at h
  obtain ⟨x, _, hx⟩ := List.mem_flatMap.1 h
  unfold Wd.cells at hx
  simp at hx
  rcases hx with rfl | rfl | rfl | rfl | rfl <;> rfl
theorem cells_len : ∀ L : List Wd, (wdCells L).length = L.length * 5
  | [] => rfl
  | x :: L => by
    have e : wdCells (x :: L) = .int .i64 x.fr :: .int .i64 x.ba :: .int .i64 x.te :: .int .i64 x.le :: .int .i64 x.mo :: wdCells L := rfl
    rw [e]; simp only [List.length_cons, cells_len L]; omega
theorem cells_get : ∀ (L : List Wd) (j : Nat) (u : Value), (wdCells L)[j]? = some u → ∃ x, L[j / 5]? = some x ∧ x.cells[j % 5]? = some u
  | [], j, u, h => by simp [wdCells] at h
  | x :: L, j, u, h => by
    have e : wdCells (x :: L) = x.cells ++ wdCells L := rfl
    rw [e] at h
    by_cases hj : j < 5
    · rw [List.getElem?_append_left (by show j < 5; exact hj)] at h
      exact ⟨x, by rw [Nat.div_eq_of_lt hj]; rfl, by rw [Nat.mod_eq_of_lt hj]; exact h⟩
    · rw [List.getElem?_append_right (by show 5 ≤ j; omega)] at h
      obtain ⟨y, h1, h2⟩ := cells_get L (j - 5) u h
      have hd : j / 5 = (j - 5) / 5 + 1 := by omega
      have hm : j % 5 = (j - 5) % 5 := by omega
      exact ⟨y, by rw [hd]; simpa using h1, by rw [hm]; exact h2⟩
theorem wds_cells {W : World} {g o : Nat} {L : List Wd} (h : WdsAt W (some ⟨g, o, none⟩) L) : ∀ j u, (wdCells L)[j]? = some u → W.cell? ((⟨g, o, none⟩ : Addr).add j) = some u := fun j u hj => by
  obtain ⟨x, h1, h2⟩ := cells_get L j u hj
  obtain ⟨g', o', e, k1, k2, k3, k4, k5⟩ := h _ x h1
  cases e
  have ea : (⟨g, o, none⟩ : Addr).add j = ⟨g, o + j, none⟩ := by unfold Addr.add; split <;> simp_all
  rw [ea]
  have hj5 : j = j / 5 * 5 + j % 5 := by omega
  have h5 : j % 5 < 5 := Nat.mod_lt _ (by omega)
  generalize j / 5 = q at *
  generalize j % 5 = r at *
  subst hj5
  match r, h5 with
  | 0, _ => cases h2; exact k1
  | 1, _ => cases h2; exact k2
  | 2, _ => cases h2; exact k3
  | 3, _ => cases h2; exact k4
  | 4, _ => cases h2; exact k5
theorem own_wds81 {W : World} {base : Nat} {v : Value} {L : List Wd} (h : W.ownsRow base 81 5 v L.length (wdCells L)) (h0 : 0 < L.length) : ∃ g c, v = .slice (some ⟨g, 0, none⟩) L.length c ∧ WdsAt W (some ⟨g, 0, none⟩) L ∧ base ≤ g ∧ g < W.heap.size := by
  obtain ⟨g, cap, rfl, hb, hl⟩ := h.form h0
  refine ⟨g, cap, rfl, ?_, hb, hl⟩
  intro i l hi
  obtain ⟨k1, k2, k3, k4, k5⟩ := wdCells_at L i l hi
  have hc : ∀ j u, (wdCells L)[j]? = some u → W.cell? ⟨g, j, none⟩ = some u := fun j u hj => (h.cellAt j (by have := (List.getElem?_eq_some_iff.1 hj).1; have := h.1; omega)).trans hj
  exact ⟨g, 0, rfl, by rw [Nat.zero_add]; exact hc _ _ k1, by rw [Nat.zero_add]; exact hc _ _ k2, by rw [Nat.zero_add]; exact hc _ _ k3, by rw [Nat.zero_add]; exact hc _ _ k4, by rw [Nat.zero_add]; exact hc _ _ k5⟩
theorem own_new81 {W : World} {b : Nat} (h : Blk W b #[] 81) : W.ownsRow b 81 5 (.slice (some ⟨b, 0, none⟩) 0 0) 0 [] :=
  ⟨rfl, .inr ⟨b, 0, #[], rfl, Nat.le_refl _, h, Nat.le_refl _, by unfold maxLen; omega, rfl, rfl⟩⟩

/-- Words behind words. -/
theorem run_appW (ws xs : List Wd) (a : Option Addr) (c : Nat) (v : Value) (base : Nat) (W : World) (hO : W.ownsRow base 81 5 v ws.length (wdCells ws)) (hW : WdsAt W a xs) (ha : a = none → xs = [] ∧ c = 0) (hn : ws.length + xs.length ≤ 1000) (hbase : base ≤ W.heap.size) :
    ∃ v1 w1, (Builtin.append_ #[22, 22] 22 #[v, .slice a xs.length c]).run Try.prog W = .ok v1 w1 ∧ w1.ownsRow base 81 5 v1 (ws ++ xs).length (wdCells (ws ++ xs)) ∧ W.grownBy w1 v.ownBlock ∧ (v1.ownBlock = v.ownBlock ∨ v1.ownBlock = some W.heap.size) := by
  obtain ⟨i, hi, hy0, hy1, hy2⟩ := info_parts info81
  cases a with
  | none =>
    obtain ⟨rfl, rfl⟩ := ha rfl
    obtain ⟨v1, w1, h1, h2, h3, h4⟩ : ∃ v1 w1, (Builtin.append_ #[22, 22] 22 #[v, .slice none 0 0]).run Try.prog W = .ok v1 w1 ∧ w1.ownsRow base 81 5 v1 ws.length (wdCells ws) ∧ W.grownBy w1 v.ownBlock ∧ (v1.ownBlock = v.ownBlock ∨ v1.ownBlock = some W.heap.size) := by
      rcases hO.2 with ⟨rfl, h0⟩ | ⟨g, cap, cur, rfl, hb, hg, hc, hrest⟩
      · refine ⟨.slice none 0 0, W, ?_, hO, ⟨rfl, rfl, rfl, Nat.le_refl _, fun _ _ _ => rfl⟩, .inl rfl⟩
        have hu := run_underlying (P := Try.prog) (w := W) Try.underlying22
        simp [Builtin.append_, hu, sizeOf, typeInfo, hi, go_sem]
      · refine ⟨_, W, ?_, hO, ⟨rfl, rfl, rfl, Nat.le_refl _, fun _ _ _ => rfl⟩, .inl rfl⟩
        have hu := run_underlying (P := Try.prog) (w := W) Try.underlying22
        simp [Builtin.append_, hu, sizeOf, typeInfo, hi, go_sem]
        intro hlt
        exact absurd hlt (by omega)
    refine ⟨v1, w1, h1, ?_, h3, h4⟩
    rw [List.append_nil]; exact h2
  | some ad =>
    by_cases h0 : 0 < xs.length
    · obtain ⟨x, hx⟩ : ∃ x, xs[0]? = some x := ⟨xs[0]'h0, List.getElem?_eq_getElem _⟩
      obtain ⟨g, o, e, _⟩ := hW 0 x hx
      cases e
      obtain ⟨v', w', hr, ho, hgr, _, hat⟩ := run_append_own_at (P := Try.prog) (w := W) base 22 22 81 i _ 5 40 Try.underlying22 hi hy0 hy1 hy2 rfl (by decide) v ws.length (wdCells ws) hO ⟨g, o, none⟩ xs.length c (wdCells xs) (cells_len xs) (wds_cells hW) (fun u hu => cells_one hu) (by unfold maxLen; omega) (Nat.le_trans (Nat.mul_le_mul hn (Nat.le_refl 40)) (by decide)) hbase
      refine ⟨v', w', hr, ?_, hgr, hat⟩
      rw [List.length_append]
      have e : wdCells (ws ++ xs) = wdCells ws ++ wdCells xs := by unfold wdCells; simp
      rw [e]; exact ho
    · obtain rfl : xs = [] := List.eq_nil_of_length_eq_zero (by omega)
      obtain ⟨v', w', hr, ho, hgr, _, hat⟩ := run_append_own_at (P := Try.prog) (w := W) base 22 22 81 i _ 5 40 Try.underlying22 hi hy0 hy1 hy2 rfl (by decide) v ws.length (wdCells ws) hO ad 0 c [] rfl (fun j u h => by simp at h) (fun u hu => by cases hu) (by unfold maxLen; omega) (Nat.le_trans (Nat.mul_le_mul (show ws.length + 0 ≤ 1000 by omega) (Nat.le_refl 40)) (by decide)) hbase
      refine ⟨v', w', hr, ?_, hgr, hat⟩
      rw [List.append_nil]
      simpa using ho

/-- What the copy has left. -/
structure CpF (wr W : World) (b : Nat) (ws : List Wd) (v1 : Value) (w1 : World) : Prop where
  ow : w1.ownsRow b 81 5 v1 ws.length (wdCells ws)
  bl : Below wr.heap.size wr w1
  keep : ∀ k cs t, k ≠ b → Blk W k cs t → Blk w1 k cs t
  own : ∀ k, v1.ownBlock = some k → k = b ∨ W.heap.size ≤ k
  sz : b ≤ w1.heap.size
  up : W.heap.size ≤ w1.heap.size
theorem armCopy {wr W : World} {ws : List Wd} {a0 : Option Addr} {c0 b : Nat} (hWr : WdsAt wr a0 ws) (ha : a0 = none → ws = [] ∧ c0 = 0) (hn : ws.length ≤ 900) {t ty : TypeId} {ops : Array Oper} {d : Option Tmp} {s x : Operand} {p : String} {af : Array Edge} {act : Act} {K : Act → World → Prop} {Q : Exit → Act → World → Prop} {E : Prop}
    (ht : t = 22) (hty : ty = 22) (hs : act.eval s = .slice (some ⟨b, 0, none⟩) 0 0) (hx : act.eval x = .slice a0 ws.length c0) (hE : Blk W b #[] 81) (hB : Below wr.heap.size wr W) (hb : wr.heap.size ≤ b) (h : ∀ v1 w1, CpF wr W b ws v1 w1 → K (act.put d v1) w1) :
    if Region.wanted { dst := d, op := .call { callee := .builtin .append, args := #[s, x], argTypes := #[t, t] }, type := ty, pos := p, after := af, guard := none } (yielded ops act.tmps) = true then Oper.wp Try.prog { dst := d, op := .call { callee := .builtin .append, args := #[s, x], argTypes := #[t, t] }, type := ty, pos := p, after := af, guard := none } act W K Q else E := by
  subst ht hty
  rw [if_pos (by simp [Region.wanted])]
  obtain ⟨v1, w1, hr, ho, hg, hat⟩ := run_appW [] ws a0 c0 _ b W (own_new81 hE) (hWr.lo hB) ha (by simpa using (by omega : ws.length ≤ 1000)) (Nat.le_of_lt hE.lt)
  refine wp_run2 s x 22 rfl _ _ v1 w1 hs hx hr (h v1 w1 ⟨by simpa using ho, below_grow hB hg (fun k e => by cases e; exact hb), fun k cs t hk hB2 => (hg.block k hB2.lt (fun e => hk (by cases e; rfl))).trans hB2, fun k hk => ?_, Nat.le_trans (Nat.le_of_lt hE.lt) hg.size, hg.size⟩)
  rcases hat with e | e
  · rw [e] at hk; cases hk; exact .inl rfl
  · rw [e] at hk; cases hk; exact .inr (Nat.le_refl _)

theorem hv {T C : Prop} (h : T) (k : T → C) : C := k h
theorem hvE {k : Nat} {W w2 : World} {P : Prop} {g : Nat} (h : k < W.heap.size → P → k ≠ g ∧ ∀ cs t, Blk W k cs t → Blk w2 k cs t) {cs : Array Value} {t : TypeId} {C : Prop} (hb : Blk W k cs t) (hk : k < W.heap.size) (hp : P) (c : Blk w2 k cs t → k ≠ g → C) : C :=
  c ((h hk hp).2 cs t hb) (h hk hp).1
theorem hvK {b : Nat} {W w1 : World} (h : ∀ k cs t, k ≠ b → Blk W k cs t → Blk w1 k cs t) {k : Nat} {cs : Array Value} {t : TypeId} (hk : k ≠ b) (hb : Blk W k cs t) : Blk w1 k cs t := h k cs t hk hb
theorem sz_al {b : Nat} {w : World} (h : b ≤ w.heap.size) (o : Obj) : b ≤ (w.alloc o).heap.size := by simp; omega
/-- What one word more has left. -/
structure OnF (wr W : World) (v1 : Value) (ws : List Wd) (g c : Nat) (w2 : World) : Prop where
  wd : WdsAt w2 (some ⟨g, 0, none⟩) ws
  bl : Below wr.heap.size wr w2
  lt : g < w2.heap.size
  far : ∀ k, k < W.heap.size → (∀ kk, v1.ownBlock = some kk → kk ≠ k) → k ≠ g ∧ ∀ cs t, Blk W k cs t → Blk w2 k cs t
theorem armOne {wr W : World} {ws : List Wd} {y0 y1 y2 y3 y4 : Int} {v1 : Value} {b B : Nat} (hO : W.ownsRow b 81 5 v1 ws.length (wdCells ws)) (hn : ws.length ≤ 900) (hbl : b ≤ W.heap.size) {t ty : TypeId} {ops : Array Oper} {d : Option Tmp} {s x : Operand} {p : String} {af : Array Edge} {act : Act} {K : Act → World → Prop} {Q : Exit → Act → World → Prop} {E : Prop}
    (ht : t = 22) (hty : ty = 22) (hs : act.eval s = v1) (hx : act.eval x = .slice (some ⟨B, 0, none⟩) 1 1) (hE : Blk W B #[.int .i64 y0, .int .i64 y1, .int .i64 y2, .int .i64 y3, .int .i64 y4] 81) (hB : Below wr.heap.size wr W) (hb : wr.heap.size ≤ b) (h : ∀ g c w2, OnF wr W v1 (ws ++ [⟨y0, y1, y2, y3, y4⟩]) g c w2 → K (act.put d (.slice (some ⟨g, 0, none⟩) (ws.length + 1) c)) w2) :
    if Region.wanted { dst := d, op := .call { callee := .builtin .append, args := #[s, x], argTypes := #[t, t] }, type := ty, pos := p, after := af, guard := none } (yielded ops act.tmps) = true then Oper.wp Try.prog { dst := d, op := .call { callee := .builtin .append, args := #[s, x], argTypes := #[t, t] }, type := ty, pos := p, after := af, guard := none } act W K Q else E := by
  subst ht hty
  rw [if_pos (by simp [Region.wanted])]
  have hW : WdsAt W (some ⟨B, 0, none⟩) [⟨y0, y1, y2, y3, y4⟩] := fun i z hz => by
    match i, hz with
    | 0, hz => cases hz; exact ⟨B, 0, rfl, hE.cell 0 rfl, hE.cell 1 rfl, hE.cell 2 rfl, hE.cell 3 rfl, hE.cell 4 rfl⟩
  obtain ⟨v2, w2, hr, ho, hg, hat⟩ := run_appW ws [⟨y0, y1, y2, y3, y4⟩] (some ⟨B, 0, none⟩) 1 v1 b W hO hW (fun e => by cases e) (by simp; omega) hbl
  obtain ⟨g, c, rfl, hwd, hbg, hgl⟩ := own_wds81 ho (by simp)
  rw [List.length_append] at hr
  refine wp_run2 s x 22 rfl _ _ _ w2 hs hx hr (h g c w2 ⟨hwd, below_grow hB hg (fun k e => Nat.le_trans hb (hO.lt k e).1), hgl, fun k hk hne => ⟨fun e => ?_, fun cs t hB2 => (hg.block k hk (fun e => hne k e.symm rfl)).trans hB2⟩⟩)
  rcases hat with e2 | e2
  · exact hne g (e2.symm.trans rfl) e.symm
  · have : g = W.heap.size := by simpa [Value.ownBlock] using e2
    omega

theorem Blk.nw1 (W : World) (o : Obj) (cs : Array Value) (t : TypeId) : Blk ((W.alloc o).alloc (.cells cs t)) (W.heap.size + 1) cs t := by
  have := Blk.new (W.alloc o) cs t
  rwa [World.size_alloc] at this
theorem Blk.nw2 (W : World) (o o2 : Obj) (cs : Array Value) (t : TypeId) : Blk (((W.alloc o).alloc o2).alloc (.cells cs t)) (W.heap.size + 2) cs t := by
  have := Blk.new ((W.alloc o).alloc o2) cs t
  rwa [World.size_alloc, World.size_alloc] at this
theorem Blk.nw2' (W : World) (o o2 : Obj) (cs : Array Value) (t : TypeId) : Blk (((W.alloc o).alloc o2).alloc (.cells cs t)) (W.heap.size + 1 + 1) cs t := Blk.nw2 W o o2 cs t
theorem Blk.al {W : World} {b : Nat} {cs : Array Value} {t : TypeId} (h : Blk W b cs t) (o : Obj) : Blk (W.alloc o) b cs t := Blk.alt (p := fun _ => False) h ((Alt.refl _ _).alloc o) id
theorem Blk.dr {W : World} {b : Nat} {cs : Array Value} {t : TypeId} (h : Blk W b cs t) : Blk W.drew b cs t := h

/-- A lane with one word more, in a box. -/
structure NB (fs : Int) (ws : List Wd) (n b g c : Nat) (wr X : World) : Prop where
  k0 : Blk X b #[.int .i64 fs, .slice (some ⟨g, 0, none⟩) n c] 24
  ln : n = ws.length
  wd : WdsAt X (some ⟨g, 0, none⟩) ws
  bl : Below wr.heap.size wr X
  lt : g < X.heap.size
theorem NB.k {fs : Int} {ws : List Wd} {n b g c : Nat} {wr X : World} (h : NB fs ws n b g c wr X) : Blk X b #[.int .i64 fs, .slice (some ⟨g, 0, none⟩) ws.length c] 24 := by
  have := h.k0
  rwa [h.ln] at this
theorem NB.mk1 {fs : Int} {ws : List Wd} {n b g c : Nat} {wr W w2 : World} {v1 : Value} (h : OnF wr W v1 ws g c w2) (hn : n = ws.length) (hb : Blk w2 b #[.int .i64 0, .slice none 0 0] 24) (hne : b ≠ g) (hwb : wr.heap.size ≤ b) :
    NB fs ws n b g c wr ((w2.setCell ⟨b, 0, none⟩ (.int .i64 fs)).setCell ⟨b, 1, none⟩ (.slice (some ⟨g, 0, none⟩) n c)) := by
  obtain ⟨h1, h2⟩ := hb.put2 (.int .i64 fs) (.slice (some ⟨g, 0, none⟩) n c)
  exact ⟨h1, hn, h.wd.alt h2 (fun g' o e e2 => by cases e; exact hne e2.symm), ((Alt.of_below (p := fun k => wr.heap.size ≤ k) h.bl (fun k _ e => e)).trans (h2.mono fun k _ e => by omega)).below (Nat.le_refl _) fun _ e => e, Nat.lt_of_lt_of_le h.lt h2.size⟩
theorem NB.mk2 {fs : Int} {ws : List Wd} {n g c : Nat} {wr W w2 : World} {v1 : Value} (h : OnF wr W v1 ws g c w2) (hn : n = ws.length) :
    NB fs ws n w2.heap.size g c wr (w2.alloc (.cells #[.int .i64 fs, .slice (some ⟨g, 0, none⟩) n c] 24)) :=
  ⟨Blk.new _ _ _, hn, h.wd.lo (below_al _ _), below_al2 h.bl _, Nat.lt_of_lt_of_le h.lt (by simp)⟩

end Go.Proofs.Ytbbndcfnpfedpaa
