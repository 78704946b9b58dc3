/- What FrameWins asks besides: appending to a slice that is full, Read of whole games, spans and final counts of the sheets. -/
import Derived.Test.YtmjbidnlknmcgabDoorWi
import Derived.Test.YtmjbidnlknmcgabDoorWm
import Derived.Test.YtmjbidnlknmcgabDoorEe
import Derived.Deep.AppendSrc
set_option linter.unusedVariables false
set_option linter.unusedSimpArgs false
namespace Go.Proofs.YtmjbidnlknmcgabDoor
open Go.RowKit

/-- Here an 'append' comes up, under a guard or not. -/
theorem append_hereG {P : Program} {ops : Array Oper} {d : Option Tmp} {s x : Operand} {t ty : TypeId} {p : String} {af : Array Edge} {gd : Option (Nat × Bool)} {a : Act} {w : World} {K : Act → World → Prop} {Q : Exit → Act → World → Prop} {E : Prop}
    (h : if Region.wanted { dst := d, op := .call { callee := .builtin .append, args := #[s, x], argTypes := #[t, t] }, type := ty, pos := p, after := af, guard := gd } (yielded ops a.tmps) = true then Oper.wp P { dst := d, op := .call { callee := .builtin .append, args := #[s, x], argTypes := #[t, t] }, type := ty, pos := p, after := af, guard := gd } a w K Q else E) :
    if Region.wanted { dst := d, op := .call { callee := .builtin .append, args := #[s, x], argTypes := #[t, t] }, type := ty, pos := p, after := af, guard := gd } (yielded ops a.tmps) = true then Oper.wp P { dst := d, op := .call { callee := .builtin .append, args := #[s, x], argTypes := #[t, t] }, type := ty, pos := p, after := af, guard := gd } a w K Q else E := h

section
variable {P : Program} (w : World)
theorem step_append_own {ops : Array Oper} {o : Oper} {a : Act} {K : Act → World → Prop} {Q : Exit → Act → World → Prop} {E : Prop} (hw : Region.wanted o (yielded ops a.tmps) = true) (s x : Operand) (t : TypeId)
    (ho : o.op = .call { callee := .builtin .append, args := #[s, x], argTypes := #[t, t] })
    (base : Nat) (e : TypeId) (i : TypeInfo) (z : Value) (size bytes : Nat) (ht : P.underlying t = some (.slice e)) (hi : P.info? e = some i) (hz : i.zero = some z)
    (hsize : i.size = size) (hby : i.bytes = bytes) (hzs : z.cells.size = size) (hsz : 0 < size)
    (v : Value) (n : Nat) (xs : List Value) (hs : a.eval s = v) (hown : w.ownsRow base e size v n xs)
    (ad : Addr) (m c : Nat) (news : List Value) (hx : a.eval x = .slice (some ad) m c) (hl : news.length = m * size) (hnews : ∀ j u, news[j]? = some u → w.cell? (ad.add j) = some u) (h1 : ∀ u ∈ news, u.oneCell' = true)
    (h63 : n + m ≤ maxLen) (hbytes : (n + m) * bytes ≤ 140737488355328) (hbase : base ≤ w.heap.size)
    (h : ∀ v' w', w'.ownsRow base e size v' (n + m) (xs ++ news) → w.grownBy w' v.ownBlock → (v'.ownBlock = v.ownBlock ∨ v'.ownBlock = some w.heap.size) → K (a.put o.dst v') w') :
    if Region.wanted o (yielded ops a.tmps) = true then Oper.wp P o a w K Q else E := by
  rw [if_pos hw]
  obtain ⟨v', w', hr, h2, h3, _, h5⟩ := run_append_own_at (P := P) w base t o.type e i z size bytes ht hi hz hsize hby hzs hsz v n xs hown ad m c news hl hnews h1 h63 hbytes hbase
  unfold Oper.wp execOp
  simp only [ho, resolve, invoke, builtin, Sem.run_bind, Sem.run_pure, Result.andThen_ok, List.map_toArray, List.map_cons, List.map_nil, hs, hx, hr]
  exact h v' w' h2 h3 h5

/-- Onto a slice that is full: new memory. -/
theorem step_append_grow {ops : Array Oper} {o : Oper} {a : Act} {K : Act → World → Prop} {Q : Exit → Act → World → Prop} {E : Prop} (hw : Region.wanted o (yielded ops a.tmps) = true) (s x : Operand) (t : TypeId)
    (ho : o.op = .call { callee := .builtin .append, args := #[s, x], argTypes := #[t, t] })
    (e : TypeId) (i : TypeInfo) (z : Value) (ht : P.underlying t = some (.slice e)) (hi : P.info? e = some i) (hz : i.zero = some z) (hby : i.bytes = 1)
    (base : Option Addr) (n : Nat) (olds : List Value) (hs : a.eval s = .slice base n n) (hold : (Builtin.firstCells i.size n (.slice base n n)).run P w.drew = .ok olds.toArray w.drew)
    (x' : Value) (hx : a.eval x = x') (news : List Value) (hsrc : Src P i.size t x' 1 news w) (hn : n + 1 ≤ 140737488355328)
    (h : ∀ c w', n + 1 ≤ c → w' = w.drew.alloc (.cells ((olds ++ news).toArray ++ Builtin.zeroCells z.cells (c - (n + 1))) e) → K (a.put o.dst (.slice (some ⟨w.heap.size, 0, none⟩) (n + 1) c)) w') :
    if Region.wanted o (yielded ops a.tmps) = true then Oper.wp P o a w K Q else E := by
  rw [if_pos hw]
  have hr := run_append_grow_src (P := P) w t t o.type e i z ht hi hz base n n olds hold x' 1 news hsrc (by omega) (by omega) (by
    rw [hby, Nat.mul_one]
    exact Nat.le_trans (nextslicecap_le (by omega)) (by omega))
  unfold Oper.wp execOp
  simp only [ho, resolve, invoke, builtin, Sem.run_bind, Sem.run_pure, Result.andThen_ok, List.map_toArray, List.map_cons, List.map_nil, hs, hx, hr]
  exact h _ _ (grownCap_ge w (n + 1) n e) rfl
end

/-- Read of a whole game. -/
theorem rd_whole {l : Lw} {ys : List Int} {s : Sd} {F : Nat} (h : FO l ys s) (ok : l.Ok) (hf : s.f = l.fr) (hF : (F : Int) = l.fr) (a : Option Addr) (c : Nat) (W : World) (hs : BallsAt W a ys) :
    Calls Tryd.prog 12 #[l.val, .slice a ys.length c] W fun e w' => ∃ fa fn fc qa qc st, e = .returned (.tuple #[.agg #[.slice fa fn fc, .slice qa F qc, .int .i64 st, .bool true], .int .i64 0]) ∧
      w'.ownsRow W.heap.size 3 1 (.slice qa F qc) F ((rdM l ys).map (Value.int .i64)) ∧ Below W.heap.size W w' := by
  have hr := h.rd ok
  refine (rd_good l ys a c W hs hr).mono ?_
  rintro e w' ⟨fv, qv, rfl, ⟨base, cv, vs, how, hln, _⟩, ⟨base2, hq, hq2⟩, hb⟩
  have o24 := how.own (28, fv, vs) (by simp [items])
  simp only at o24
  obtain ⟨fa, fc, rfl⟩ := own_len o24
  have e2 : setL l (recS l ys) = rdM l ys := by simp [rdM, hr]
  have e3 : (rdM l ys).length = F := by have := set_done h ok hf; omega
  have e4 : (recS l ys).s.f = l.fr := by rw [← hf, ← h.s]; rfl
  rw [e2, e3] at hq
  obtain ⟨qa, qc, rfl⟩ := own_len hq
  refine ⟨fa, vs.length, fc, qa, qc, (recS l ys).s.s, ?_, ⟨hq.1, hq.2.imp id fun ⟨g, cap, cur, h1, h2, h3⟩ => ⟨g, cap, cur, h1, Nat.le_trans hq2 h2, h3⟩⟩, hb⟩
  simp [gameV, e4]

/-- Sheets, and whole games that go on from them. -/
structure Gn (l : Lw) (CS DS : List (Option Addr × Nat × List Int)) : Prop where
  len : CS.length = DS.length
  rd : ∀ p ∈ CS, rdE l p.2.2 = 0
  fo : ∀ (i : Nat) (p q : Option Addr × Nat × List Int), CS[i]? = some p → DS[i]? = some q → (∃ xs, p.2.2 ++ xs = q.2.2) ∧ ∃ s, FO l q.2.2 s ∧ s.f = l.fr

theorem Gn.nil (l : Lw) : Gn l [] [] := ⟨rfl, fun p h => by (cases h), fun i p q h => by simp at h⟩
theorem Gn.snoc {l : Lw} {CS DS : List (Option Addr × Nat × List Int)} (h : Gn l CS DS) {p q : Option Addr × Nat × List Int} (hr : rdE l p.2.2 = 0) (hx : ∃ xs, p.2.2 ++ xs = q.2.2) (hf : ∃ s, FO l q.2.2 s ∧ s.f = l.fr) : Gn l (CS ++ [p]) (DS ++ [q]) := by
  refine ⟨by simp [h.len], fun r hr2 => ?_, fun i r t h1 h2 => ?_⟩
  · rcases List.mem_append.1 hr2 with h1 | h1
    · exact h.rd r h1
    · simp at h1; rw [h1]; exact hr
  · by_cases hi : i < CS.length
    · rw [List.getElem?_append_left hi] at h1
      rw [List.getElem?_append_left (by rw [← h.len]; exact hi)] at h2
      exact h.fo i r t h1 h2
    · rw [List.getElem?_append_right (by omega)] at h1
      rw [List.getElem?_append_right (by rw [← h.len]; omega), ← h.len] at h2
      have h0 : i - CS.length = 0 := by have := (List.getElem?_eq_some_iff.1 h1).1; simp at this; omega
      rw [h0] at h1 h2
      simp at h1 h2
      rw [← h1, ← h2]
      exact ⟨hx, hf⟩

def finT (l : Lw) (DS : List (Option Addr × Nat × List Int)) : List Int := DS.map fun p => (recS l p.2.2).tot

theorem Gn.wn {l : Lw} {CS DS : List (Option Addr × Nat × List Int)} (h : Gn l CS DS) (ok : l.Ok) (h0 : 0 < CS.length) : Wn (spR l CS) (finT l DS) := by
  refine ⟨by simp [spR, finT, h.len], by simp [finT, ← h.len, h0], fun i p t hp ht => ?_⟩
  rw [spR, List.getElem?_map, Option.map_eq_some_iff] at hp
  rw [finT, List.getElem?_map, Option.map_eq_some_iff] at ht
  obtain ⟨a, ha, rfl⟩ := hp
  obtain ⟨b, hb, rfl⟩ := ht
  obtain ⟨⟨xs, hx⟩, s, hF, hsf⟩ := h.fo i a b ha hb
  have sx := sx_of hF ok
  have sd := sp_done hF ok hsf
  have hm := sx.mono a.2.2.length xs.length (by rw [← hx, List.length_append]; exact Nat.le_refl _)
  have e1 : b.2.2.take a.2.2.length = a.2.2 := by rw [← hx]; exact List.take_left
  have e2 : b.2.2.take (a.2.2.length + xs.length) = b.2.2 := List.take_of_length_le (by rw [← hx, List.length_append]; exact Nat.le_refl _)
  rw [e1, e2, sd.1, sd.2] at hm
  exact ⟨hm.1, hm.2⟩

theorem Gn.done {l : Lw} {CS DS : List (Option Addr × Nat × List Int)} (h : Gn l CS DS) (ok : l.Ok) : spR l DS = (finT l DS).map fun t => (t, t) := by
  unfold spR finT
  rw [List.map_map]
  refine List.map_congr_left (fun q hq => ?_)
  obtain ⟨i, hi⟩ := List.mem_iff_getElem?.1 hq
  have hc : i < CS.length := by rw [h.len]; exact (List.getElem?_eq_some_iff.1 hi).1
  obtain ⟨_, s, hF, hsf⟩ := h.fo i CS[i] q (List.getElem?_eq_getElem hc) hi
  have sd := sp_done hF ok hsf
  simp only [Function.comp]
  rw [sd.1, sd.2]

theorem Gn.dfo {l : Lw} {CS DS : List (Option Addr × Nat × List Int)} (h : Gn l CS DS) {q : Option Addr × Nat × List Int} (hq : q ∈ DS) : ∃ s, FO l q.2.2 s ∧ s.f = l.fr := by
  obtain ⟨i, hi⟩ := List.mem_iff_getElem?.1 hq
  have hc : i < CS.length := by rw [h.len]; exact (List.getElem?_eq_some_iff.1 hi).1
  exact (h.fo i CS[i] q (List.getElem?_eq_getElem hc) hi).2

theorem spE_zero {l : Lw} {XS : List (Option Addr × Nat × List Int)} (h : ∀ p ∈ XS, rdE l p.2.2 = 0) : spE l XS = 0 := spE_good h

theorem match_zero {l : Lw} {XS : List (Option Addr × Nat × List Int)} (hk : okB l = true) (h0 : 0 < XS.length) (h6 : XS.length ≤ 6) (h : ∀ p ∈ XS, rdE l p.2.2 = 0) : matchE l XS = 0 := by
  have ha : (XS.all fun p => decide (p.2.2.length ≤ 40)) = true := by
    rw [List.all_eq_true]
    intro p hp
    have := (errS_zero (rdE_zero (h p hp)).1).2
    simpa using this
  unfold matchE
  rw [if_neg (by simp [hk]), if_neg (by omega), if_neg (by simp [ha]), if_neg (by omega)]

theorem finT_nn {l : Lw} {CS DS : List (Option Addr × Nat × List Int)} (h : Gn l CS DS) (ok : l.Ok) : ∀ t ∈ finT l DS, 0 ≤ t := by
  intro t ht
  obtain ⟨q, hq, rfl⟩ := List.mem_map.1 ht
  obtain ⟨s, hF, _⟩ := h.dfo hq
  exact (recS_ok (hF.rd ok)).2.1.t1

end Go.Proofs.YtmjbidnlknmcgabDoor
