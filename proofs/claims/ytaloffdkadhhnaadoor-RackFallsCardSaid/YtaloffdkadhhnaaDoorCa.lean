/- The contract of the reference's Carries: all that links can do, each a list of its own. -/
import Derived.Test.YtaloffdkadhhnaaDoorBo
set_option linter.unusedVariables false
set_option linter.unusedSimpArgs false
namespace Go.Proofs.YtaloffdkadhhnaaDoor
open Go.RowKit

attribute [local go_sem] Oper.semAt_some

/-- All that links can do that begins so. -/
def carL (ls : List Lk) (p : List Bool) (n : Nat) : List (List Value) := (carsA (ls.drop n)).map fun q => (p ++ q).map Value.bool
theorem carL_end (ls : List Lk) (p : List Bool) : carL ls p ls.length = [p.map Value.bool] := by unfold carL; simp [carsA]
theorem carL_step {ls : List Lk} {l : Lk} {n : Nat} (p : List Bool) (h : ls[n]? = some l) : carL ls p n = carL ls (p ++ [true]) (n + 1) ++ if l.sr = true then [] else carL ls (p ++ [false]) (n + 1) := by
  have hn := (List.getElem?_eq_some_iff.1 h).1
  have hd : ls.drop n = l :: ls.drop (n + 1) := by
    rw [List.drop_eq_getElem_cons hn]
    congr 1
    exact (List.getElem?_eq_some_iff.1 h).2
  unfold carL
  rw [hd]
  show ((carsA (ls.drop (n + 1))).map (fun q => true :: q) ++ if l.sr = true then [] else (carsA (ls.drop (n + 1))).map (fun q => false :: q)).map _ = _
  rw [List.map_append, List.map_map]
  congr 1
  · congr 1; funext q; simp
  · split
    · rfl
    · rw [List.map_map]; congr 1; funext q; simp
theorem carsA_len : ∀ (ls : List Lk), (carsA ls).length ≤ 2 ^ ls.length ∧ carsA ls ≠ []
  | [] => by simp [carsA]
  | l :: ls => by
    obtain ⟨h1, h2⟩ := carsA_len ls
    unfold carsA
    refine ⟨?_, fun h => h2 (List.map_eq_nil_iff.1 (List.append_eq_nil_iff.1 h).1)⟩
    rw [List.length_append, List.length_map, List.length_cons, Nat.pow_succ]
    split
    · simp; omega
    · rw [List.length_map]; omega
theorem carL_len {ls : List Lk} (h : ls.length ≤ 12) (p : List Bool) (n : Nat) : (carL ls p n).length ≤ 4096 ∧ carL ls p n ≠ [] := by
  obtain ⟨h1, h2⟩ := carsA_len (ls.drop n)
  have h3 : 2 ^ (ls.drop n).length ≤ 2 ^ 12 := Nat.pow_le_pow_right (by omega) (by rw [List.length_drop]; omega)
  unfold carL
  refine ⟨by rw [List.length_map]; omega, fun h => h2 (List.map_eq_nil_iff.1 h)⟩

set_option maxRecDepth 100000 in
set_option maxHeartbeats 8000000 in
theorem carries_any (r : Rk) (h12 : r.ls.length ≤ 12) :
    ∀ (k : Nat) (p : List Bool) (n : Nat) (a1 : Option Addr) (c1 base : Nat) (w : World), p.length = n → n + k = r.ls.length → LinksAt w r.la r.ls → RowV base w a1 (p.map Value.bool) → (∀ g o, a1 = some ⟨g, o, none⟩ → g < w.heap.size) → (a1 = none → p = [] ∧ c1 = 0) → base ≤ w.heap.size →
    Calls Tryd.prog 80 #[r.val, .slice a1 n c1] w (RetLL 48 base (carL r.ls p n) w) := by
  intro k
  induction k with
  | zero =>
    intro p n a1 c1 base w hp hk hG hR hlt hN hb
    have hn : n = r.ls.length := by omega
    subst hn
    rw [carL_end]
    have HO : Hid (OwnLL 48 w.heap.size base ((w.alloc (.cells (rCells r) 24)).alloc (.cells #[.slice a1 r.ls.length c1] 48)) (.slice (some ⟨w.heap.size + 1, 0, none⟩) 1 1) [p.map Value.bool]) := Lib.hid (by
      have hbl := Blk.new (w.alloc (.cells (rCells r) 24)) #[.slice a1 r.ls.length c1] 48
      rw [World.size_alloc] at hbl
      refine ⟨[.slice a1 r.ls.length c1], ⟨rfl, .inr ⟨w.heap.size + 1, 1, #[.slice a1 r.ls.length c1], rfl, by omega, hbl, Nat.le_refl _, by unfold maxLen; omega, rfl, rfl⟩⟩, ?_⟩
      have := RowsOk.one (ob := some (w.heap.size + 1)) (c := c1) (hR.lo (below_al2 (below_al w (.cells (rCells r) 24)) (.cells #[.slice a1 r.ls.length c1] 48))) (fun k e g o e' => by cases e; have := hlt g o e'; omega)
      rw [List.length_map, hp] at this
      exact this)
    have HB := Lib.hid (below_al2 (below_al w (.cells (rCells r) 24)) (.cells #[.slice a1 r.ls.length c1] 48))
    unfold rCells at HO HB
    unfold Rk.val
    clear hG hR hlt hN
    go_enter Tryd.func80, Tryd.ntmps80
    go_wp2_with fail
    go_returns
    exact ⟨_, rfl, HO.out, HB.out⟩
  | succ k ih =>
    intro p n a1 c1 base w hp hk hG hR hlt hN hb
    have hnl : n < r.ls.length := by omega
    obtain ⟨l, hln⟩ : ∃ l, r.ls[n]? = some l := ⟨r.ls[n]'hnl, List.getElem?_eq_getElem _⟩
    obtain ⟨g, o, hla, k1, k2, k3⟩ := hG _ _ hln
    have HB := Lib.hid (carL_step p hln)
    have HLB := Lib.hid (fun (b : Bool) => carL_len h12 (p ++ [b]) (n + 1))
    rw [HB.out]
    have IH := Lib.hid (fun (b : Bool) a1 c1 w0 (W : World) (hb : Below w.heap.size w W) (hR : RowV w0 W a1 ((p.map Value.bool) ++ [.bool b])) (hlt : ∀ g o, a1 = some ⟨g, o, none⟩ → g < W.heap.size) (hne : a1 ≠ none) (hw0 : w0 ≤ W.heap.size) =>
      ih (p ++ [b]) (n + 1) a1 c1 w0 W (by simp [hp]) (by omega) (hG.lo hb) (by rw [List.map_append]; exact hR) hlt (fun e => absurd e hne) hw0)
    have HR := Lib.hid (hR.mono (Nat.zero_le _))
    have HN := Lib.hid hN
    obtain ⟨i4, hi4, hy0, hy1, hy2⟩ := info_parts info4
    obtain ⟨i48, hi48, hz0, hz1, hz2⟩ := info_parts info48
    have HCO := Lib.hid (fun (b : Bool) W (hb : Below w.heap.size w W) => orders3 48 4 i4 (.bool false) 1 Tryd.underlying48 hi4 hy0 hy1 hy2 (by decide) rfl (p.map Value.bool) (by intro u hu; obtain ⟨y, _, rfl⟩ := List.mem_map.1 hu; rfl) (.bool b) rfl a1 c1 W (HR.out.lo hb) (fun e => by have := HN.out e; exact ⟨by rw [this.1]; rfl, this.2⟩) (by rw [List.length_map]; omega))
    have hzn0 : (0 : Int) ≤ (n : Int) := by omega
    have hzn1 : (n : Int) < (r.ls.length : Int) := by omega
    have hzn2 : ((n : Int) == (r.ls.length : Int)) = false := by simp; omega
    have Hb := Lib.hid hb
    have Hhp := Lib.hid (show (p.map Value.bool).length = n by rw [List.length_map, hp])
    have S0 := Lib.hid (St.start r w)
    have HK3 := Lib.hid k3
    unfold rCells at S0
    unfold Rk.val at *
    have HLA := Lib.hid hla
    rw [hla] at IH S0 ⊢
    generalize hT : carL r.ls (p ++ [true]) (n + 1) = LT at *
    generalize hF : carL r.ls (p ++ [false]) (n + 1) = LF at *
    have HTT := Lib.hid hT; have HFF := Lib.hid hF
    clear hln hG hR hlt hN ih k1 k2 k3 hp hk hb HB hla hT hF
    obtain ⟨fr, to, sr⟩ := l
    simp only at *
    generalize hRES : (LT ++ if sr = true then [] else LF) = RES at *
    have HRES := Lib.hid hRES
    clear hRES
    go_enter Tryd.func80, Tryd.ntmps80
    go_upto_region 3 with fail
    obtain ⟨w1, hw1⟩ : ∃ W, W = w.alloc (.cells #[.int .i64 r.rows, .int .i64 r.mid, .int .i64 r.gap, .int .i64 r.reach, .slice (some ⟨g, o, none⟩) r.ls.length r.lc] 24) := ⟨_, rfl⟩
    rw [← hw1] at S0 ⊢
    clear hw1
    have DB := Lib.hid (show Below w1.heap.size w1 w1.drew from Below.drew (Below.refl _ _))
    obtain ⟨⟨vA1, wA1, gA, cA, wA, rA1, rA2, RA, BA, BA1⟩, ⟨vB1, wB1, gB, cB, wB, rB1, rB2, RB, BB, BB1⟩, ⟨vC1, wC1, gC, cC, wC, rC1, rC2, RC, BC, BC1⟩⟩ := HCO.out true w1.drew (below_go S0.out.bl DB.out)
    rw [Hhp.out] at rA1 rA2 rB1 rB2 rC1 rC2
    have BA := Lib.hid (below_go DB.out BA); have BB := Lib.hid (below_go DB.out BB); have BC := Lib.hid (below_go DB.out BC); have BA1 := Lib.hid (below_go DB.out BA1); have BB1 := Lib.hid (below_go DB.out BB1); have BC1 := Lib.hid (below_go DB.out BC1)
    have last : ∀ {g c : Nat} {W : World}, RowV w1.heap.size W (some ⟨g, 0, none⟩) (p.map Value.bool ++ [.bool true]) → ∀ g' o', some (⟨g, 0, none⟩ : Addr) = some ⟨g', o', none⟩ → g' < W.heap.size := fun h g' o' e => by
      cases e
      obtain ⟨g', o', e', hc, _⟩ := h (p.map Value.bool).length (.bool true) (by rw [List.getElem?_append_right (Nat.le_refl _)]; simp)
      cases e'
      exact cell_lt hc
    have IA := Lib.hid (IH.out true (some ⟨gA, 0, none⟩) cA w1.heap.size wA (below_go S0.out.bl BA.out) RA (last (c := 0) RA) (by simp) BA.out.size)
    have IB := Lib.hid (IH.out true (some ⟨gB, 0, none⟩) cB w1.heap.size wB (below_go S0.out.bl BB.out) RB (last (c := 0) RB) (by simp) BB.out.size)
    have IC := Lib.hid (IH.out true (some ⟨gC, 0, none⟩) cC w1.heap.size wC (below_go S0.out.bl BC.out) RC (last (c := 0) RC) (by simp) BC.out.size)
    have rA1 := Lib.hid (show (Builtin.append_ #[48, 48] 48 #[.slice (some ⟨w1.heap.size, 0, none⟩) 0 0, .slice a1 n c1]).run Tryd.prog (w1.alloc (.cells #[] 4)).drew = .ok vA1 wA1 from rA1)
    have rB1 := Lib.hid (show (Builtin.append_ #[48, 48] 48 #[.slice (some ⟨w1.heap.size, 0, none⟩) 0 0, .slice a1 n c1]).run Tryd.prog ((w1.alloc (.cells #[] 4)).alloc (.cells #[.bool true] 4)).drew = .ok vB1 wB1 from rB1)
    have rC1 := Lib.hid (show (Builtin.append_ #[48, 48] 48 #[.slice (some ⟨w1.heap.size + 1, 0, none⟩) 0 0, .slice a1 n c1]).run Tryd.prog ((w1.alloc (.cells #[.bool true] 4)).alloc (.cells #[] 4)).drew = .ok vC1 wC1 from rC1)
    have rB2 := Lib.hid (show (Builtin.append_ #[48, 48] 48 #[vB1, .slice (some ⟨w1.heap.size + 1, 0, none⟩) 1 1]).run Tryd.prog wB1 = .ok (.slice (some ⟨gB, 0, none⟩) (n + 1) cB) wB from rB2)
    have rC2 := Lib.hid (show (Builtin.append_ #[48, 48] 48 #[vC1, .slice (some ⟨w1.heap.size, 0, none⟩) 1 1]).run Tryd.prog wC1 = .ok (.slice (some ⟨gC, 0, none⟩) (n + 1) cC) wC from rC2)
    have rA2 := Lib.hid rA2
    have E1 := Lib.hid (Below.drew (below_al w1 (.cells #[] 4))); have E2 := Lib.hid (Below.drew (below_al w1 (.cells #[.bool true] 4))); have E3 := Lib.hid (Below.drew (below_al2 (below_al w1 (.cells #[] 4)) (.cells #[.bool true] 4))); have E4 := Lib.hid (Below.drew (below_al2 (below_al w1 (.cells #[.bool true] 4)) (.cells #[] 4))); have E5 := Lib.hid (below_al2 BA1.out (.cells #[.bool true] 4))
    clear last RA RB RC
    have SD := Lib.hid (S0.out.go DB.out)
    have CC := Lib.hid (fun (W : World) (h : St r w W) => show W.cell? ⟨w.heap.size, 0, none⟩ = some (.int .i64 r.rows) ∧ W.cell? ⟨w.heap.size, 1, none⟩ = some (.int .i64 r.mid) ∧ W.cell? ⟨w.heap.size, 2, none⟩ = some (.int .i64 r.gap) ∧ W.cell? ⟨w.heap.size, 3, none⟩ = some (.int .i64 r.reach) ∧ W.cell? ⟨w.heap.size, 4, none⟩ = some (.slice (some ⟨g, o, none⟩) r.ls.length r.lc) from by
      have h := h.c
      rw [HLA.out] at h
      exact h)
    have SK := Lib.hid (fun (W : World) (hb : Below w1.heap.size w1 W) => CC.out W (S0.out.go hb))
    go_cut [5] from 14 (fun s5 wx => Hid (OwnLL 48 w1.heap.size w1.heap.size wx s5 LT) ∧ Hid (Below w1.heap.size w1 wx))
    case first =>
      refine wp_region_held_drew (S := (fun W => W.cell? ⟨w.heap.size, 0, none⟩ = some (.int .i64 r.rows) ∧ W.cell? ⟨w.heap.size, 1, none⟩ = some (.int .i64 r.mid) ∧ W.cell? ⟨w.heap.size, 2, none⟩ = some (.int .i64 r.gap) ∧ W.cell? ⟨w.heap.size, 3, none⟩ = some (.int .i64 r.reach) ∧ W.cell? ⟨w.heap.size, 4, none⟩ = some (.slice (some ⟨g, o, none⟩) r.ls.length r.lc))) (by kernel_rfl) ?_ (fun hHeld => ?_)
      · (try dsimp only) <;> (with_reducible first | exact SK.out _ BX.out | exact SK.out _ DB.out | exact SK.out _ E1.out | exact SK.out _ E2.out | exact SK.out _ E3.out | exact SK.out _ E4.out | exact SK.out _ E5.out | exact SK.out _ BA1.out | exact SK.out _ BB1.out | exact SK.out _ BC1.out | exact SK.out _ BA.out | exact SK.out _ BB.out | exact SK.out _ BC.out)
      refine wpAnyH_take (i := 0) (oi := { dst := some 14, op := Op.load 24 (Operand.tmp 2), type := 24, pos := "ref.go:218", after := #[], guard := none }) (v := ?v_ca3_0) rfl (by kernel_rfl) (by kernel_rfl) (by kernel_rfl) (fun _ _ _ h => h) (Or.inl ⟨by rfl, ?y_ca3_0⟩) (by assumption) ?_
      case y_ca3_0 => intro w hSw; (try dsimp only at hSw); go_simp; with_reducible rfl
      try simp only [Act.put, List.setIfInBounds_toArray, List.set_cons_zero, List.set_cons_succ]
      refine wpAnyH_take (i := 2) (oi := { dst := some 16, op := Op.move (Operand.tmp 1), type := 48, pos := "ref.go:218", after := #[], guard := none }) (v := ?v_ca3_1) rfl (by kernel_rfl) (by kernel_rfl) (by kernel_rfl) (fun _ _ _ h => h) (Or.inl ⟨by rfl, ?y_ca3_1⟩) (by assumption) ?_
      case y_ca3_1 => intro w hSw; (try dsimp only at hSw); go_simp; with_reducible rfl
      try simp only [Act.put, List.setIfInBounds_toArray, List.set_cons_zero, List.set_cons_succ]
      refine wpAnyH_ready (rs := [1, 4]) (by kernel_rfl) (by simp) ?_
      refine AllReadyH.cons (o := { dst := some 15, op := Op.buildSlice 48 0 #[], type := 48, pos := "ref.go:218", after := #[], guard := none }) rfl (fun K hK => ?_) ?_
      go_simp
      refine hK.out _ _ ?_ (fun hHeld => ?_)
      · (try dsimp only) <;> (with_reducible first | exact SK.out _ BX.out | exact SK.out _ DB.out | exact SK.out _ E1.out | exact SK.out _ E2.out | exact SK.out _ E3.out | exact SK.out _ E4.out | exact SK.out _ E5.out | exact SK.out _ BA1.out | exact SK.out _ BB1.out | exact SK.out _ BC1.out | exact SK.out _ BA.out | exact SK.out _ BB.out | exact SK.out _ BC.out)
      clear hK K
      try simp only [Act.put, List.setIfInBounds_toArray, List.set_cons_zero, List.set_cons_succ]
      refine wpAnyH_ready (rs := [3, 4]) (by kernel_rfl) (by simp) ?_
      refine AllReadyH.cons (o := { dst := some 17, op := Op.call { callee := Callee.builtin Builtin.append, args := #[Operand.tmp 15, Operand.tmp 16], argTypes := #[48, 48] }, type := 48, pos := "ref.go:218", after := #[{ on := 1, ground := Ground.data }, { on := 2, ground := Ground.data }], guard := none }) rfl (fun K hK => ?_) ?_
      (first | ((with_reducible first | refine step_run4 rA1.out ?_ ?_ ?_ | refine step_run4 rB1.out ?_ ?_ ?_ | refine step_run4 rC1.out ?_ ?_ ?_ | refine step_run4 rA2.out ?_ ?_ ?_ | refine step_run4 rB2.out ?_ ?_ ?_ | refine step_run4 rC2.out ?_ ?_ ?_); (exact rfl); (exact rfl)) | (go_at_call 80; (with_reducible first | refine IA.out.mono ?_ | refine IB.out.mono ?_ | refine IC.out.mono ?_); rintro e wX ⟨v3, rfl, hO3, hb⟩; have BX := Lib.hid (below_go (by with_reducible first | exact BA.out | exact BB.out | exact BC.out) hb); have OX := Lib.hid (OwnLL.mono (by have h := hO3; rw [HTT.out] at h; exact h) (by with_reducible first | exact BA.out.size | exact BB.out.size | exact BC.out.size) (Nat.le_refl _)); clear hO3 hb))
      refine hK.out _ _ ?_ (fun hHeld => ?_)
      · (try dsimp only) <;> (with_reducible first | exact SK.out _ BX.out | exact SK.out _ DB.out | exact SK.out _ E1.out | exact SK.out _ E2.out | exact SK.out _ E3.out | exact SK.out _ E4.out | exact SK.out _ E5.out | exact SK.out _ BA1.out | exact SK.out _ BB1.out | exact SK.out _ BC1.out | exact SK.out _ BA.out | exact SK.out _ BB.out | exact SK.out _ BC.out)
      clear hK K
      try simp only [Act.put, List.setIfInBounds_toArray, List.set_cons_zero, List.set_cons_succ]
      refine wpAnyH_ready (rs := [4]) (by kernel_rfl) (by simp) ?_
      refine AllReadyH.cons (o := { dst := some 18, op := Op.buildSlice 48 1 #[(0, Operand.const (Value.bool true))], type := 48, pos := "ref.go:218", after := #[], guard := none }) rfl (fun K hK => ?_) ?_
      go_simp
      refine hK.out _ _ ?_ (fun hHeld => ?_)
      · (try dsimp only) <;> (with_reducible first | exact SK.out _ BX.out | exact SK.out _ DB.out | exact SK.out _ E1.out | exact SK.out _ E2.out | exact SK.out _ E3.out | exact SK.out _ E4.out | exact SK.out _ E5.out | exact SK.out _ BA1.out | exact SK.out _ BB1.out | exact SK.out _ BC1.out | exact SK.out _ BA.out | exact SK.out _ BB.out | exact SK.out _ BC.out)
      clear hK K
      try simp only [Act.put, List.setIfInBounds_toArray, List.set_cons_zero, List.set_cons_succ]
      refine wpAnyH_ready (rs := [5]) (by kernel_rfl) (by simp) ?_
      refine AllReadyH.cons (o := { dst := some 19, op := Op.call { callee := Callee.builtin Builtin.append, args := #[Operand.tmp 17, Operand.tmp 18], argTypes := #[48, 48] }, type := 48, pos := "ref.go:218", after := #[{ on := 3, ground := Ground.data }, { on := 4, ground := Ground.data }, { on := 3, ground := Ground.chain }], guard := none }) rfl (fun K hK => ?_) ?_
      (first | ((with_reducible first | refine step_run4 rA1.out ?_ ?_ ?_ | refine step_run4 rB1.out ?_ ?_ ?_ | refine step_run4 rC1.out ?_ ?_ ?_ | refine step_run4 rA2.out ?_ ?_ ?_ | refine step_run4 rB2.out ?_ ?_ ?_ | refine step_run4 rC2.out ?_ ?_ ?_); (exact rfl); (exact rfl)) | (go_at_call 80; (with_reducible first | refine IA.out.mono ?_ | refine IB.out.mono ?_ | refine IC.out.mono ?_); rintro e wX ⟨v3, rfl, hO3, hb⟩; have BX := Lib.hid (below_go (by with_reducible first | exact BA.out | exact BB.out | exact BC.out) hb); have OX := Lib.hid (OwnLL.mono (by have h := hO3; rw [HTT.out] at h; exact h) (by with_reducible first | exact BA.out.size | exact BB.out.size | exact BC.out.size) (Nat.le_refl _)); clear hO3 hb))
      refine hK.out _ _ ?_ (fun hHeld => ?_)
      · (try dsimp only) <;> (with_reducible first | exact SK.out _ BX.out | exact SK.out _ DB.out | exact SK.out _ E1.out | exact SK.out _ E2.out | exact SK.out _ E3.out | exact SK.out _ E4.out | exact SK.out _ E5.out | exact SK.out _ BA1.out | exact SK.out _ BB1.out | exact SK.out _ BC1.out | exact SK.out _ BA.out | exact SK.out _ BB.out | exact SK.out _ BC.out)
      clear hK K
      try simp only [Act.put, List.setIfInBounds_toArray, List.set_cons_zero, List.set_cons_succ]
      refine wpAnyH_ready (rs := [6]) (by kernel_rfl) (by simp) ?_
      refine AllReadyH.cons (o := { dst := some 20, op := Op.call { callee := Callee.value (Operand.func 80), args := #[Operand.tmp 14, Operand.tmp 19], argTypes := #[24, 48] }, type := 128, pos := "ref.go:218", after := #[{ on := 0, ground := Ground.data }, { on := 5, ground := Ground.data }, { on := 5, ground := Ground.chain }], guard := none }) rfl (fun K hK => ?_) ?_
      go_simp
      (first | ((with_reducible first | refine step_run4 rA1.out ?_ ?_ ?_ | refine step_run4 rB1.out ?_ ?_ ?_ | refine step_run4 rC1.out ?_ ?_ ?_ | refine step_run4 rA2.out ?_ ?_ ?_ | refine step_run4 rB2.out ?_ ?_ ?_ | refine step_run4 rC2.out ?_ ?_ ?_); (exact rfl); (exact rfl)) | (go_at_call 80; (with_reducible first | refine IA.out.mono ?_ | refine IB.out.mono ?_ | refine IC.out.mono ?_); rintro e wX ⟨v3, rfl, hO3, hb⟩; have BX := Lib.hid (below_go (by with_reducible first | exact BA.out | exact BB.out | exact BC.out) hb); have OX := Lib.hid (OwnLL.mono (by have h := hO3; rw [HTT.out] at h; exact h) (by with_reducible first | exact BA.out.size | exact BB.out.size | exact BC.out.size) (Nat.le_refl _)); clear hO3 hb))
      go_wp2_with fail
      refine hK.out _ _ ?_ (fun hHeld => ?_)
      · (try dsimp only) <;> (with_reducible first | exact SK.out _ BX.out | exact SK.out _ DB.out | exact SK.out _ E1.out | exact SK.out _ E2.out | exact SK.out _ E3.out | exact SK.out _ E4.out | exact SK.out _ E5.out | exact SK.out _ BA1.out | exact SK.out _ BB1.out | exact SK.out _ BC1.out | exact SK.out _ BA.out | exact SK.out _ BB.out | exact SK.out _ BC.out)
      clear hK K
      try simp only [Act.put, List.setIfInBounds_toArray, List.set_cons_zero, List.set_cons_succ]
      refine wpAnyH_take (i := 7) (oi := { dst := some 5, op := Op.assign (Operand.tmp 20), type := 128, pos := "ref.go:218", after := #[{ on := 6, ground := Ground.data }, { on := 6, ground := Ground.chain }, { on := 0, ground := Ground.phase }, { on := 1, ground := Ground.phase }, { on := 2, ground := Ground.phase }, { on := 3, ground := Ground.phase }, { on := 4, ground := Ground.phase }, { on := 5, ground := Ground.phase }, { on := 6, ground := Ground.phase }], guard := none }) (v := ?v_ca3_2) rfl (by kernel_rfl) (by kernel_rfl) (by kernel_rfl) (fun _ _ _ h => h) (Or.inl ⟨by rfl, ?y_ca3_2⟩) (by assumption) ?_
      case y_ca3_2 => intro w hSw; (try dsimp only at hSw); go_simp; with_reducible rfl
      try simp only [Act.put, List.setIfInBounds_toArray, List.set_cons_zero, List.set_cons_succ]
      refine wpAnyH_done (by kernel_rfl) ?_ _
      rotate_left 1
      exact AllReadyH.nil
      exact AllReadyH.nil
      exact AllReadyH.nil
      refine AllReadyH.cons (o := { dst := some 18, op := Op.buildSlice 48 1 #[(0, Operand.const (Value.bool true))], type := 48, pos := "ref.go:218", after := #[], guard := none }) rfl (fun K hK => ?_) ?_
      go_simp
      refine hK.out _ _ ?_ (fun hHeld => ?_)
      · (try dsimp only) <;> (with_reducible first | exact SK.out _ BX.out | exact SK.out _ DB.out | exact SK.out _ E1.out | exact SK.out _ E2.out | exact SK.out _ E3.out | exact SK.out _ E4.out | exact SK.out _ E5.out | exact SK.out _ BA1.out | exact SK.out _ BB1.out | exact SK.out _ BC1.out | exact SK.out _ BA.out | exact SK.out _ BB.out | exact SK.out _ BC.out)
      clear hK K
      try simp only [Act.put, List.setIfInBounds_toArray, List.set_cons_zero, List.set_cons_succ]
      refine wpAnyH_ready (rs := [3]) (by kernel_rfl) (by simp) ?_
      refine AllReadyH.cons (o := { dst := some 17, op := Op.call { callee := Callee.builtin Builtin.append, args := #[Operand.tmp 15, Operand.tmp 16], argTypes := #[48, 48] }, type := 48, pos := "ref.go:218", after := #[{ on := 1, ground := Ground.data }, { on := 2, ground := Ground.data }], guard := none }) rfl (fun K hK => ?_) ?_
      (first | ((with_reducible first | refine step_run4 rA1.out ?_ ?_ ?_ | refine step_run4 rB1.out ?_ ?_ ?_ | refine step_run4 rC1.out ?_ ?_ ?_ | refine step_run4 rA2.out ?_ ?_ ?_ | refine step_run4 rB2.out ?_ ?_ ?_ | refine step_run4 rC2.out ?_ ?_ ?_); (exact rfl); (exact rfl)) | (go_at_call 80; (with_reducible first | refine IA.out.mono ?_ | refine IB.out.mono ?_ | refine IC.out.mono ?_); rintro e wX ⟨v3, rfl, hO3, hb⟩; have BX := Lib.hid (below_go (by with_reducible first | exact BA.out | exact BB.out | exact BC.out) hb); have OX := Lib.hid (OwnLL.mono (by have h := hO3; rw [HTT.out] at h; exact h) (by with_reducible first | exact BA.out.size | exact BB.out.size | exact BC.out.size) (Nat.le_refl _)); clear hO3 hb))
      refine hK.out _ _ ?_ (fun hHeld => ?_)
      · (try dsimp only) <;> (with_reducible first | exact SK.out _ BX.out | exact SK.out _ DB.out | exact SK.out _ E1.out | exact SK.out _ E2.out | exact SK.out _ E3.out | exact SK.out _ E4.out | exact SK.out _ E5.out | exact SK.out _ BA1.out | exact SK.out _ BB1.out | exact SK.out _ BC1.out | exact SK.out _ BA.out | exact SK.out _ BB.out | exact SK.out _ BC.out)
      clear hK K
      try simp only [Act.put, List.setIfInBounds_toArray, List.set_cons_zero, List.set_cons_succ]
      refine wpAnyH_ready (rs := [5]) (by kernel_rfl) (by simp) ?_
      refine AllReadyH.cons (o := { dst := some 19, op := Op.call { callee := Callee.builtin Builtin.append, args := #[Operand.tmp 17, Operand.tmp 18], argTypes := #[48, 48] }, type := 48, pos := "ref.go:218", after := #[{ on := 3, ground := Ground.data }, { on := 4, ground := Ground.data }, { on := 3, ground := Ground.chain }], guard := none }) rfl (fun K hK => ?_) ?_
      (first | ((with_reducible first | refine step_run4 rA1.out ?_ ?_ ?_ | refine step_run4 rB1.out ?_ ?_ ?_ | refine step_run4 rC1.out ?_ ?_ ?_ | refine step_run4 rA2.out ?_ ?_ ?_ | refine step_run4 rB2.out ?_ ?_ ?_ | refine step_run4 rC2.out ?_ ?_ ?_); (exact rfl); (exact rfl)) | (go_at_call 80; (with_reducible first | refine IA.out.mono ?_ | refine IB.out.mono ?_ | refine IC.out.mono ?_); rintro e wX ⟨v3, rfl, hO3, hb⟩; have BX := Lib.hid (below_go (by with_reducible first | exact BA.out | exact BB.out | exact BC.out) hb); have OX := Lib.hid (OwnLL.mono (by have h := hO3; rw [HTT.out] at h; exact h) (by with_reducible first | exact BA.out.size | exact BB.out.size | exact BC.out.size) (Nat.le_refl _)); clear hO3 hb))
      refine hK.out _ _ ?_ (fun hHeld => ?_)
      · (try dsimp only) <;> (with_reducible first | exact SK.out _ BX.out | exact SK.out _ DB.out | exact SK.out _ E1.out | exact SK.out _ E2.out | exact SK.out _ E3.out | exact SK.out _ E4.out | exact SK.out _ E5.out | exact SK.out _ BA1.out | exact SK.out _ BB1.out | exact SK.out _ BC1.out | exact SK.out _ BA.out | exact SK.out _ BB.out | exact SK.out _ BC.out)
      clear hK K
      try simp only [Act.put, List.setIfInBounds_toArray, List.set_cons_zero, List.set_cons_succ]
      refine wpAnyH_ready (rs := [6]) (by kernel_rfl) (by simp) ?_
      refine AllReadyH.cons (o := { dst := some 20, op := Op.call { callee := Callee.value (Operand.func 80), args := #[Operand.tmp 14, Operand.tmp 19], argTypes := #[24, 48] }, type := 128, pos := "ref.go:218", after := #[{ on := 0, ground := Ground.data }, { on := 5, ground := Ground.data }, { on := 5, ground := Ground.chain }], guard := none }) rfl (fun K hK => ?_) ?_
      go_simp
      (first | ((with_reducible first | refine step_run4 rA1.out ?_ ?_ ?_ | refine step_run4 rB1.out ?_ ?_ ?_ | refine step_run4 rC1.out ?_ ?_ ?_ | refine step_run4 rA2.out ?_ ?_ ?_ | refine step_run4 rB2.out ?_ ?_ ?_ | refine step_run4 rC2.out ?_ ?_ ?_); (exact rfl); (exact rfl)) | (go_at_call 80; (with_reducible first | refine IA.out.mono ?_ | refine IB.out.mono ?_ | refine IC.out.mono ?_); rintro e wX ⟨v3, rfl, hO3, hb⟩; have BX := Lib.hid (below_go (by with_reducible first | exact BA.out | exact BB.out | exact BC.out) hb); have OX := Lib.hid (OwnLL.mono (by have h := hO3; rw [HTT.out] at h; exact h) (by with_reducible first | exact BA.out.size | exact BB.out.size | exact BC.out.size) (Nat.le_refl _)); clear hO3 hb))
      go_wp2_with fail
      refine hK.out _ _ ?_ (fun hHeld => ?_)
      · (try dsimp only) <;> (with_reducible first | exact SK.out _ BX.out | exact SK.out _ DB.out | exact SK.out _ E1.out | exact SK.out _ E2.out | exact SK.out _ E3.out | exact SK.out _ E4.out | exact SK.out _ E5.out | exact SK.out _ BA1.out | exact SK.out _ BB1.out | exact SK.out _ BC1.out | exact SK.out _ BA.out | exact SK.out _ BB.out | exact SK.out _ BC.out)
      clear hK K
      try simp only [Act.put, List.setIfInBounds_toArray, List.set_cons_zero, List.set_cons_succ]
      refine wpAnyH_take (i := 7) (oi := { dst := some 5, op := Op.assign (Operand.tmp 20), type := 128, pos := "ref.go:218", after := #[{ on := 6, ground := Ground.data }, { on := 6, ground := Ground.chain }, { on := 0, ground := Ground.phase }, { on := 1, ground := Ground.phase }, { on := 2, ground := Ground.phase }, { on := 3, ground := Ground.phase }, { on := 4, ground := Ground.phase }, { on := 5, ground := Ground.phase }, { on := 6, ground := Ground.phase }], guard := none }) (v := ?v_ca3_3) rfl (by kernel_rfl) (by kernel_rfl) (by kernel_rfl) (fun _ _ _ h => h) (Or.inl ⟨by rfl, ?y_ca3_3⟩) (by assumption) ?_
      case y_ca3_3 => intro w hSw; (try dsimp only at hSw); go_simp; with_reducible rfl
      try simp only [Act.put, List.setIfInBounds_toArray, List.set_cons_zero, List.set_cons_succ]
      refine wpAnyH_done (by kernel_rfl) ?_ _
      rotate_left 1
      exact AllReadyH.nil
      exact AllReadyH.nil
      exact AllReadyH.nil
      exact AllReadyH.nil
      refine AllReadyH.cons (o := { dst := some 18, op := Op.buildSlice 48 1 #[(0, Operand.const (Value.bool true))], type := 48, pos := "ref.go:218", after := #[], guard := none }) rfl (fun K hK => ?_) ?_
      go_simp
      refine hK.out _ _ ?_ (fun hHeld => ?_)
      · (try dsimp only) <;> (with_reducible first | exact SK.out _ BX.out | exact SK.out _ DB.out | exact SK.out _ E1.out | exact SK.out _ E2.out | exact SK.out _ E3.out | exact SK.out _ E4.out | exact SK.out _ E5.out | exact SK.out _ BA1.out | exact SK.out _ BB1.out | exact SK.out _ BC1.out | exact SK.out _ BA.out | exact SK.out _ BB.out | exact SK.out _ BC.out)
      clear hK K
      try simp only [Act.put, List.setIfInBounds_toArray, List.set_cons_zero, List.set_cons_succ]
      refine wpAnyH_ready (rs := [1]) (by kernel_rfl) (by simp) ?_
      refine AllReadyH.cons (o := { dst := some 15, op := Op.buildSlice 48 0 #[], type := 48, pos := "ref.go:218", after := #[], guard := none }) rfl (fun K hK => ?_) ?_
      go_simp
      refine hK.out _ _ ?_ (fun hHeld => ?_)
      · (try dsimp only) <;> (with_reducible first | exact SK.out _ BX.out | exact SK.out _ DB.out | exact SK.out _ E1.out | exact SK.out _ E2.out | exact SK.out _ E3.out | exact SK.out _ E4.out | exact SK.out _ E5.out | exact SK.out _ BA1.out | exact SK.out _ BB1.out | exact SK.out _ BC1.out | exact SK.out _ BA.out | exact SK.out _ BB.out | exact SK.out _ BC.out)
      clear hK K
      try simp only [Act.put, List.setIfInBounds_toArray, List.set_cons_zero, List.set_cons_succ]
      refine wpAnyH_ready (rs := [3]) (by kernel_rfl) (by simp) ?_
      refine AllReadyH.cons (o := { dst := some 17, op := Op.call { callee := Callee.builtin Builtin.append, args := #[Operand.tmp 15, Operand.tmp 16], argTypes := #[48, 48] }, type := 48, pos := "ref.go:218", after := #[{ on := 1, ground := Ground.data }, { on := 2, ground := Ground.data }], guard := none }) rfl (fun K hK => ?_) ?_
      (first | ((with_reducible first | refine step_run4 rA1.out ?_ ?_ ?_ | refine step_run4 rB1.out ?_ ?_ ?_ | refine step_run4 rC1.out ?_ ?_ ?_ | refine step_run4 rA2.out ?_ ?_ ?_ | refine step_run4 rB2.out ?_ ?_ ?_ | refine step_run4 rC2.out ?_ ?_ ?_); (exact rfl); (exact rfl)) | (go_at_call 80; (with_reducible first | refine IA.out.mono ?_ | refine IB.out.mono ?_ | refine IC.out.mono ?_); rintro e wX ⟨v3, rfl, hO3, hb⟩; have BX := Lib.hid (below_go (by with_reducible first | exact BA.out | exact BB.out | exact BC.out) hb); have OX := Lib.hid (OwnLL.mono (by have h := hO3; rw [HTT.out] at h; exact h) (by with_reducible first | exact BA.out.size | exact BB.out.size | exact BC.out.size) (Nat.le_refl _)); clear hO3 hb))
      refine hK.out _ _ ?_ (fun hHeld => ?_)
      · (try dsimp only) <;> (with_reducible first | exact SK.out _ BX.out | exact SK.out _ DB.out | exact SK.out _ E1.out | exact SK.out _ E2.out | exact SK.out _ E3.out | exact SK.out _ E4.out | exact SK.out _ E5.out | exact SK.out _ BA1.out | exact SK.out _ BB1.out | exact SK.out _ BC1.out | exact SK.out _ BA.out | exact SK.out _ BB.out | exact SK.out _ BC.out)
      clear hK K
      try simp only [Act.put, List.setIfInBounds_toArray, List.set_cons_zero, List.set_cons_succ]
      refine wpAnyH_ready (rs := [5]) (by kernel_rfl) (by simp) ?_
      refine AllReadyH.cons (o := { dst := some 19, op := Op.call { callee := Callee.builtin Builtin.append, args := #[Operand.tmp 17, Operand.tmp 18], argTypes := #[48, 48] }, type := 48, pos := "ref.go:218", after := #[{ on := 3, ground := Ground.data }, { on := 4, ground := Ground.data }, { on := 3, ground := Ground.chain }], guard := none }) rfl (fun K hK => ?_) ?_
      (first | ((with_reducible first | refine step_run4 rA1.out ?_ ?_ ?_ | refine step_run4 rB1.out ?_ ?_ ?_ | refine step_run4 rC1.out ?_ ?_ ?_ | refine step_run4 rA2.out ?_ ?_ ?_ | refine step_run4 rB2.out ?_ ?_ ?_ | refine step_run4 rC2.out ?_ ?_ ?_); (exact rfl); (exact rfl)) | (go_at_call 80; (with_reducible first | refine IA.out.mono ?_ | refine IB.out.mono ?_ | refine IC.out.mono ?_); rintro e wX ⟨v3, rfl, hO3, hb⟩; have BX := Lib.hid (below_go (by with_reducible first | exact BA.out | exact BB.out | exact BC.out) hb); have OX := Lib.hid (OwnLL.mono (by have h := hO3; rw [HTT.out] at h; exact h) (by with_reducible first | exact BA.out.size | exact BB.out.size | exact BC.out.size) (Nat.le_refl _)); clear hO3 hb))
      refine hK.out _ _ ?_ (fun hHeld => ?_)
      · (try dsimp only) <;> (with_reducible first | exact SK.out _ BX.out | exact SK.out _ DB.out | exact SK.out _ E1.out | exact SK.out _ E2.out | exact SK.out _ E3.out | exact SK.out _ E4.out | exact SK.out _ E5.out | exact SK.out _ BA1.out | exact SK.out _ BB1.out | exact SK.out _ BC1.out | exact SK.out _ BA.out | exact SK.out _ BB.out | exact SK.out _ BC.out)
      clear hK K
      try simp only [Act.put, List.setIfInBounds_toArray, List.set_cons_zero, List.set_cons_succ]
      refine wpAnyH_ready (rs := [6]) (by kernel_rfl) (by simp) ?_
      refine AllReadyH.cons (o := { dst := some 20, op := Op.call { callee := Callee.value (Operand.func 80), args := #[Operand.tmp 14, Operand.tmp 19], argTypes := #[24, 48] }, type := 128, pos := "ref.go:218", after := #[{ on := 0, ground := Ground.data }, { on := 5, ground := Ground.data }, { on := 5, ground := Ground.chain }], guard := none }) rfl (fun K hK => ?_) ?_
      go_simp
      (first | ((with_reducible first | refine step_run4 rA1.out ?_ ?_ ?_ | refine step_run4 rB1.out ?_ ?_ ?_ | refine step_run4 rC1.out ?_ ?_ ?_ | refine step_run4 rA2.out ?_ ?_ ?_ | refine step_run4 rB2.out ?_ ?_ ?_ | refine step_run4 rC2.out ?_ ?_ ?_); (exact rfl); (exact rfl)) | (go_at_call 80; (with_reducible first | refine IA.out.mono ?_ | refine IB.out.mono ?_ | refine IC.out.mono ?_); rintro e wX ⟨v3, rfl, hO3, hb⟩; have BX := Lib.hid (below_go (by with_reducible first | exact BA.out | exact BB.out | exact BC.out) hb); have OX := Lib.hid (OwnLL.mono (by have h := hO3; rw [HTT.out] at h; exact h) (by with_reducible first | exact BA.out.size | exact BB.out.size | exact BC.out.size) (Nat.le_refl _)); clear hO3 hb))
      go_wp2_with fail
      refine hK.out _ _ ?_ (fun hHeld => ?_)
      · (try dsimp only) <;> (with_reducible first | exact SK.out _ BX.out | exact SK.out _ DB.out | exact SK.out _ E1.out | exact SK.out _ E2.out | exact SK.out _ E3.out | exact SK.out _ E4.out | exact SK.out _ E5.out | exact SK.out _ BA1.out | exact SK.out _ BB1.out | exact SK.out _ BC1.out | exact SK.out _ BA.out | exact SK.out _ BB.out | exact SK.out _ BC.out)
      clear hK K
      try simp only [Act.put, List.setIfInBounds_toArray, List.set_cons_zero, List.set_cons_succ]
      refine wpAnyH_take (i := 7) (oi := { dst := some 5, op := Op.assign (Operand.tmp 20), type := 128, pos := "ref.go:218", after := #[{ on := 6, ground := Ground.data }, { on := 6, ground := Ground.chain }, { on := 0, ground := Ground.phase }, { on := 1, ground := Ground.phase }, { on := 2, ground := Ground.phase }, { on := 3, ground := Ground.phase }, { on := 4, ground := Ground.phase }, { on := 5, ground := Ground.phase }, { on := 6, ground := Ground.phase }], guard := none }) (v := ?v_ca3_4) rfl (by kernel_rfl) (by kernel_rfl) (by kernel_rfl) (fun _ _ _ h => h) (Or.inl ⟨by rfl, ?y_ca3_4⟩) (by assumption) ?_
      case y_ca3_4 => intro w hSw; (try dsimp only at hSw); go_simp; with_reducible rfl
      try simp only [Act.put, List.setIfInBounds_toArray, List.set_cons_zero, List.set_cons_succ]
      refine wpAnyH_done (by kernel_rfl) ?_ _
      rotate_left 1
      exact AllReadyH.nil
      exact AllReadyH.nil
      exact AllReadyH.nil
      exact AllReadyH.nil
      exact AllReadyH.nil
      all_goals
        go_wp2_with fail
        go_meet
        case rel => exact ⟨OX, BX⟩
    case rest =>
      obtain ⟨hO, hBc⟩ := hcut
      have HO1 := Lib.hid hO.out
      have HB1 := Lib.hid hBc.out
      have HBC := Lib.hid (below_go S0.out.bl hBc.out)
      obtain ⟨r0, r1, r2, r3, r4⟩ := SK.out _ hBc.out
      have k3 := cell_lo HBC.out HK3.out
      have hw1 := S0.out.bl.size
      have HW1 := Lib.hid hw1
      clear DB rA1 rA2 rB1 rB2 rC1 rC2 IA IB IC BA BB BC BA1 BB1 BC1 E1 E2 E3 E4 E5 SD hO hBc hw1
      cases sr
      · go_upto_region 5 with fail
        clear r0 r1 r2 r3 r4 k3
        have DB := Lib.hid (show Below wc.heap.size wc wc.drew from Below.drew (Below.refl _ _))
        obtain ⟨⟨vA1, wA1, gA, cA, wA, rA1, rA2, RA, BA, BA1⟩, ⟨vB1, wB1, gB, cB, wB, rB1, rB2, RB, BB, BB1⟩, ⟨vC1, wC1, gC, cC, wC, rC1, rC2, RC, BC, BC1⟩⟩ := HCO.out false wc.drew (below_go HBC.out DB.out)
        rw [Hhp.out] at rA1 rA2 rB1 rB2 rC1 rC2
        have BA := Lib.hid (below_go DB.out BA); have BB := Lib.hid (below_go DB.out BB); have BC := Lib.hid (below_go DB.out BC); have BA1 := Lib.hid (below_go DB.out BA1); have BB1 := Lib.hid (below_go DB.out BB1); have BC1 := Lib.hid (below_go DB.out BC1)
        have last : ∀ {g c : Nat} {W : World}, RowV wc.heap.size W (some ⟨g, 0, none⟩) (p.map Value.bool ++ [.bool false]) → ∀ g' o', some (⟨g, 0, none⟩ : Addr) = some ⟨g', o', none⟩ → g' < W.heap.size := fun h g' o' e => by
          cases e
          obtain ⟨g', o', e', hc, _⟩ := h (p.map Value.bool).length (.bool false) (by rw [List.getElem?_append_right (Nat.le_refl _)]; simp)
          cases e'
          exact cell_lt hc
        have IA := Lib.hid (IH.out false (some ⟨gA, 0, none⟩) cA wc.heap.size wA (below_go HBC.out BA.out) RA (last (c := 0) RA) (by simp) BA.out.size)
        have IB := Lib.hid (IH.out false (some ⟨gB, 0, none⟩) cB wc.heap.size wB (below_go HBC.out BB.out) RB (last (c := 0) RB) (by simp) BB.out.size)
        have IC := Lib.hid (IH.out false (some ⟨gC, 0, none⟩) cC wc.heap.size wC (below_go HBC.out BC.out) RC (last (c := 0) RC) (by simp) BC.out.size)
        have rA1 := Lib.hid (show (Builtin.append_ #[48, 48] 48 #[.slice (some ⟨wc.heap.size, 0, none⟩) 0 0, .slice a1 n c1]).run Tryd.prog (wc.alloc (.cells #[] 4)).drew = .ok vA1 wA1 from rA1)
        have rB1 := Lib.hid (show (Builtin.append_ #[48, 48] 48 #[.slice (some ⟨wc.heap.size, 0, none⟩) 0 0, .slice a1 n c1]).run Tryd.prog ((wc.alloc (.cells #[] 4)).alloc (.cells #[.bool false] 4)).drew = .ok vB1 wB1 from rB1)
        have rC1 := Lib.hid (show (Builtin.append_ #[48, 48] 48 #[.slice (some ⟨wc.heap.size + 1, 0, none⟩) 0 0, .slice a1 n c1]).run Tryd.prog ((wc.alloc (.cells #[.bool false] 4)).alloc (.cells #[] 4)).drew = .ok vC1 wC1 from rC1)
        have rB2 := Lib.hid (show (Builtin.append_ #[48, 48] 48 #[vB1, .slice (some ⟨wc.heap.size + 1, 0, none⟩) 1 1]).run Tryd.prog wB1 = .ok (.slice (some ⟨gB, 0, none⟩) (n + 1) cB) wB from rB2)
        have rC2 := Lib.hid (show (Builtin.append_ #[48, 48] 48 #[vC1, .slice (some ⟨wc.heap.size, 0, none⟩) 1 1]).run Tryd.prog wC1 = .ok (.slice (some ⟨gC, 0, none⟩) (n + 1) cC) wC from rC2)
        have rA2 := Lib.hid rA2
        have E1 := Lib.hid (Below.drew (below_al wc (.cells #[] 4))); have E2 := Lib.hid (Below.drew (below_al wc (.cells #[.bool false] 4))); have E3 := Lib.hid (Below.drew (below_al2 (below_al wc (.cells #[] 4)) (.cells #[.bool false] 4))); have E4 := Lib.hid (Below.drew (below_al2 (below_al wc (.cells #[.bool false] 4)) (.cells #[] 4))); have E5 := Lib.hid (below_al2 BA1.out (.cells #[.bool false] 4))
        clear last RA RB RC
        have SK2 := Lib.hid (fun (W : World) (hb : Below wc.heap.size wc W) => SK.out W (below_go HB1.out hb))
        have HLN := Lib.hid (show LT.length + LF.length ≤ 1000000 by have h1 := (HLB.out true).1; have h2 := (HLB.out false).1; rw [HTT.out] at h1; rw [HFF.out] at h2; omega)
        have HNE := Lib.hid (show LF ≠ [] by have h2 := (HLB.out false).2; rw [HFF.out] at h2; exact h2)
        go_wp2_with fail
        refine wp_region_held_drew (S := (fun W => W.cell? ⟨w.heap.size, 0, none⟩ = some (.int .i64 r.rows) ∧ W.cell? ⟨w.heap.size, 1, none⟩ = some (.int .i64 r.mid) ∧ W.cell? ⟨w.heap.size, 2, none⟩ = some (.int .i64 r.gap) ∧ W.cell? ⟨w.heap.size, 3, none⟩ = some (.int .i64 r.reach) ∧ W.cell? ⟨w.heap.size, 4, none⟩ = some (.slice (some ⟨g, o, none⟩) r.ls.length r.lc))) (by kernel_rfl) ?_ (fun hHeld => ?_)
        · (try dsimp only) <;> (with_reducible first | exact SK.out _ B4.out | exact SK2.out _ BX.out | exact SK2.out _ DB.out | exact SK2.out _ E1.out | exact SK2.out _ E2.out | exact SK2.out _ E3.out | exact SK2.out _ E4.out | exact SK2.out _ E5.out | exact SK2.out _ BA1.out | exact SK2.out _ BB1.out | exact SK2.out _ BC1.out | exact SK2.out _ BA.out | exact SK2.out _ BB.out | exact SK2.out _ BC.out)
        refine wpAnyH_take (i := 0) (oi := { dst := some 29, op := Op.move (Operand.tmp 5), type := 128, pos := "ref.go:220", after := #[], guard := none }) (v := ?v_ca5_5) rfl (by kernel_rfl) (by kernel_rfl) (by kernel_rfl) (fun _ _ _ h => h) (Or.inl ⟨by rfl, ?y_ca5_5⟩) (by assumption) ?_
        case y_ca5_5 => intro w hSw; (try dsimp only at hSw); go_simp; with_reducible rfl
        try simp only [Act.put, List.setIfInBounds_toArray, List.set_cons_zero, List.set_cons_succ]
        refine wpAnyH_take (i := 1) (oi := { dst := some 30, op := Op.load 24 (Operand.tmp 2), type := 24, pos := "ref.go:220", after := #[], guard := none }) (v := ?v_ca5_6) rfl (by kernel_rfl) (by kernel_rfl) (by kernel_rfl) (fun _ _ _ h => h) (Or.inl ⟨by rfl, ?y_ca5_6⟩) (by assumption) ?_
        case y_ca5_6 => intro w hSw; (try dsimp only at hSw); go_simp; with_reducible rfl
        try simp only [Act.put, List.setIfInBounds_toArray, List.set_cons_zero, List.set_cons_succ]
        refine wpAnyH_take (i := 3) (oi := { dst := some 32, op := Op.move (Operand.tmp 1), type := 48, pos := "ref.go:220", after := #[], guard := none }) (v := ?v_ca5_7) rfl (by kernel_rfl) (by kernel_rfl) (by kernel_rfl) (fun _ _ _ h => h) (Or.inl ⟨by rfl, ?y_ca5_7⟩) (by assumption) ?_
        case y_ca5_7 => intro w hSw; (try dsimp only at hSw); go_simp; with_reducible rfl
        try simp only [Act.put, List.setIfInBounds_toArray, List.set_cons_zero, List.set_cons_succ]
        refine wpAnyH_ready (rs := [2, 5]) (by kernel_rfl) (by simp) ?_
        refine AllReadyH.cons (o := { dst := some 31, op := Op.buildSlice 48 0 #[], type := 48, pos := "ref.go:220", after := #[], guard := none }) rfl (fun K hK => ?_) ?_
        go_simp
        refine hK.out _ _ ?_ (fun hHeld => ?_)
        · (try dsimp only) <;> (with_reducible first | exact SK.out _ B4.out | exact SK2.out _ BX.out | exact SK2.out _ DB.out | exact SK2.out _ E1.out | exact SK2.out _ E2.out | exact SK2.out _ E3.out | exact SK2.out _ E4.out | exact SK2.out _ E5.out | exact SK2.out _ BA1.out | exact SK2.out _ BB1.out | exact SK2.out _ BC1.out | exact SK2.out _ BA.out | exact SK2.out _ BB.out | exact SK2.out _ BC.out)
        clear hK K
        try simp only [Act.put, List.setIfInBounds_toArray, List.set_cons_zero, List.set_cons_succ]
        refine wpAnyH_ready (rs := [4, 5]) (by kernel_rfl) (by simp) ?_
        refine AllReadyH.cons (o := { dst := some 33, op := Op.call { callee := Callee.builtin Builtin.append, args := #[Operand.tmp 31, Operand.tmp 32], argTypes := #[48, 48] }, type := 48, pos := "ref.go:220", after := #[{ on := 2, ground := Ground.data }, { on := 3, ground := Ground.data }], guard := none }) rfl (fun K hK => ?_) ?_
        (first | ((with_reducible first | refine step_run4 rA1.out ?_ ?_ ?_ | refine step_run4 rB1.out ?_ ?_ ?_ | refine step_run4 rC1.out ?_ ?_ ?_ | refine step_run4 rA2.out ?_ ?_ ?_ | refine step_run4 rB2.out ?_ ?_ ?_ | refine step_run4 rC2.out ?_ ?_ ?_ | refine step_run4 R4.out ?_ ?_ ?_); (exact rfl); (exact rfl)) | (go_at_call 80; (with_reducible first | refine IA.out.mono ?_ | refine IB.out.mono ?_ | refine IC.out.mono ?_); rintro e wX ⟨v3, rfl, hO3, hb⟩; have BX := Lib.hid (below_go (by with_reducible first | exact BA.out | exact BB.out | exact BC.out) hb); obtain ⟨v4, w4, hr4, hO4, hB4⟩ := app_rows (w := w1) 128 48 i48 Tryd.underlying128 hi48 hz0 hz1 hz2 HO1.out BX.out (by have h := hO3; rw [HFF.out] at h; exact h) HNE.out HB1.out.size (Nat.le_trans HB1.out.size BX.out.size) HLN.out (below_go HB1.out BX.out) (Nat.le_refl _); have R4 := Lib.hid hr4; have O4 := Lib.hid hO4; have B4 := Lib.hid hB4; clear hO3 hb hr4 hO4 hB4))
        refine hK.out _ _ ?_ (fun hHeld => ?_)
        · (try dsimp only) <;> (with_reducible first | exact SK.out _ B4.out | exact SK2.out _ BX.out | exact SK2.out _ DB.out | exact SK2.out _ E1.out | exact SK2.out _ E2.out | exact SK2.out _ E3.out | exact SK2.out _ E4.out | exact SK2.out _ E5.out | exact SK2.out _ BA1.out | exact SK2.out _ BB1.out | exact SK2.out _ BC1.out | exact SK2.out _ BA.out | exact SK2.out _ BB.out | exact SK2.out _ BC.out)
        clear hK K
        try simp only [Act.put, List.setIfInBounds_toArray, List.set_cons_zero, List.set_cons_succ]
        refine wpAnyH_ready (rs := [5]) (by kernel_rfl) (by simp) ?_
        refine AllReadyH.cons (o := { dst := some 34, op := Op.buildSlice 48 1 #[(0, Operand.const (Value.bool false))], type := 48, pos := "ref.go:220", after := #[], guard := none }) rfl (fun K hK => ?_) ?_
        go_simp
        refine hK.out _ _ ?_ (fun hHeld => ?_)
        · (try dsimp only) <;> (with_reducible first | exact SK.out _ B4.out | exact SK2.out _ BX.out | exact SK2.out _ DB.out | exact SK2.out _ E1.out | exact SK2.out _ E2.out | exact SK2.out _ E3.out | exact SK2.out _ E4.out | exact SK2.out _ E5.out | exact SK2.out _ BA1.out | exact SK2.out _ BB1.out | exact SK2.out _ BC1.out | exact SK2.out _ BA.out | exact SK2.out _ BB.out | exact SK2.out _ BC.out)
        clear hK K
        try simp only [Act.put, List.setIfInBounds_toArray, List.set_cons_zero, List.set_cons_succ]
        refine wpAnyH_ready (rs := [6]) (by kernel_rfl) (by simp) ?_
        refine AllReadyH.cons (o := { dst := some 35, op := Op.call { callee := Callee.builtin Builtin.append, args := #[Operand.tmp 33, Operand.tmp 34], argTypes := #[48, 48] }, type := 48, pos := "ref.go:220", after := #[{ on := 4, ground := Ground.data }, { on := 5, ground := Ground.data }, { on := 4, ground := Ground.chain }], guard := none }) rfl (fun K hK => ?_) ?_
        (first | ((with_reducible first | refine step_run4 rA1.out ?_ ?_ ?_ | refine step_run4 rB1.out ?_ ?_ ?_ | refine step_run4 rC1.out ?_ ?_ ?_ | refine step_run4 rA2.out ?_ ?_ ?_ | refine step_run4 rB2.out ?_ ?_ ?_ | refine step_run4 rC2.out ?_ ?_ ?_ | refine step_run4 R4.out ?_ ?_ ?_); (exact rfl); (exact rfl)) | (go_at_call 80; (with_reducible first | refine IA.out.mono ?_ | refine IB.out.mono ?_ | refine IC.out.mono ?_); rintro e wX ⟨v3, rfl, hO3, hb⟩; have BX := Lib.hid (below_go (by with_reducible first | exact BA.out | exact BB.out | exact BC.out) hb); obtain ⟨v4, w4, hr4, hO4, hB4⟩ := app_rows (w := w1) 128 48 i48 Tryd.underlying128 hi48 hz0 hz1 hz2 HO1.out BX.out (by have h := hO3; rw [HFF.out] at h; exact h) HNE.out HB1.out.size (Nat.le_trans HB1.out.size BX.out.size) HLN.out (below_go HB1.out BX.out) (Nat.le_refl _); have R4 := Lib.hid hr4; have O4 := Lib.hid hO4; have B4 := Lib.hid hB4; clear hO3 hb hr4 hO4 hB4))
        refine hK.out _ _ ?_ (fun hHeld => ?_)
        · (try dsimp only) <;> (with_reducible first | exact SK.out _ B4.out | exact SK2.out _ BX.out | exact SK2.out _ DB.out | exact SK2.out _ E1.out | exact SK2.out _ E2.out | exact SK2.out _ E3.out | exact SK2.out _ E4.out | exact SK2.out _ E5.out | exact SK2.out _ BA1.out | exact SK2.out _ BB1.out | exact SK2.out _ BC1.out | exact SK2.out _ BA.out | exact SK2.out _ BB.out | exact SK2.out _ BC.out)
        clear hK K
        try simp only [Act.put, List.setIfInBounds_toArray, List.set_cons_zero, List.set_cons_succ]
        refine wpAnyH_ready (rs := [7]) (by kernel_rfl) (by simp) ?_
        refine AllReadyH.cons (o := { dst := some 36, op := Op.call { callee := Callee.value (Operand.func 80), args := #[Operand.tmp 30, Operand.tmp 35], argTypes := #[24, 48] }, type := 128, pos := "ref.go:220", after := #[{ on := 1, ground := Ground.data }, { on := 6, ground := Ground.data }, { on := 6, ground := Ground.chain }], guard := none }) rfl (fun K hK => ?_) ?_
        go_simp
        (first | ((with_reducible first | refine step_run4 rA1.out ?_ ?_ ?_ | refine step_run4 rB1.out ?_ ?_ ?_ | refine step_run4 rC1.out ?_ ?_ ?_ | refine step_run4 rA2.out ?_ ?_ ?_ | refine step_run4 rB2.out ?_ ?_ ?_ | refine step_run4 rC2.out ?_ ?_ ?_ | refine step_run4 R4.out ?_ ?_ ?_); (exact rfl); (exact rfl)) | (go_at_call 80; (with_reducible first | refine IA.out.mono ?_ | refine IB.out.mono ?_ | refine IC.out.mono ?_); rintro e wX ⟨v3, rfl, hO3, hb⟩; have BX := Lib.hid (below_go (by with_reducible first | exact BA.out | exact BB.out | exact BC.out) hb); obtain ⟨v4, w4, hr4, hO4, hB4⟩ := app_rows (w := w1) 128 48 i48 Tryd.underlying128 hi48 hz0 hz1 hz2 HO1.out BX.out (by have h := hO3; rw [HFF.out] at h; exact h) HNE.out HB1.out.size (Nat.le_trans HB1.out.size BX.out.size) HLN.out (below_go HB1.out BX.out) (Nat.le_refl _); have R4 := Lib.hid hr4; have O4 := Lib.hid hO4; have B4 := Lib.hid hB4; clear hO3 hb hr4 hO4 hB4))
        go_wp2_with fail
        refine hK.out _ _ ?_ (fun hHeld => ?_)
        · (try dsimp only) <;> (with_reducible first | exact SK.out _ B4.out | exact SK2.out _ BX.out | exact SK2.out _ DB.out | exact SK2.out _ E1.out | exact SK2.out _ E2.out | exact SK2.out _ E3.out | exact SK2.out _ E4.out | exact SK2.out _ E5.out | exact SK2.out _ BA1.out | exact SK2.out _ BB1.out | exact SK2.out _ BC1.out | exact SK2.out _ BA.out | exact SK2.out _ BB.out | exact SK2.out _ BC.out)
        clear hK K
        try simp only [Act.put, List.setIfInBounds_toArray, List.set_cons_zero, List.set_cons_succ]
        refine wpAnyH_ready (rs := [8]) (by kernel_rfl) (by simp) ?_
        refine AllReadyH.cons (o := { dst := some 37, op := Op.call { callee := Callee.builtin Builtin.append, args := #[Operand.tmp 29, Operand.tmp 36], argTypes := #[128, 128] }, type := 128, pos := "ref.go:220", after := #[{ on := 0, ground := Ground.data }, { on := 7, ground := Ground.data }, { on := 7, ground := Ground.chain }], guard := none }) rfl (fun K hK => ?_) ?_
        (first | ((with_reducible first | refine step_run4 rA1.out ?_ ?_ ?_ | refine step_run4 rB1.out ?_ ?_ ?_ | refine step_run4 rC1.out ?_ ?_ ?_ | refine step_run4 rA2.out ?_ ?_ ?_ | refine step_run4 rB2.out ?_ ?_ ?_ | refine step_run4 rC2.out ?_ ?_ ?_ | refine step_run4 R4.out ?_ ?_ ?_); (exact rfl); (exact rfl)) | (go_at_call 80; (with_reducible first | refine IA.out.mono ?_ | refine IB.out.mono ?_ | refine IC.out.mono ?_); rintro e wX ⟨v3, rfl, hO3, hb⟩; have BX := Lib.hid (below_go (by with_reducible first | exact BA.out | exact BB.out | exact BC.out) hb); obtain ⟨v4, w4, hr4, hO4, hB4⟩ := app_rows (w := w1) 128 48 i48 Tryd.underlying128 hi48 hz0 hz1 hz2 HO1.out BX.out (by have h := hO3; rw [HFF.out] at h; exact h) HNE.out HB1.out.size (Nat.le_trans HB1.out.size BX.out.size) HLN.out (below_go HB1.out BX.out) (Nat.le_refl _); have R4 := Lib.hid hr4; have O4 := Lib.hid hO4; have B4 := Lib.hid hB4; clear hO3 hb hr4 hO4 hB4))
        refine hK.out _ _ ?_ (fun hHeld => ?_)
        · (try dsimp only) <;> (with_reducible first | exact SK.out _ B4.out | exact SK2.out _ BX.out | exact SK2.out _ DB.out | exact SK2.out _ E1.out | exact SK2.out _ E2.out | exact SK2.out _ E3.out | exact SK2.out _ E4.out | exact SK2.out _ E5.out | exact SK2.out _ BA1.out | exact SK2.out _ BB1.out | exact SK2.out _ BC1.out | exact SK2.out _ BA.out | exact SK2.out _ BB.out | exact SK2.out _ BC.out)
        clear hK K
        try simp only [Act.put, List.setIfInBounds_toArray, List.set_cons_zero, List.set_cons_succ]
        refine wpAnyH_take (i := 9) (oi := { dst := some 5, op := Op.assign (Operand.tmp 37), type := 128, pos := "ref.go:220", after := #[{ on := 8, ground := Ground.data }, { on := 8, ground := Ground.chain }, { on := 0, ground := Ground.phase }, { on := 1, ground := Ground.phase }, { on := 2, ground := Ground.phase }, { on := 3, ground := Ground.phase }, { on := 4, ground := Ground.phase }, { on := 5, ground := Ground.phase }, { on := 6, ground := Ground.phase }, { on := 7, ground := Ground.phase }, { on := 8, ground := Ground.phase }], guard := none }) (v := ?v_ca5_8) rfl (by kernel_rfl) (by kernel_rfl) (by kernel_rfl) (fun _ _ _ h => h) (Or.inl ⟨by rfl, ?y_ca5_8⟩) (by assumption) ?_
        case y_ca5_8 => intro w hSw; (try dsimp only at hSw); go_simp; with_reducible rfl
        try simp only [Act.put, List.setIfInBounds_toArray, List.set_cons_zero, List.set_cons_succ]
        refine wpAnyH_done (by kernel_rfl) ?_ _
        rotate_left 1
        exact AllReadyH.nil
        exact AllReadyH.nil
        exact AllReadyH.nil
        exact AllReadyH.nil
        refine AllReadyH.cons (o := { dst := some 34, op := Op.buildSlice 48 1 #[(0, Operand.const (Value.bool false))], type := 48, pos := "ref.go:220", after := #[], guard := none }) rfl (fun K hK => ?_) ?_
        go_simp
        refine hK.out _ _ ?_ (fun hHeld => ?_)
        · (try dsimp only) <;> (with_reducible first | exact SK.out _ B4.out | exact SK2.out _ BX.out | exact SK2.out _ DB.out | exact SK2.out _ E1.out | exact SK2.out _ E2.out | exact SK2.out _ E3.out | exact SK2.out _ E4.out | exact SK2.out _ E5.out | exact SK2.out _ BA1.out | exact SK2.out _ BB1.out | exact SK2.out _ BC1.out | exact SK2.out _ BA.out | exact SK2.out _ BB.out | exact SK2.out _ BC.out)
        clear hK K
        try simp only [Act.put, List.setIfInBounds_toArray, List.set_cons_zero, List.set_cons_succ]
        refine wpAnyH_ready (rs := [4]) (by kernel_rfl) (by simp) ?_
        refine AllReadyH.cons (o := { dst := some 33, op := Op.call { callee := Callee.builtin Builtin.append, args := #[Operand.tmp 31, Operand.tmp 32], argTypes := #[48, 48] }, type := 48, pos := "ref.go:220", after := #[{ on := 2, ground := Ground.data }, { on := 3, ground := Ground.data }], guard := none }) rfl (fun K hK => ?_) ?_
        (first | ((with_reducible first | refine step_run4 rA1.out ?_ ?_ ?_ | refine step_run4 rB1.out ?_ ?_ ?_ | refine step_run4 rC1.out ?_ ?_ ?_ | refine step_run4 rA2.out ?_ ?_ ?_ | refine step_run4 rB2.out ?_ ?_ ?_ | refine step_run4 rC2.out ?_ ?_ ?_ | refine step_run4 R4.out ?_ ?_ ?_); (exact rfl); (exact rfl)) | (go_at_call 80; (with_reducible first | refine IA.out.mono ?_ | refine IB.out.mono ?_ | refine IC.out.mono ?_); rintro e wX ⟨v3, rfl, hO3, hb⟩; have BX := Lib.hid (below_go (by with_reducible first | exact BA.out | exact BB.out | exact BC.out) hb); obtain ⟨v4, w4, hr4, hO4, hB4⟩ := app_rows (w := w1) 128 48 i48 Tryd.underlying128 hi48 hz0 hz1 hz2 HO1.out BX.out (by have h := hO3; rw [HFF.out] at h; exact h) HNE.out HB1.out.size (Nat.le_trans HB1.out.size BX.out.size) HLN.out (below_go HB1.out BX.out) (Nat.le_refl _); have R4 := Lib.hid hr4; have O4 := Lib.hid hO4; have B4 := Lib.hid hB4; clear hO3 hb hr4 hO4 hB4))
        refine hK.out _ _ ?_ (fun hHeld => ?_)
        · (try dsimp only) <;> (with_reducible first | exact SK.out _ B4.out | exact SK2.out _ BX.out | exact SK2.out _ DB.out | exact SK2.out _ E1.out | exact SK2.out _ E2.out | exact SK2.out _ E3.out | exact SK2.out _ E4.out | exact SK2.out _ E5.out | exact SK2.out _ BA1.out | exact SK2.out _ BB1.out | exact SK2.out _ BC1.out | exact SK2.out _ BA.out | exact SK2.out _ BB.out | exact SK2.out _ BC.out)
        clear hK K
        try simp only [Act.put, List.setIfInBounds_toArray, List.set_cons_zero, List.set_cons_succ]
        refine wpAnyH_ready (rs := [6]) (by kernel_rfl) (by simp) ?_
        refine AllReadyH.cons (o := { dst := some 35, op := Op.call { callee := Callee.builtin Builtin.append, args := #[Operand.tmp 33, Operand.tmp 34], argTypes := #[48, 48] }, type := 48, pos := "ref.go:220", after := #[{ on := 4, ground := Ground.data }, { on := 5, ground := Ground.data }, { on := 4, ground := Ground.chain }], guard := none }) rfl (fun K hK => ?_) ?_
        (first | ((with_reducible first | refine step_run4 rA1.out ?_ ?_ ?_ | refine step_run4 rB1.out ?_ ?_ ?_ | refine step_run4 rC1.out ?_ ?_ ?_ | refine step_run4 rA2.out ?_ ?_ ?_ | refine step_run4 rB2.out ?_ ?_ ?_ | refine step_run4 rC2.out ?_ ?_ ?_ | refine step_run4 R4.out ?_ ?_ ?_); (exact rfl); (exact rfl)) | (go_at_call 80; (with_reducible first | refine IA.out.mono ?_ | refine IB.out.mono ?_ | refine IC.out.mono ?_); rintro e wX ⟨v3, rfl, hO3, hb⟩; have BX := Lib.hid (below_go (by with_reducible first | exact BA.out | exact BB.out | exact BC.out) hb); obtain ⟨v4, w4, hr4, hO4, hB4⟩ := app_rows (w := w1) 128 48 i48 Tryd.underlying128 hi48 hz0 hz1 hz2 HO1.out BX.out (by have h := hO3; rw [HFF.out] at h; exact h) HNE.out HB1.out.size (Nat.le_trans HB1.out.size BX.out.size) HLN.out (below_go HB1.out BX.out) (Nat.le_refl _); have R4 := Lib.hid hr4; have O4 := Lib.hid hO4; have B4 := Lib.hid hB4; clear hO3 hb hr4 hO4 hB4))
        refine hK.out _ _ ?_ (fun hHeld => ?_)
        · (try dsimp only) <;> (with_reducible first | exact SK.out _ B4.out | exact SK2.out _ BX.out | exact SK2.out _ DB.out | exact SK2.out _ E1.out | exact SK2.out _ E2.out | exact SK2.out _ E3.out | exact SK2.out _ E4.out | exact SK2.out _ E5.out | exact SK2.out _ BA1.out | exact SK2.out _ BB1.out | exact SK2.out _ BC1.out | exact SK2.out _ BA.out | exact SK2.out _ BB.out | exact SK2.out _ BC.out)
        clear hK K
        try simp only [Act.put, List.setIfInBounds_toArray, List.set_cons_zero, List.set_cons_succ]
        refine wpAnyH_ready (rs := [7]) (by kernel_rfl) (by simp) ?_
        refine AllReadyH.cons (o := { dst := some 36, op := Op.call { callee := Callee.value (Operand.func 80), args := #[Operand.tmp 30, Operand.tmp 35], argTypes := #[24, 48] }, type := 128, pos := "ref.go:220", after := #[{ on := 1, ground := Ground.data }, { on := 6, ground := Ground.data }, { on := 6, ground := Ground.chain }], guard := none }) rfl (fun K hK => ?_) ?_
        go_simp
        (first | ((with_reducible first | refine step_run4 rA1.out ?_ ?_ ?_ | refine step_run4 rB1.out ?_ ?_ ?_ | refine step_run4 rC1.out ?_ ?_ ?_ | refine step_run4 rA2.out ?_ ?_ ?_ | refine step_run4 rB2.out ?_ ?_ ?_ | refine step_run4 rC2.out ?_ ?_ ?_ | refine step_run4 R4.out ?_ ?_ ?_); (exact rfl); (exact rfl)) | (go_at_call 80; (with_reducible first | refine IA.out.mono ?_ | refine IB.out.mono ?_ | refine IC.out.mono ?_); rintro e wX ⟨v3, rfl, hO3, hb⟩; have BX := Lib.hid (below_go (by with_reducible first | exact BA.out | exact BB.out | exact BC.out) hb); obtain ⟨v4, w4, hr4, hO4, hB4⟩ := app_rows (w := w1) 128 48 i48 Tryd.underlying128 hi48 hz0 hz1 hz2 HO1.out BX.out (by have h := hO3; rw [HFF.out] at h; exact h) HNE.out HB1.out.size (Nat.le_trans HB1.out.size BX.out.size) HLN.out (below_go HB1.out BX.out) (Nat.le_refl _); have R4 := Lib.hid hr4; have O4 := Lib.hid hO4; have B4 := Lib.hid hB4; clear hO3 hb hr4 hO4 hB4))
        go_wp2_with fail
        refine hK.out _ _ ?_ (fun hHeld => ?_)
        · (try dsimp only) <;> (with_reducible first | exact SK.out _ B4.out | exact SK2.out _ BX.out | exact SK2.out _ DB.out | exact SK2.out _ E1.out | exact SK2.out _ E2.out | exact SK2.out _ E3.out | exact SK2.out _ E4.out | exact SK2.out _ E5.out | exact SK2.out _ BA1.out | exact SK2.out _ BB1.out | exact SK2.out _ BC1.out | exact SK2.out _ BA.out | exact SK2.out _ BB.out | exact SK2.out _ BC.out)
        clear hK K
        try simp only [Act.put, List.setIfInBounds_toArray, List.set_cons_zero, List.set_cons_succ]
        refine wpAnyH_ready (rs := [8]) (by kernel_rfl) (by simp) ?_
        refine AllReadyH.cons (o := { dst := some 37, op := Op.call { callee := Callee.builtin Builtin.append, args := #[Operand.tmp 29, Operand.tmp 36], argTypes := #[128, 128] }, type := 128, pos := "ref.go:220", after := #[{ on := 0, ground := Ground.data }, { on := 7, ground := Ground.data }, { on := 7, ground := Ground.chain }], guard := none }) rfl (fun K hK => ?_) ?_
        (first | ((with_reducible first | refine step_run4 rA1.out ?_ ?_ ?_ | refine step_run4 rB1.out ?_ ?_ ?_ | refine step_run4 rC1.out ?_ ?_ ?_ | refine step_run4 rA2.out ?_ ?_ ?_ | refine step_run4 rB2.out ?_ ?_ ?_ | refine step_run4 rC2.out ?_ ?_ ?_ | refine step_run4 R4.out ?_ ?_ ?_); (exact rfl); (exact rfl)) | (go_at_call 80; (with_reducible first | refine IA.out.mono ?_ | refine IB.out.mono ?_ | refine IC.out.mono ?_); rintro e wX ⟨v3, rfl, hO3, hb⟩; have BX := Lib.hid (below_go (by with_reducible first | exact BA.out | exact BB.out | exact BC.out) hb); obtain ⟨v4, w4, hr4, hO4, hB4⟩ := app_rows (w := w1) 128 48 i48 Tryd.underlying128 hi48 hz0 hz1 hz2 HO1.out BX.out (by have h := hO3; rw [HFF.out] at h; exact h) HNE.out HB1.out.size (Nat.le_trans HB1.out.size BX.out.size) HLN.out (below_go HB1.out BX.out) (Nat.le_refl _); have R4 := Lib.hid hr4; have O4 := Lib.hid hO4; have B4 := Lib.hid hB4; clear hO3 hb hr4 hO4 hB4))
        refine hK.out _ _ ?_ (fun hHeld => ?_)
        · (try dsimp only) <;> (with_reducible first | exact SK.out _ B4.out | exact SK2.out _ BX.out | exact SK2.out _ DB.out | exact SK2.out _ E1.out | exact SK2.out _ E2.out | exact SK2.out _ E3.out | exact SK2.out _ E4.out | exact SK2.out _ E5.out | exact SK2.out _ BA1.out | exact SK2.out _ BB1.out | exact SK2.out _ BC1.out | exact SK2.out _ BA.out | exact SK2.out _ BB.out | exact SK2.out _ BC.out)
        clear hK K
        try simp only [Act.put, List.setIfInBounds_toArray, List.set_cons_zero, List.set_cons_succ]
        refine wpAnyH_take (i := 9) (oi := { dst := some 5, op := Op.assign (Operand.tmp 37), type := 128, pos := "ref.go:220", after := #[{ on := 8, ground := Ground.data }, { on := 8, ground := Ground.chain }, { on := 0, ground := Ground.phase }, { on := 1, ground := Ground.phase }, { on := 2, ground := Ground.phase }, { on := 3, ground := Ground.phase }, { on := 4, ground := Ground.phase }, { on := 5, ground := Ground.phase }, { on := 6, ground := Ground.phase }, { on := 7, ground := Ground.phase }, { on := 8, ground := Ground.phase }], guard := none }) (v := ?v_ca5_9) rfl (by kernel_rfl) (by kernel_rfl) (by kernel_rfl) (fun _ _ _ h => h) (Or.inl ⟨by rfl, ?y_ca5_9⟩) (by assumption) ?_
        case y_ca5_9 => intro w hSw; (try dsimp only at hSw); go_simp; with_reducible rfl
        try simp only [Act.put, List.setIfInBounds_toArray, List.set_cons_zero, List.set_cons_succ]
        refine wpAnyH_done (by kernel_rfl) ?_ _
        rotate_left 1
        exact AllReadyH.nil
        exact AllReadyH.nil
        exact AllReadyH.nil
        exact AllReadyH.nil
        exact AllReadyH.nil
        refine AllReadyH.cons (o := { dst := some 34, op := Op.buildSlice 48 1 #[(0, Operand.const (Value.bool false))], type := 48, pos := "ref.go:220", after := #[], guard := none }) rfl (fun K hK => ?_) ?_
        go_simp
        refine hK.out _ _ ?_ (fun hHeld => ?_)
        · (try dsimp only) <;> (with_reducible first | exact SK.out _ B4.out | exact SK2.out _ BX.out | exact SK2.out _ DB.out | exact SK2.out _ E1.out | exact SK2.out _ E2.out | exact SK2.out _ E3.out | exact SK2.out _ E4.out | exact SK2.out _ E5.out | exact SK2.out _ BA1.out | exact SK2.out _ BB1.out | exact SK2.out _ BC1.out | exact SK2.out _ BA.out | exact SK2.out _ BB.out | exact SK2.out _ BC.out)
        clear hK K
        try simp only [Act.put, List.setIfInBounds_toArray, List.set_cons_zero, List.set_cons_succ]
        refine wpAnyH_ready (rs := [2]) (by kernel_rfl) (by simp) ?_
        refine AllReadyH.cons (o := { dst := some 31, op := Op.buildSlice 48 0 #[], type := 48, pos := "ref.go:220", after := #[], guard := none }) rfl (fun K hK => ?_) ?_
        go_simp
        refine hK.out _ _ ?_ (fun hHeld => ?_)
        · (try dsimp only) <;> (with_reducible first | exact SK.out _ B4.out | exact SK2.out _ BX.out | exact SK2.out _ DB.out | exact SK2.out _ E1.out | exact SK2.out _ E2.out | exact SK2.out _ E3.out | exact SK2.out _ E4.out | exact SK2.out _ E5.out | exact SK2.out _ BA1.out | exact SK2.out _ BB1.out | exact SK2.out _ BC1.out | exact SK2.out _ BA.out | exact SK2.out _ BB.out | exact SK2.out _ BC.out)
        clear hK K
        try simp only [Act.put, List.setIfInBounds_toArray, List.set_cons_zero, List.set_cons_succ]
        refine wpAnyH_ready (rs := [4]) (by kernel_rfl) (by simp) ?_
        refine AllReadyH.cons (o := { dst := some 33, op := Op.call { callee := Callee.builtin Builtin.append, args := #[Operand.tmp 31, Operand.tmp 32], argTypes := #[48, 48] }, type := 48, pos := "ref.go:220", after := #[{ on := 2, ground := Ground.data }, { on := 3, ground := Ground.data }], guard := none }) rfl (fun K hK => ?_) ?_
        (first | ((with_reducible first | refine step_run4 rA1.out ?_ ?_ ?_ | refine step_run4 rB1.out ?_ ?_ ?_ | refine step_run4 rC1.out ?_ ?_ ?_ | refine step_run4 rA2.out ?_ ?_ ?_ | refine step_run4 rB2.out ?_ ?_ ?_ | refine step_run4 rC2.out ?_ ?_ ?_ | refine step_run4 R4.out ?_ ?_ ?_); (exact rfl); (exact rfl)) | (go_at_call 80; (with_reducible first | refine IA.out.mono ?_ | refine IB.out.mono ?_ | refine IC.out.mono ?_); rintro e wX ⟨v3, rfl, hO3, hb⟩; have BX := Lib.hid (below_go (by with_reducible first | exact BA.out | exact BB.out | exact BC.out) hb); obtain ⟨v4, w4, hr4, hO4, hB4⟩ := app_rows (w := w1) 128 48 i48 Tryd.underlying128 hi48 hz0 hz1 hz2 HO1.out BX.out (by have h := hO3; rw [HFF.out] at h; exact h) HNE.out HB1.out.size (Nat.le_trans HB1.out.size BX.out.size) HLN.out (below_go HB1.out BX.out) (Nat.le_refl _); have R4 := Lib.hid hr4; have O4 := Lib.hid hO4; have B4 := Lib.hid hB4; clear hO3 hb hr4 hO4 hB4))
        refine hK.out _ _ ?_ (fun hHeld => ?_)
        · (try dsimp only) <;> (with_reducible first | exact SK.out _ B4.out | exact SK2.out _ BX.out | exact SK2.out _ DB.out | exact SK2.out _ E1.out | exact SK2.out _ E2.out | exact SK2.out _ E3.out | exact SK2.out _ E4.out | exact SK2.out _ E5.out | exact SK2.out _ BA1.out | exact SK2.out _ BB1.out | exact SK2.out _ BC1.out | exact SK2.out _ BA.out | exact SK2.out _ BB.out | exact SK2.out _ BC.out)
        clear hK K
        try simp only [Act.put, List.setIfInBounds_toArray, List.set_cons_zero, List.set_cons_succ]
        refine wpAnyH_ready (rs := [6]) (by kernel_rfl) (by simp) ?_
        refine AllReadyH.cons (o := { dst := some 35, op := Op.call { callee := Callee.builtin Builtin.append, args := #[Operand.tmp 33, Operand.tmp 34], argTypes := #[48, 48] }, type := 48, pos := "ref.go:220", after := #[{ on := 4, ground := Ground.data }, { on := 5, ground := Ground.data }, { on := 4, ground := Ground.chain }], guard := none }) rfl (fun K hK => ?_) ?_
        (first | ((with_reducible first | refine step_run4 rA1.out ?_ ?_ ?_ | refine step_run4 rB1.out ?_ ?_ ?_ | refine step_run4 rC1.out ?_ ?_ ?_ | refine step_run4 rA2.out ?_ ?_ ?_ | refine step_run4 rB2.out ?_ ?_ ?_ | refine step_run4 rC2.out ?_ ?_ ?_ | refine step_run4 R4.out ?_ ?_ ?_); (exact rfl); (exact rfl)) | (go_at_call 80; (with_reducible first | refine IA.out.mono ?_ | refine IB.out.mono ?_ | refine IC.out.mono ?_); rintro e wX ⟨v3, rfl, hO3, hb⟩; have BX := Lib.hid (below_go (by with_reducible first | exact BA.out | exact BB.out | exact BC.out) hb); obtain ⟨v4, w4, hr4, hO4, hB4⟩ := app_rows (w := w1) 128 48 i48 Tryd.underlying128 hi48 hz0 hz1 hz2 HO1.out BX.out (by have h := hO3; rw [HFF.out] at h; exact h) HNE.out HB1.out.size (Nat.le_trans HB1.out.size BX.out.size) HLN.out (below_go HB1.out BX.out) (Nat.le_refl _); have R4 := Lib.hid hr4; have O4 := Lib.hid hO4; have B4 := Lib.hid hB4; clear hO3 hb hr4 hO4 hB4))
        refine hK.out _ _ ?_ (fun hHeld => ?_)
        · (try dsimp only) <;> (with_reducible first | exact SK.out _ B4.out | exact SK2.out _ BX.out | exact SK2.out _ DB.out | exact SK2.out _ E1.out | exact SK2.out _ E2.out | exact SK2.out _ E3.out | exact SK2.out _ E4.out | exact SK2.out _ E5.out | exact SK2.out _ BA1.out | exact SK2.out _ BB1.out | exact SK2.out _ BC1.out | exact SK2.out _ BA.out | exact SK2.out _ BB.out | exact SK2.out _ BC.out)
        clear hK K
        try simp only [Act.put, List.setIfInBounds_toArray, List.set_cons_zero, List.set_cons_succ]
        refine wpAnyH_ready (rs := [7]) (by kernel_rfl) (by simp) ?_
        refine AllReadyH.cons (o := { dst := some 36, op := Op.call { callee := Callee.value (Operand.func 80), args := #[Operand.tmp 30, Operand.tmp 35], argTypes := #[24, 48] }, type := 128, pos := "ref.go:220", after := #[{ on := 1, ground := Ground.data }, { on := 6, ground := Ground.data }, { on := 6, ground := Ground.chain }], guard := none }) rfl (fun K hK => ?_) ?_
        go_simp
        (first | ((with_reducible first | refine step_run4 rA1.out ?_ ?_ ?_ | refine step_run4 rB1.out ?_ ?_ ?_ | refine step_run4 rC1.out ?_ ?_ ?_ | refine step_run4 rA2.out ?_ ?_ ?_ | refine step_run4 rB2.out ?_ ?_ ?_ | refine step_run4 rC2.out ?_ ?_ ?_ | refine step_run4 R4.out ?_ ?_ ?_); (exact rfl); (exact rfl)) | (go_at_call 80; (with_reducible first | refine IA.out.mono ?_ | refine IB.out.mono ?_ | refine IC.out.mono ?_); rintro e wX ⟨v3, rfl, hO3, hb⟩; have BX := Lib.hid (below_go (by with_reducible first | exact BA.out | exact BB.out | exact BC.out) hb); obtain ⟨v4, w4, hr4, hO4, hB4⟩ := app_rows (w := w1) 128 48 i48 Tryd.underlying128 hi48 hz0 hz1 hz2 HO1.out BX.out (by have h := hO3; rw [HFF.out] at h; exact h) HNE.out HB1.out.size (Nat.le_trans HB1.out.size BX.out.size) HLN.out (below_go HB1.out BX.out) (Nat.le_refl _); have R4 := Lib.hid hr4; have O4 := Lib.hid hO4; have B4 := Lib.hid hB4; clear hO3 hb hr4 hO4 hB4))
        go_wp2_with fail
        refine hK.out _ _ ?_ (fun hHeld => ?_)
        · (try dsimp only) <;> (with_reducible first | exact SK.out _ B4.out | exact SK2.out _ BX.out | exact SK2.out _ DB.out | exact SK2.out _ E1.out | exact SK2.out _ E2.out | exact SK2.out _ E3.out | exact SK2.out _ E4.out | exact SK2.out _ E5.out | exact SK2.out _ BA1.out | exact SK2.out _ BB1.out | exact SK2.out _ BC1.out | exact SK2.out _ BA.out | exact SK2.out _ BB.out | exact SK2.out _ BC.out)
        clear hK K
        try simp only [Act.put, List.setIfInBounds_toArray, List.set_cons_zero, List.set_cons_succ]
        refine wpAnyH_ready (rs := [8]) (by kernel_rfl) (by simp) ?_
        refine AllReadyH.cons (o := { dst := some 37, op := Op.call { callee := Callee.builtin Builtin.append, args := #[Operand.tmp 29, Operand.tmp 36], argTypes := #[128, 128] }, type := 128, pos := "ref.go:220", after := #[{ on := 0, ground := Ground.data }, { on := 7, ground := Ground.data }, { on := 7, ground := Ground.chain }], guard := none }) rfl (fun K hK => ?_) ?_
        (first | ((with_reducible first | refine step_run4 rA1.out ?_ ?_ ?_ | refine step_run4 rB1.out ?_ ?_ ?_ | refine step_run4 rC1.out ?_ ?_ ?_ | refine step_run4 rA2.out ?_ ?_ ?_ | refine step_run4 rB2.out ?_ ?_ ?_ | refine step_run4 rC2.out ?_ ?_ ?_ | refine step_run4 R4.out ?_ ?_ ?_); (exact rfl); (exact rfl)) | (go_at_call 80; (with_reducible first | refine IA.out.mono ?_ | refine IB.out.mono ?_ | refine IC.out.mono ?_); rintro e wX ⟨v3, rfl, hO3, hb⟩; have BX := Lib.hid (below_go (by with_reducible first | exact BA.out | exact BB.out | exact BC.out) hb); obtain ⟨v4, w4, hr4, hO4, hB4⟩ := app_rows (w := w1) 128 48 i48 Tryd.underlying128 hi48 hz0 hz1 hz2 HO1.out BX.out (by have h := hO3; rw [HFF.out] at h; exact h) HNE.out HB1.out.size (Nat.le_trans HB1.out.size BX.out.size) HLN.out (below_go HB1.out BX.out) (Nat.le_refl _); have R4 := Lib.hid hr4; have O4 := Lib.hid hO4; have B4 := Lib.hid hB4; clear hO3 hb hr4 hO4 hB4))
        refine hK.out _ _ ?_ (fun hHeld => ?_)
        · (try dsimp only) <;> (with_reducible first | exact SK.out _ B4.out | exact SK2.out _ BX.out | exact SK2.out _ DB.out | exact SK2.out _ E1.out | exact SK2.out _ E2.out | exact SK2.out _ E3.out | exact SK2.out _ E4.out | exact SK2.out _ E5.out | exact SK2.out _ BA1.out | exact SK2.out _ BB1.out | exact SK2.out _ BC1.out | exact SK2.out _ BA.out | exact SK2.out _ BB.out | exact SK2.out _ BC.out)
        clear hK K
        try simp only [Act.put, List.setIfInBounds_toArray, List.set_cons_zero, List.set_cons_succ]
        refine wpAnyH_take (i := 9) (oi := { dst := some 5, op := Op.assign (Operand.tmp 37), type := 128, pos := "ref.go:220", after := #[{ on := 8, ground := Ground.data }, { on := 8, ground := Ground.chain }, { on := 0, ground := Ground.phase }, { on := 1, ground := Ground.phase }, { on := 2, ground := Ground.phase }, { on := 3, ground := Ground.phase }, { on := 4, ground := Ground.phase }, { on := 5, ground := Ground.phase }, { on := 6, ground := Ground.phase }, { on := 7, ground := Ground.phase }, { on := 8, ground := Ground.phase }], guard := none }) (v := ?v_ca5_10) rfl (by kernel_rfl) (by kernel_rfl) (by kernel_rfl) (fun _ _ _ h => h) (Or.inl ⟨by rfl, ?y_ca5_10⟩) (by assumption) ?_
        case y_ca5_10 => intro w hSw; (try dsimp only at hSw); go_simp; with_reducible rfl
        try simp only [Act.put, List.setIfInBounds_toArray, List.set_cons_zero, List.set_cons_succ]
        refine wpAnyH_done (by kernel_rfl) ?_ _
        rotate_left 1
        exact AllReadyH.nil
        exact AllReadyH.nil
        exact AllReadyH.nil
        exact AllReadyH.nil
        exact AllReadyH.nil
        exact AllReadyH.nil
        all_goals
          have FO := Lib.hid (show OwnLL 48 w.heap.size base w4 v4 RES by rw [← HRES.out]; exact OwnLL.mono O4.out HW1.out (Nat.le_trans Hb.out HW1.out))
          have FB := Lib.hid (below_go S0.out.bl B4.out)
          clear R4 O4 B4 BX
          go_wp2_with fail
          go_returns
          exact ⟨_, rfl, FO.out, FB.out⟩
      · have FO := Lib.hid (show OwnLL 48 w.heap.size base wc u5 RES by rw [← HRES.out, if_pos rfl, List.append_nil]; exact OwnLL.mono HO1.out HW1.out (Nat.le_trans Hb.out HW1.out))
        go_wp2_with fail
        go_returns
        exact ⟨_, rfl, FO.out, HBC.out⟩

end Go.Proofs.YtaloffdkadhhnaaDoor
