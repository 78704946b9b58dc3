/- What walks over sheets and games need: ready; games in their blocks; rows that are kept. -/
import Derived.Test.YtmjbidnlknmcgabDoorBd
import Derived.Test.YtmjbidnlknmcgabDoorRdb
set_option linter.unusedVariables false
set_option linter.unusedSimpArgs false
namespace Go.Proofs.YtmjbidnlknmcgabDoor
open Go.RowKit

theorem balls_news {W : World} {ad : Addr} {xs : List Int} (h : BallsAt W (some ad) xs) : ∀ j u, (xs.map (Value.int .i64))[j]? = some u → W.cell? (ad.add j) = some u := by
  intro j u hj
  rw [List.getElem?_map] at hj
  cases hx : xs[j]? with
  | none => rw [hx] at hj; cases hj
  | some x =>
    rw [hx] at hj
    cases hj
    obtain ⟨g', o', e, hc⟩ := h j x hx
    cases e
    have e : (⟨g', o', none⟩ : Addr).add j = ⟨g', o' + j, none⟩ := by unfold Addr.add; split <;> simp_all
    rw [e]
    exact hc

theorem own_below {w w' : World} {base n : Nat} {e : TypeId} {v : Value} {xs : List Value} (h : w.ownsRow base e 1 v n xs) (hB : Below w.heap.size w w') : w'.ownsRow base e 1 v n xs :=
  h.kept (below_row hB) (by cases hk : v.ownBlock with | none => exact .inl rfl | some k => exact .inr (fun e => by cases e))

theorem own_free {w : World} {base g n c : Nat} {e : TypeId} {xs : List Value} (h : w.ownsRow base e 1 (.slice (some ⟨g, 0, none⟩) n c) n xs) (i : Nat) : w.frozen? ⟨g, i, none⟩ = false := by
  rcases h.2 with ⟨h1, _⟩ | ⟨g', cap, cur, hv, _, hh, _⟩
  · cases h1
  · cases hv
    simp [World.frozen?, hh]

/-- A game in its block. -/
structure GK (W : World) (g : Nat) (fv qv : Value) (st : Int) (dn : Bool) : Prop where
  blk : W.heap[g]? = some (.cells #[fv, qv, .int .i64 st, .bool dn] 38 (0, 0))
theorem GK.lo {W W' : World} {g : Nat} {fv qv : Value} {st : Int} {dn : Bool} (h : Hid (GK W g fv qv st dn)) (hb : Below W.heap.size W W') : Hid (GK W' g fv qv st dn) := Lib.hid ⟨(hb.block _ (lt_of_block h.out.blk)).trans h.out.blk⟩
theorem GK.at {W : World} {g : Nat} {fv qv : Value} {st : Int} {dn : Bool} (h : Hid (GK W g fv qv st dn)) : W.cell? ⟨g, 0, none⟩ = some fv ∧ W.cell? ⟨g, 1, none⟩ = some qv ∧ W.cell? ⟨g, 2, none⟩ = some (.int .i64 st) ∧ W.cell? ⟨g, 3, none⟩ = some (.bool dn) := by
  have h := h.out.blk
  exact ⟨by simp [World.cell?, h], by simp [World.cell?, h], by simp [World.cell?, h], by simp [World.cell?, h]⟩

/-- The frames of a game, in memory. -/
structure FR (W : World) (fa : Option Addr) (N fc : Nat) (F : List (List Int)) : Prop where
  rows : ∃ base vs, W.ownsRow base 28 1 (.slice fa N fc) N vs ∧ (∀ p ∈ vs.zip F, ∃ xa xc, p.1 = .slice xa p.2.length xc ∧ BallsAt W xa p.2) ∧ vs.length = F.length

theorem FR.lo {W W' : World} {fa : Option Addr} {N fc : Nat} {F : List (List Int)} (h : Hid (FR W fa N fc F)) (hb : Below W.heap.size W W') : Hid (FR W' fa N fc F) := by
  obtain ⟨base, vs, h1, h2, h3⟩ := h.out.rows
  refine Lib.hid ⟨base, vs, own_below h1 hb, fun p hp => ?_, h3⟩
  obtain ⟨xa, xc, hx, hB⟩ := h2 p hp
  exact ⟨xa, xc, hx, hB.lo hb⟩

theorem FR.len {W : World} {fa : Option Addr} {N fc : Nat} {F : List (List Int)} (h : FR W fa N fc F) : F.length = N := by
  obtain ⟨base, vs, h1, h2, h3⟩ := h.rows
  have := h1.1
  omega

theorem FR.get {W : World} {fa : Option Addr} {N fc i : Nat} {F : List (List Int)} {zs : List Int} (h : FR W fa N fc F) (hz : F[i]? = some zs) : ∃ g xa xc, fa = some ⟨g, 0, none⟩ ∧ W.cell? ⟨g, i, none⟩ = some (.slice xa zs.length xc) ∧ BallsAt W xa zs := by
  obtain ⟨base, vs, h1, h2, h3⟩ := h.rows
  have hN := h.len
  have hi : i < F.length := (List.getElem?_eq_some_iff.1 hz).1
  obtain ⟨g, cap, hv, -, -, -, -⟩ := own_form h1 (by omega)
  cases hv
  have hvi : vs[i]? = some (vs[i]'(by omega)) := List.getElem?_eq_getElem _
  obtain ⟨xa, xc, hx, hB⟩ := h2 (vs[i]'(by omega), zs) (List.mem_iff_getElem?.2 ⟨i, by rw [List.getElem?_zip_eq_some]; exact ⟨hvi, hz⟩⟩)
  simp only at hx
  exact ⟨g, xa, xc, rfl, by rw [← hx]; exact own_cell h1 i _ hvi, hB⟩

/-- Read, of any sheet, by what it hands back. -/
theorem rd_fr (l : Lw) (bs : List Int) (a : Option Addr) (c : Nat) (w : World) (hs : BallsAt w a bs) :
    Calls Tryd.prog 12 #[l.val, .slice a bs.length c] w fun e w' => ∃ fa fc qa qc, e = .returned (.tuple #[.agg #[.slice fa (rdN l bs) fc, .slice qa (rdM l bs).length qc, .int .i64 (rdS l bs), .bool (rdD l bs)], .int .i64 (rdE l bs)]) ∧
      Hid (BallsAt w' qa (rdM l bs)) ∧ Hid (FR w' fa (rdN l bs) fc (rdF l bs)) ∧ Below w.heap.size w w' := by
  refine (rd_any l bs a c w hs).mono ?_
  rintro e w' ⟨fa, fc, qa, qc, rfl, h1, h2, hb⟩
  exact ⟨fa, fc, qa, qc, rfl, Lib.hid h1, Lib.hid ⟨h2⟩, hb⟩

set_option maxRecDepth 100000 in
set_option maxHeartbeats 4000000 in
theorem ready_any (l : Lw) (bs : List Int) (a : Option Addr) (c : Nat) (w : World) (hs : BallsAt w a bs) :
    Calls Tryd.prog 6 #[l.val, .slice a bs.length c] w fun e w' => e = .returned (.bool (decide (rdE l bs = 0))) ∧ Below w.heap.size w w' := by
  have ISL := Lib.hid (isLaw_any l)
  have HS := Lib.hid hs
  clear hs
  have hle := fol_le l bs (rec0 l)
  cases hok : okB l
  · have hE : decide (rdE l bs = 0) = false := by rw [rdE_bad hok]; decide
    rw [hE]
    rw [hok] at ISL
    clear hok hE hle
    unfold Lw.val at *
    go_enter Tryd.func6, Tryd.ntmps6
    go_wp2_with fail
    have A1 := WL.start w l
    generalize World.alloc w _ = w1 at A1 ⊢
    refine (ISL.out w1).mono ?_
    rintro e w2 ⟨rfl, hb⟩
    have A2 := WL.lo A1 hb
    clear hb A1
    go_wp2_with fail
    go_ret
    exact ⟨rfl, A2.out.bl⟩
  · by_cases h40 : bs.length ≤ 40
    · have herr : errS l bs.length = 0 := by simp [errS, hok, h40]
      have okl := (errS_zero herr).1
      have hE : decide (rdE l bs = 0) = decide ((fol l (rec0 l) bs).2 = bs.length) := by
        rw [rdE, herr]
        by_cases hf : (fol l (rec0 l) bs).2 = bs.length
        · simp [hf]
        · have : (fol l (rec0 l) bs).2 < bs.length := by omega
          simp [hf, this]
      rw [hE]
      have ISR := Lib.hid (fun w h => is_ref l bs a c w okl h (by omega))
      generalize decide ((fol l (rec0 l) bs).2 = bs.length) = Q at ISR ⊢
      rw [hok] at ISL
      have hle40 : (bs.length : Int) ≤ 40 := by omega
      clear hok hE hle herr okl
      unfold Lw.val at *
      go_enter Tryd.func6, Tryd.ntmps6
      go_wp2_with fail
      have A1 := WL.start w l
      generalize World.alloc w _ = w1 at A1 ⊢
      refine (ISL.out w1).mono ?_
      rintro e w2 ⟨rfl, hb⟩
      have A2 := WL.lo A1 hb
      clear hb A1
      obtain ⟨k0, k1, k2, k3⟩ := WL.at A2
      go_wp2_with fail
      refine (ISR.out w2 (HS.out.lo A2.out.bl)).mono ?_
      rintro e w3 ⟨rfl, hb⟩
      have A3 := WL.lo A2 hb
      clear hb A2 k0 k1 k2 k3
      go_wp2_with fail
      go_ret
      exact ⟨rfl, A3.out.bl⟩
    · have hE : decide (rdE l bs = 0) = false := by
        have : rdE l bs = 3 := by simp [rdE, errS, hok, h40]
        rw [this]; decide
      rw [hE]
      rw [hok] at ISL
      have hle40 : decide ((bs.length : Int) ≤ 40) = false := by simp; omega
      clear hok hE hle
      unfold Lw.val at *
      go_enter Tryd.func6, Tryd.ntmps6
      go_wp2_with fail
      have A1 := WL.start w l
      generalize World.alloc w _ = w1 at A1 ⊢
      refine (ISL.out w1).mono ?_
      rintro e w2 ⟨rfl, hb⟩
      have A2 := WL.lo A1 hb
      clear hb A1
      go_wp2_with fail
      go_ret
      exact ⟨rfl, A2.out.bl⟩

end Go.Proofs.YtmjbidnlknmcgabDoor
