/- The contracts of the reference's Is, of the law's list and fault. -/
import Derived.Test.YtmjbidnlknmcgabDoorPl2
import Derived.Test.YtmjbidnlknmcgabDoorLGr
set_option linter.unusedVariables false
set_option linter.unusedSimpArgs false
namespace Go.Proofs.YtmjbidnlknmcgabDoor
open Go.RowKit

/-- A sheet as a slice: nil, or anywhere. -/
def SheetAt (w : World) (a : Option Addr) (c : Nat) (bs : List Int) : Prop := BallsAt w a bs ∧ (a = none → c = 0 ∧ bs = [])

theorem SheetAt.lo {w w' : World} {a : Option Addr} {c : Nat} {bs : List Int} (h : SheetAt w a c bs) (hB : Below w.heap.size w w') : SheetAt w' a c bs := ⟨h.1.lo hB, h.2⟩

theorem own_none (w : World) : (w.alloc (.cells #[] 3)).ownsRow w.heap.size 3 1 (.slice (some ⟨w.heap.size, 0, none⟩) 0 0) 0 [] :=
  ⟨rfl, .inr ⟨w.heap.size, 0, #[], rfl, Nat.le_refl _, heap_alloc_new w _, Nat.le_refl _, by unfold maxLen; omega, rfl, rfl⟩⟩

set_option maxRecDepth 100000 in
set_option maxHeartbeats 2000000 in
theorem list_any (bs : List Int) (a : Option Addr) (c : Nat) (w : World) (hs : SheetAt w a c bs) (hn : bs.length ≤ 100) :
    Calls Tryd.prog 7 #[.slice a bs.length c] w fun e w' => ∃ v, e = .returned v ∧ w'.ownsRow w.heap.size 3 1 v bs.length (bs.map (Value.int .i64)) ∧ Below w.heap.size w w' := by
  have HS := Lib.hid hs
  clear hs
  obtain ⟨i3, hi3, hy0, hy1, hy2⟩ := info_parts info3
  have O1 := Lib.hid (own_none w)
  have B1 := Lib.hid (below_al w (.cells #[] 3))
  cases a with
  | none =>
    obtain ⟨rfl, rfl⟩ := HS.out.2 rfl
    simp only [List.length_nil]
    go_enter Tryd.func7, Tryd.ntmps7
    go_wp2_with (at_builtin; refine wpList_append_none _ rfl _ _ 28 rfl w.heap.size 3 i3 1 Tryd.underlying28 hi3 _ _ _ rfl O1.out rfl ?_)
    go_returns
    exact ⟨_, rfl, O1.out, B1.out⟩
  | some ad =>
    have hnews : ∀ j u, (bs.map (Value.int .i64))[j]? = some u → (w.alloc (.cells #[] 3)).cell? (ad.add j) = some u := by
      intro j u hj
      rw [List.getElem?_map] at hj
      cases hx : bs[j]? with
      | none => rw [hx] at hj; cases hj
      | some x =>
        rw [hx] at hj
        cases hj
        obtain ⟨g', o', e, hc⟩ := HS.out.1 j x hx
        cases e
        have e : (⟨g', o', none⟩ : Addr).add j = ⟨g', o' + j, none⟩ := by unfold Addr.add; split <;> simp_all
        rw [e]
        exact below_cell B1.out hc
    go_enter Tryd.func7, Tryd.ntmps7
    go_wp2_with (at_builtin; go_must (refine wpList_append_own_at _ rfl _ _ 28 rfl w.heap.size 3 i3 (.int .i64 0) 1 8 Tryd.underlying28 hi3 hy0 hy1 hy2 rfl (by decide) _ _ _ rfl O1.out ad bs.length c (bs.map (Value.int .i64)) rfl (by simp) hnews (by simp [Value.oneCell']) (by unfold maxLen; omega) (by omega) (by simp) ?_); intro v' w1 hown' hgrow hnil hloc; have ho1 := Lib.hid hown'; have hB1 := Lib.hid (below_own B1.out O1.out hgrow); clear hown' hgrow hnil hloc)
    go_returns
    exact ⟨v', rfl, by have := ho1.out; rwa [Nat.zero_add, List.nil_append] at this, hB1.out⟩

set_option maxRecDepth 100000 in
set_option maxHeartbeats 2000000 in
theorem is_ref (l : Lw) (bs : List Int) (a : Option Addr) (c : Nat) (w : World) (ok : l.Ok) (hs : BallsAt w a bs) (hn : bs.length ≤ 45) :
    Calls Tryd.prog 20 #[l.val, .slice a bs.length c] w fun e w' => e = .returned (.bool (decide ((fol l (rec0 l) bs).2 = bs.length))) ∧ Below w.heap.size w w' := by
  have PL := Lib.hid (fun W h => play_ref l bs a c W ok h hn)
  have HS := Lib.hid hs
  have hf := (play_fol l bs (rec0 l)).1
  rw [hf]
  clear hf hs
  unfold Lw.val St.val at *
  obtain ⟨t, ht⟩ : ∃ t, Hid (refS l (playS l (begS l) bs) = t) := ⟨_, Lib.hid rfl⟩
  rw [ht.out] at PL
  have e0 : (rec0 l).s = begS l := rfl
  rw [e0]
  obtain ⟨N, hN⟩ : ∃ N, Hid ((playL l (begS l) bs).length = N) := ⟨_, Lib.hid rfl⟩
  rw [hN.out] at PL ⊢
  go_enter Tryd.func20, Tryd.ntmps20
  go_wp2_with fail
  refine (PL.out _ (HS.out.lo (below_al w _))).mono ?_
  rintro e w1 ⟨v, rfl, ⟨base, ho, hb0⟩, hb1⟩
  obtain ⟨va, vc, rfl⟩ : ∃ va vc, v = .slice va N vc := by
    rcases ho.2 with ⟨h1, h0⟩ | ⟨g, cap, cur, hv, _⟩
    · exact ⟨none, 0, by rw [h1, h0]⟩
    · exact ⟨_, _, hv⟩
  have HB := Lib.hid ((below_al w (.cells #[.int .i64 l.fr, .int .i64 l.pn, .int .i64 l.bl, .int .i64 l.tp] 23)).trans (hb1.mono (below_al w (.cells #[.int .i64 l.fr, .int .i64 l.pn, .int .i64 l.bl, .int .i64 l.tp] 23)).size))
  clear ho hb0 hb1
  by_cases he : N = bs.length
  · have heb : ((N : Int) == (bs.length : Int)) = true := by simp [he]
    go_wp2_with fail
    go_ret
    exact ⟨by simp [he], HB.out.alloc HB.out.size _⟩
  · have heb : ((N : Int) == (bs.length : Int)) = false := by simpa using fun h => he (by omega)
    go_wp2_with fail
    go_ret
    exact ⟨by simp [he], HB.out.alloc HB.out.size _⟩

end Go.Proofs.YtmjbidnlknmcgabDoor
