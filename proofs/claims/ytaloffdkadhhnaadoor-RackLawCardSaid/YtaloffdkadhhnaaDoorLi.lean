/- The contract of the law's list. -/
import Derived.Test.YtaloffdkadhhnaaDoorAw
import Derived.Deep.DeepMust
set_option linter.unusedVariables false
set_option linter.unusedSimpArgs false
namespace Go.Proofs.YtaloffdkadhhnaaDoor
open Go.RowKit

attribute [local go_sem] Oper.semAt_some

theorem below_own {w W W' : World} {v : Value} {n : Nat} {e : TypeId} {xs : List Value} (hB : Below w.heap.size w W) (ho : W.ownsRow w.heap.size e 1 v n xs) (hg : W.grownBy W' v.ownBlock) : Below w.heap.size w W' :=
  hB.grown hg hB.size (fun k e => (ho.lt k e).1)

set_option maxRecDepth 100000 in
set_option maxHeartbeats 2000000 in
theorem lawlist_any (bs : List Int) (a : Option Addr) (c : Nat) (w : World) (hs : IntsAt w a bs) (h0 : a = none → bs = [] ∧ c = 0) (hn : bs.length ≤ 1000) :
    Calls Tryd.prog 20 #[.slice a bs.length c] w fun e w' => ∃ v, e = .returned v ∧ w'.ownsRow w.heap.size 3 1 v bs.length (bs.map (Value.int .i64)) ∧ Below w.heap.size w w' := by
  have HS := Lib.hid hs
  have H0 := Lib.hid h0
  clear hs h0
  obtain ⟨i3, hi3, hy0, hy1, hy2⟩ := info_parts info3
  have O1 : Hid (w.ownsRow w.heap.size 3 1 (.slice none 0 0) 0 []) := Lib.hid ⟨rfl, .inl ⟨rfl, rfl⟩⟩
  have B1 := Lib.hid (Below.refl w.heap.size w)
  cases a with
  | none =>
    obtain ⟨rfl, rfl⟩ := H0.out rfl
    simp only [List.length_nil]
    go_enter Tryd.func20, Tryd.ntmps20
    go_wp2_with (at_builtin; refine wpList_append_none _ rfl _ _ 25 rfl w.heap.size 3 i3 1 Tryd.underlying25 hi3 _ _ _ rfl O1.out rfl ?_)
    go_returns
    exact ⟨_, rfl, O1.out, B1.out⟩
  | some ad =>
    have hnews : ∀ j u, (bs.map (Value.int .i64))[j]? = some u → w.cell? (ad.add j) = some u := by
      intro j u hj
      rw [List.getElem?_map] at hj
      cases hx : bs[j]? with
      | none => rw [hx] at hj; cases hj
      | some x =>
        rw [hx] at hj
        cases hj
        obtain ⟨g', o', e, hc⟩ := HS.out j x hx
        cases e
        have e : (⟨g', o', none⟩ : Addr).add j = ⟨g', o' + j, none⟩ := by unfold Addr.add; split <;> simp_all
        rw [e]
        exact hc
    go_enter Tryd.func20, Tryd.ntmps20
    go_wp2_with (at_builtin; go_must (refine wpList_append_own_at _ rfl _ _ 25 rfl w.heap.size 3 i3 (.int .i64 0) 1 8 Tryd.underlying25 hi3 hy0 hy1 hy2 rfl (by decide) _ _ _ rfl O1.out ad bs.length c (bs.map (Value.int .i64)) rfl (by simp) hnews (by simp [Value.oneCell']) (by unfold maxLen; omega) (by omega) (by simp) ?_); intro v' w1 hown' hgrow hnil hloc; have ho1 := Lib.hid hown'; have hB1 := Lib.hid (below_own B1.out O1.out hgrow); clear hown' hgrow hnil hloc)
    go_returns
    exact ⟨v', rfl, by have := ho1.out; rwa [Nat.zero_add, List.nil_append] at this, hB1.out⟩

end Go.Proofs.YtaloffdkadhhnaaDoor
