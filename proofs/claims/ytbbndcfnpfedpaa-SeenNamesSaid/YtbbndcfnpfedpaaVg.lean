/- The contract of explained. -/
import Derived.Test.YtbbndcfnpfedpaaVf
set_option linter.unusedVariables false
set_option linter.unusedSimpArgs false
namespace Go.Proofs.Ytbbndcfnpfedpaa
open Go.RowKit Go.Shelf Go.Maps

attribute [local go_sem] Oper.semAt_some

theorem gofE_ref (l : Lan) (ts : List Int) : gofE l ts = if chkE l ts = 0 then (if explB l ts = true then 0 else 9) else chkE l ts := by
  unfold gofE explB
  by_cases h : chkE l ts = 0
  · simp [h]
  · simp [h]

set_option maxHeartbeats 4000000 in
theorem explained_any (l : Lan) (ts : List Int) (ta : Option Addr) (tc : Nat) (w : World) (hL : WdsAt w l.wa l.ws) (hn : l.ws.length ≤ 1000) (hX : IntsAt w ta ts) (hm : ts.length ≤ 1000) :
    Calls Try.prog 27 #[l.val, .slice ta ts.length tc] w fun e w' => e = .returned (.int .i64 (gofE l ts)) ∧ Below w.heap.size w w' := by
  have AK := Lib.hid (fun W (hb : Below w.heap.size w W) => asked_any l ts ta tc W (hL.lo hb) hn (hX.lo hb) hm)
  have ER := Lib.hid (fun (hc : chkE l ts = 0) W (hb : Below w.heap.size w W) => explains_ref l ts ta tc W (hL.lo hb) (hX.lo hb) hm hc)
  have X := Lib.hid (BX.mk' l w)
  have HE := Lib.hid (gofE_ref l ts)
  generalize gofE l ts = G at *
  generalize chkE l ts = E at *
  generalize explB l ts = B at *
  unfold Lan.val at *
  clear hL hn hX hm
  go_enter Try.func27, Try.ntmps27
  go_wp2_with fail
  generalize w.alloc _ = W0 at X ⊢
  have k0 := X.out.b.cell 0 (show _ = some (Value.int .i64 l.fs) from rfl)
  have k1 := X.out.b.cell 1 (show _ = some (Value.slice l.wa l.ws.length l.wc) from rfl)
  go_wp2_with fail
  refine (AK.out _ X.out.bl).mono ?_
  rintro e w1 ⟨rfl, hb⟩
  replace X := Lib.hid (X.out.lo hb)
  clear hb k0 k1
  by_cases hE : E = 0
  · subst hE
    have ER2 := Lib.hid (ER.out rfl)
    clear ER
    have k0 := X.out.b.cell 0 (show _ = some (Value.int .i64 l.fs) from rfl)
    have k1 := X.out.b.cell 1 (show _ = some (Value.slice l.wa l.ws.length l.wc) from rfl)
    go_wp2_with fail
    refine (ER2.out _ X.out.bl).mono ?_
    rintro e w2 ⟨rfl, hb⟩
    replace X := Lib.hid (X.out.lo hb)
    clear hb k0 k1
    cases B
    · have HE3 := Lib.hid (show G = 9 from HE.out)
      go_wp2_with fail
      go_returns
      exact ⟨by rw [HE3.out]; first | done | rfl, X.out.bl⟩
    · have HE3 := Lib.hid (show G = 0 from HE.out)
      go_wp2_with fail
      go_returns
      exact ⟨by rw [HE3.out]; first | done | rfl, X.out.bl⟩
  · have hE2 : (E == 0) = false := by simpa using hE
    have HE3 := Lib.hid (show G = E by rw [HE.out, if_neg hE])
    clear hE ER
    go_wp2_with fail
    go_returns
    exact ⟨by rw [HE3.out]; first | done | rfl, X.out.bl⟩

end Go.Proofs.Ytbbndcfnpfedpaa
