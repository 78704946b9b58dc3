/- The contract of the reference's Fault: it is faultW. -/
import Derived.Test.YtbbndcfnpfedpaaSc
set_option linter.unusedVariables false
set_option linter.unusedSimpArgs false
namespace Go.Proofs.Ytbbndcfnpfedpaa
open Go.RowKit

attribute [local go_sem] Oper.semAt_some

theorem faultW_out {l : Lan} {x : Wd} (hn : ¬ 30 < l.ws.length) (hx : x ∈ l.ws) (h : wrongW l.fs x = true) : faultW l = 1 := by
  have h1 : validW l = false := by
    unfold validW
    rw [List.any_eq_true.2 ⟨x, hx, h⟩]
    simp
  unfold faultW
  rw [if_neg hn, if_neg (by rw [h1]; decide)]
theorem faultW_in {l : Lan} (hn : ¬ 30 < l.ws.length) (hf : inB l.fs 1 5 = true) (h : ∀ x ∈ l.ws, wrongW l.fs x = false) : faultW l = 0 := by
  have h1 : validW l = true := by
    unfold validW
    rw [hf, show l.ws.any (wrongW l.fs) = false from List.any_eq_false.2 fun x hx => by simp [h x hx]]
    rfl
  unfold faultW
  rw [if_neg hn, if_pos h1]

set_option maxRecDepth 100000 in
set_option maxHeartbeats 8000000 in
theorem refFault_any (l : Lan) (w : World) (hL : WdsAt w l.wa l.ws) (hn : l.ws.length ≤ 1000) :
    Calls Try.prog 54 #[l.val] w fun e w' => e = .returned (.int .i64 (faultW l)) ∧ Below w.heap.size w w' := by
  have WI := Lib.hid (fun n a b W => refIn_any n a b W)
  have HL := Lib.hid hL
  have HO := Lib.hid (fun x => @faultW_out l x)
  have HI := Lib.hid (@faultW_in l)
  have H3 := Lib.hid (show 30 < l.ws.length → faultW l = 3 from fun h => by unfold faultW; rw [if_pos h])
  have H1 := Lib.hid (show ¬ 30 < l.ws.length → inB l.fs 1 5 = false → faultW l = 1 from fun h h2 => by unfold faultW validW; rw [if_neg h, h2]; rfl)
  generalize faultW l = R at *
  clear hL
  obtain ⟨fs, wa, wc, ws⟩ := l
  unfold Lan.val at *
  simp only at *
  have B0 := Lib.hid (below_al w (.cells #[.int .i64 fs, .slice wa ws.length wc] 24))
  have K0 := Lib.hid (Blk.new w #[.int .i64 fs, .slice wa ws.length wc] 24)
  by_cases h30 : 30 < ws.length
  · have hz : (30 : Int) < (ws.length : Int) := by omega
    have HR := Lib.hid (H3.out h30)
    clear h30
    go_enter Try.func54, Try.ntmps54
    go_wp2_with fail
    go_returns
    exact ⟨by rw [HR.out]; first | done | rfl, B0.out⟩
  · have hz : ¬ (30 : Int) < (ws.length : Int) := by omega
    have H30 := Lib.hid h30
    clear h30
    go_enter Try.func54, Try.ntmps54
    go_wp2_with fail
    refine (WI.out _ _ _ _).mono ?_
    rintro e w1 ⟨rfl, rfl⟩
    cases hf : inB fs 1 5
    · have HR := Lib.hid (H1.out H30.out hf)
      clear hf
      go_wp2_with fail
      go_returns
      exact ⟨by rw [HR.out]; first | done | rfl, B0.out⟩
    · have HF := Lib.hid hf
      have hfb := inB_iff.1 hf
      have ew : IntKind.i64.wrap (fs - 1) = fs - 1 := IntWalk.i64_in _ (by omega)
      clear hf hfb hz
      go_wp2_with fail
      go_loopg [3] ws.length (fun g s3 wx => ∃ (i : Nat), i ≤ ws.length ∧ g = ws.length - i ∧ s3 = .int .i64 (i : Int) ∧ Hid (∀ x ∈ ws.take i, wrongW fs x = false) ∧ Hid (Below w.heap.size w wx) ∧ Hid (Blk wx w.heap.size #[.int .i64 fs, .slice wa ws.length wc] 24))
      case atStart => exact ⟨0, by omega, by omega, rfl, Lib.hid (by simp), B0, K0⟩
      case round =>
        obtain ⟨i, hi', rfl, rfl, hP, hB, hK⟩ := hrel
        clear B0 K0
        have p0 := hK.out.cell 0 (show _ = some (Value.int .i64 fs) from rfl)
        have p1 := hK.out.cell 1 (show _ = some (Value.slice wa ws.length wc) from rfl)
        by_cases hlt : i < ws.length
        · obtain ⟨x, hx⟩ : ∃ x, ws[i]? = some x := ⟨ws[i]'hlt, List.getElem?_eq_getElem _⟩
          obtain ⟨g, o, rfl, k1, k2, k3, k4, k5⟩ := HL.out _ _ hx
          have hz0 : (0 : Int) ≤ (i : Int) := by omega
          have hz1 : (i : Int) < (ws.length : Int) := by omega
          have c1 := cell_lo hB.out k1
          have c2 := cell_lo hB.out k2
          have c3 := cell_lo hB.out k3
          have c4 := cell_lo hB.out k4
          have c5 := cell_lo hB.out k5
          have HXI := Lib.hid hx
          have HW := Lib.hid (show wrongW fs x = (!(inB x.fr 0 (fs - 1)) || (!(inB x.ba 0 1) || (!(inB x.te 0 3) || (!(inB x.le 0 x.mo) || decide (10 < x.mo))))) from rfl)
          have HQ1 := Lib.hid (fun h => HO.out x H30.out (List.mem_of_getElem? HXI.out) h)
          have HQ0 : Hid (wrongW fs x = false → ∀ x ∈ ws.take (i + 1), wrongW fs x = false) := Lib.hid fun h => by
            rw [take_next HXI.out]
            intro y hy
            rcases List.mem_append.1 hy with h' | h'
            · exact hP.out y h'
            · obtain rfl : y = x := by simpa using h'
              exact h
          clear hx k1 k2 k3 k4 k5 hP
          obtain ⟨fr, ba, te, le, mo⟩ := x
          simp only at c1 c2 c3 c4 c5 HW
          generalize wrongW fs ⟨fr, ba, te, le, mo⟩ = WR at *
          have BR := Lib.hid (below_al2 hB.out (.cells #[.int .i64 fr, .int .i64 ba, .int .i64 te, .int .i64 le, .int .i64 mo] 81))
          have KR := Lib.hid (Blk.alt (p := fun _ => False) hK.out ((Alt.refl _ _).alloc (.cells #[.int .i64 fr, .int .i64 ba, .int .i64 te, .int .i64 le, .int .i64 mo] 81)) id)
          have p2 := KR.out.cell 0 (show _ = some (Value.int .i64 fs) from rfl)
          go_wp2_with fail
          refine (WI.out _ _ _ _).mono ?_
          rintro e w1 ⟨rfl, rfl⟩
          generalize inB fr 0 (fs - 1) = A at *
          clear p0
          cases A
          · have HR := Lib.hid (HQ1.out (by rw [HW.out]; rfl))
            clear c1 c2 c3 c4 c5 p1
            go_wp2_with fail
            go_returns
            exact ⟨by rw [HR.out]; first | done | rfl, BR.out⟩
          · go_wp2_with fail
            refine (WI.out _ _ _ _).mono ?_
            rintro e w1 ⟨rfl, rfl⟩
            generalize inB ba 0 1 = B at *
            cases B
            · have HR := Lib.hid (HQ1.out (by rw [HW.out]; rfl))
              go_wp2_with fail
              go_returns
              exact ⟨by rw [HR.out]; first | done | rfl, BR.out⟩
            · go_wp2_with fail
              refine (WI.out _ _ _ _).mono ?_
              rintro e w1 ⟨rfl, rfl⟩
              generalize inB te 0 3 = C at *
              cases C
              · have HR := Lib.hid (HQ1.out (by rw [HW.out]; rfl))
                go_wp2_with fail
                go_returns
                exact ⟨by rw [HR.out]; first | done | rfl, BR.out⟩
              · go_wp2_with fail
                refine (WI.out _ _ _ _).mono ?_
                rintro e w1 ⟨rfl, rfl⟩
                generalize inB le 0 mo = D at *
                cases D
                · have HR := Lib.hid (HQ1.out (by rw [HW.out]; rfl))
                  go_wp2_with fail
                  go_returns
                  exact ⟨by rw [HR.out]; first | done | rfl, BR.out⟩
                · by_cases hmo : 10 < mo
                  · have HR := Lib.hid (HQ1.out (by rw [HW.out]; simp [hmo]))
                    go_wp2_with fail
                    go_returns
                    exact ⟨by rw [HR.out]; first | done | rfl, BR.out⟩
                  · have P2 := Lib.hid (HQ0.out (by rw [HW.out]; simp [hmo]))
                    clear c1 c2 c3 c4 c5 p2 p1
                    go_wp2_with fail
                    go_roundg (ws.length - (i + 1))
                    case measure => omega
                    case rel => exact ⟨i + 1, by omega, rfl, by simp, P2, BR, KR⟩
        · have hz1 : ¬ (i : Int) < (ws.length : Int) := by omega
          have HR := Lib.hid (HI.out H30.out HF.out (by
            have := hP.out
            rwa [List.take_of_length_le (by omega)] at this))
          clear hP hlt
          go_wp2_with fail
          go_returns
          exact ⟨by rw [HR.out]; first | done | rfl, hB.out⟩

end Go.Proofs.Ytbbndcfnpfedpaa
