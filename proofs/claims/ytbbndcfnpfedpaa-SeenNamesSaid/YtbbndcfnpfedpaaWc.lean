/- The reference's Blame. -/
import Derived.Test.YtbbndcfnpfedpaaWa
set_option linter.unusedVariables false
set_option linter.unusedSimpArgs false
namespace Go.Proofs.Ytbbndcfnpfedpaa
open Go.RowKit Go.Shelf Go.Maps

attribute [local go_sem] Oper.semAt_some

/-- The tellers who alone, left out, leave words that are explained, of the first i. -/
def aloneL (l : Lan) (i : Nat) : List Int := (([0, 1, 2, 3] : List Int).take i).filter fun n => explB l [n]
def blameN (l : Lan) : Int := if explB l [] = true then -1 else if (aloneL l 4).length = 1 then (aloneL l 4).getLast?.getD (-1) else -1
theorem four_at {i : Nat} (hi : i < 4) : ([0, 1, 2, 3] : List Int)[i]? = some (i : Int) := by
  have h4 : i = 0 ∨ i = 1 ∨ i = 2 ∨ i = 3 := by omega
  rcases h4 with rfl | rfl | rfl | rfl <;> rfl
theorem aloneL_yes {l : Lan} {i : Nat} (hi : i < 4) (h : explB l [(i : Int)] = true) : aloneL l (i + 1) = aloneL l i ++ [(i : Int)] := by
  unfold aloneL
  rw [take_next (four_at hi), List.filter_append]
  congr 1
  rw [List.filter_cons, if_pos h]; rfl
theorem aloneL_no {l : Lan} {i : Nat} (hi : i < 4) (h : explB l [(i : Int)] = false) : aloneL l (i + 1) = aloneL l i := by
  unfold aloneL
  rw [take_next (four_at hi), List.filter_append, List.filter_cons, if_neg (by rw [h]; simp)]
  simp
theorem aloneL_len (l : Lan) (i : Nat) : (aloneL l i).length ≤ 4 := by
  unfold aloneL
  refine Nat.le_trans (List.length_filter_le _ _) ?_
  rw [List.length_take]; simp; omega

set_option maxRecDepth 100000 in
set_option maxHeartbeats 4000000 in
theorem refBlame_any (l : Lan) (w : World) (hL : WdsAt w l.wa l.ws) (hF : faultW l = 0) :
    Calls Try.prog 36 #[l.val] w fun e w' => e = .returned (.int .i64 (blameN l)) ∧ Below w.heap.size w w' := by
  have E0 := Lib.hid (fun W (hb : Below w.heap.size w W) => (show Calls Try.prog 25 #[l.val, .slice none 0 0] W (fun e w' => e = .returned (.bool (explB l [])) ∧ Below W.heap.size W w') from
    explains_ref l [] none 0 W (hL.lo hb) (fun i v h => by simp at h) (by simp) (chkE_ok hF rfl)))
  have E1 := Lib.hid (fun (i : Nat) (hi : i < 4) (g : Nat) W (hb : Below w.heap.size w W) (hX : IntsAt W (some ⟨g, 0, none⟩) [(i : Int)]) => (show Calls Try.prog 25 #[l.val, .slice (some ⟨g, 0, none⟩) 1 1] W (fun e w' => e = .returned (.bool (explB l [(i : Int)])) ∧ Below W.heap.size W w') from
    explains_ref l [(i : Int)] (some ⟨g, 0, none⟩) 1 W (hL.lo hb) hX (by simp) (chkE_ok hF (by
      have h4 : i = 0 ∨ i = 1 ∨ i = 2 ∨ i = 3 := by omega
      rcases h4 with rfl | rfl | rfl | rfl <;> decide))))
  have X := Lib.hid (BX.mk' l w)
  have AY := Lib.hid (fun i (hi : i < 4) h => aloneL_yes (l := l) hi h)
  have AN := Lib.hid (fun i (hi : i < 4) h => aloneL_no (l := l) hi h)
  have AL := Lib.hid (fun i => aloneL_len l i)
  have A0 := Lib.hid (show aloneL l 0 = [] from rfl)
  have HB : Hid (blameN l = if explB l [] = true then -1 else if (aloneL l 4).length = 1 then (aloneL l 4).getLast?.getD (-1) else -1) := Lib.hid rfl
  generalize blameN l = N at *
  unfold Lan.val at *
  clear hL hF
  go_enter Try.func36, Try.ntmps36
  go_wp2_with fail
  generalize w.alloc _ = W0 at X ⊢
  have k0 := X.out.b.cell 0 (show _ = some (Value.int .i64 l.fs) from rfl)
  have k1 := X.out.b.cell 1 (show _ = some (Value.slice l.wa l.ws.length l.wc) from rfl)
  go_wp2_with fail
  refine (E0.out _ X.out.bl).mono ?_
  rintro e w1 ⟨rfl, hb⟩
  replace X := Lib.hid (X.out.lo hb)
  clear hb k0 k1 E0
  cases hE0 : explB l []
  · have HB2 : Hid (N = if (aloneL l 4).length = 1 then (aloneL l 4).getLast?.getD (-1) else -1) := Lib.hid (by rw [HB.out, hE0]; rfl)
    clear HB hE0
    go_wp2_with fail
    go_loopg [3, 4, 5] 4 (fun g s3 s4 s5 wx => ∃ i : Nat, i ≤ 4 ∧ g = 4 - i ∧ s5 = .int .i64 (i : Int) ∧ s4 = .int .i64 (((aloneL l i).length : Nat) : Int) ∧ s3 = .int .i64 ((aloneL l i).getLast?.getD (-1)) ∧ Hid (BX l w wx))
    case atStart => exact ⟨0, by omega, by omega, rfl, by rw [A0.out]; rfl, by rw [A0.out]; rfl, X⟩
    case round =>
      obtain ⟨i, hi, rfl, rfl, rfl, rfl, hX⟩ := hrel
      clear X
      by_cases hlt : i < 4
      · have hz1 : (i : Int) < 4 := by omega
        have e2 : IntKind.i64.wrap ((i : Int) + 1) = (i : Int) + 1 := IntWalk.i64_in _ (by omega)
        have HI := Lib.hid hlt
        have k0 := hX.out.b.cell 0 (show _ = some (Value.int .i64 l.fs) from rfl)
        have k1 := hX.out.b.cell 1 (show _ = some (Value.slice l.wa l.ws.length l.wc) from rfl)
        have BA := Lib.hid (below_al wr (.cells #[.int .i64 (i : Int)] 3))
        have XA := Lib.hid (hX.out.lo BA.out)
        have C1 := Lib.hid (E1.out i hlt wr.heap.size (wr.alloc (.cells #[.int .i64 (i : Int)] 3)) XA.out.bl (fun j v hj => by
          match j, hj with
          | 0, hj =>
            simp at hj
            subst hj
            exact ⟨wr.heap.size, 0, rfl, (Blk.new wr #[.int .i64 (i : Int)] 3).cell 0 rfl⟩))
        have E2 := Lib.hid e2
        clear hlt hi e2
        go_wp2_with fail
        refine C1.out.mono ?_
        rintro e w2 ⟨rfl, hb⟩
        have XN := Lib.hid (XA.out.lo hb)
        have e2 := E2.out
        clear hb C1 XA BA k0 k1 hX
        cases hEi : explB l [(i : Int)]
        · have HNX := Lib.hid (AN.out i HI.out hEi)
          clear hEi
          go_wp2_with fail
          go_roundg (4 - (i + 1))
          case measure => have := HI.out; omega
          case rel => exact ⟨i + 1, by have := HI.out; omega, rfl, by simp, by rw [HNX.out], by rw [HNX.out], XN⟩
        · have HNX := Lib.hid (AY.out i HI.out hEi)
          have hl4 := AL.out i
          have e3 : IntKind.i64.wrap (((aloneL l i).length : Int) + 1) = ((aloneL l i).length : Int) + 1 := IntWalk.i64_in _ (by omega)
          clear hEi hl4
          go_wp2_with fail
          go_roundg (4 - (i + 1))
          case measure => have := HI.out; omega
          case rel => exact ⟨i + 1, by have := HI.out; omega, rfl, by simp, by rw [HNX.out]; simp, by rw [HNX.out]; simp, XN⟩
      · have hz1 : ¬ (i : Int) < 4 := by omega
        obtain rfl : i = 4 := by omega
        by_cases h1 : (aloneL l 4).length = 1
        · have hb1 : ((((aloneL l 4).length : Nat) : Int) != 1) = false := by rw [h1]; rfl
          have HB3 := Lib.hid (show N = (aloneL l 4).getLast?.getD (-1) by rw [HB2.out, if_pos h1])
          rw [h1]
          clear h1
          go_wp2_with fail
          go_returns
          exact ⟨by rw [HB3.out]; first | done | rfl, hX.out.bl⟩
        · have hb1 : ((((aloneL l 4).length : Nat) : Int) != 1) = true := by simp; omega
          have HB3 := Lib.hid (show N = -1 by rw [HB2.out, if_neg h1])
          clear h1
          go_wp2_with fail
          go_returns
          exact ⟨by rw [HB3.out]; first | done | rfl, hX.out.bl⟩
  · have HB3 := Lib.hid (show N = -1 by rw [HB.out, hE0]; rfl)
    clear HB hE0
    go_wp2_with fail
    go_returns
    exact ⟨by rw [HB3.out]; first | done | rfl, X.out.bl⟩

end Go.Proofs.Ytbbndcfnpfedpaa
