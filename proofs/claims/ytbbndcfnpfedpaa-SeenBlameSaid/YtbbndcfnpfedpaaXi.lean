/- The contract of the reference's IsGame, and what ProveGame has to do with it. -/
import Derived.Test.YtbbndcfnpfedpaaXh
import Derived.Test.YtbbndcfnpfedpaaVe
set_option linter.unusedVariables false
set_option linter.unusedSimpArgs false
namespace Go.Proofs.Ytbbndcfnpfedpaa
open Go.RowKit Go.Shelf

attribute [local go_sem] Oper.semAt_some

def isgTo (G : List (List Int)) (i : Nat) : Bool := (List.range i).all fun (f : Nat) => (rollV (G.getD f [])).2
def isgB (fs : Int) (G : List (List Int)) : Bool := decide ((G.length : Int) = fs) && isgTo G G.length
theorem isgTo_next {G : List (List Int)} {i : Nat} {row : List Int} (h : G[i]? = some row) : isgTo G (i + 1) = (isgTo G i && (rollV row).2) := by
  unfold isgTo
  rw [List.range_succ, List.all_append]
  simp [List.getD_eq_getElem?_getD, h]
theorem isgTo_no {G : List (List Int)} {i n : Nat} {row : List Int} (h : G[i]? = some row) (hr : (rollV row).2 = false) (hn : i < n) : isgTo G n = false := by
  cases e : isgTo G n with
  | false => rfl
  | true =>
    unfold isgTo at e
    have := List.all_eq_true.1 e i (List.mem_range.2 hn)
    simp [List.getD_eq_getElem?_getD, h, hr] at this
theorem roll_out {x : Int} {r : List Int} (h : inB x 0 10 = false) : (rollV (x :: r)).2 = false := by
  have h0 : ¬ (0 ≤ x ∧ x ≤ 10) := fun h2 => by rw [inB_iff.2 h2] at h; cases h
  match r with
  | [] =>
    show (if x = 10 then (((0 : Int), (0 : Int)), true) else ((0, 0), false)).2 = false
    rw [if_neg (by omega)]
  | [y] =>
    show (if (inB x 0 9 && inB y 0 (10 - x)) = true then ((10 - x, 10 - x - y), true) else ((0, 0), false)).2 = false
    rw [if_neg]
    intro hh
    have := inB_iff.1 (Bool.and_eq_true_iff.1 hh).1
    omega
  | y :: z :: r => rfl
theorem roll_ten1 : (rollV [10]).2 = true := rfl
theorem roll_ten2 {r : List Int} (h : r ≠ []) : (rollV (10 :: r)).2 = false := by
  match r, h with
  | [], h => exact absurd rfl h
  | [y], _ => rfl
  | y :: z :: r, _ => rfl
theorem roll_one {x : Int} (h : x ≠ 10) : (rollV [x]).2 = false := by
  show (if x = 10 then (((0 : Int), (0 : Int)), true) else ((0, 0), false)).2 = false
  rw [if_neg h]
theorem roll_two {x y : Int} (hx : inB x 0 10 = true) (h : x ≠ 10) : (rollV [x, y]).2 = inB y 0 (10 - x) := by
  show (if (inB x 0 9 && inB y 0 (10 - x)) = true then ((10 - x, 10 - x - y), true) else ((0, 0), false)).2 = _
  have h9 : inB x 0 9 = true := inB_iff.2 (by have := inB_iff.1 hx; omega)
  rw [h9]
  cases inB y 0 (10 - x) <;> rfl

set_option maxRecDepth 100000 in
set_option maxHeartbeats 8000000 in
theorem isGame_ref (l : Lan) (G : List (List Int)) (ga : Option Addr) (gc : Nat) (w : World) (hG : GAt w ga G) (hg : G.length ≤ 1000) :
    Calls Try.prog 37 #[l.val, .slice ga G.length gc] w fun e w' => e = .returned (.bool (isgB l.fs G)) ∧ Below w.heap.size w w' := by
  have HG := Lib.hid hG
  have HGN := Lib.hid hg
  have X := Lib.hid (BX.mk' l w)
  have IN := Lib.hid (fun n a b W => refIn_any n a b W)
  have HPB : Hid (isgB l.fs G = (decide ((G.length : Int) = l.fs) && isgTo G G.length)) := Lib.hid rfl
  have PN := Lib.hid (fun i row h => isgTo_next (G := G) (i := i) (row := row) h)
  have PNO := Lib.hid (fun i row h hr hn => isgTo_no (G := G) (i := i) (n := G.length) (row := row) h hr hn)
  have P0 := Lib.hid (show isgTo G 0 = true from rfl)
  obtain ⟨n, hnn⟩ : ∃ n, Hid (n = G.length) := ⟨_, Lib.hid rfl⟩
  rw [← hnn.out] at HPB HGN PNO ⊢
  generalize isgB l.fs G = PB at *
  unfold Lan.val at *
  clear hG hg
  go_enter Try.func37, Try.ntmps37
  have k0 := X.out.b.cell 0 (show _ = some (Value.int .i64 l.fs) from rfl)
  by_cases hF : (n : Int) = l.fs
  · have hF1 : ((n : Int) != l.fs) = false := by simpa using hF
    have HPB3 := Lib.hid (show PB = isgTo G n by rw [HPB.out, decide_eq_true hF]; simp)
    clear hF HPB
    go_wp2_with fail
    generalize w.alloc _ = W0 at X k0 ⊢
    clear k0
    go_loopg [5] n (fun g s5 wx => ∃ i : Nat, i ≤ n ∧ g = n - i ∧ s5 = .int .i64 (i : Int) ∧ Hid (isgTo G i = true) ∧ Hid (BX l w wx))
    case atStart => exact ⟨0, by omega, by omega, rfl, P0, X⟩
    case round =>
      obtain ⟨i, hi, rfl, rfl, hP, hX⟩ := hrel
      clear X
      by_cases hlt : i < n
      · have hz1 : (i : Int) < (n : Int) := by omega
        have hz0 : (0 : Int) ≤ (i : Int) := by omega
        have e2 : IntKind.i64.wrap ((i : Int) + 1) = (i : Int) + 1 := IntWalk.i64_in _ (by have := HGN.out; omega)
        have HI := Lib.hid hlt
        have E2 := Lib.hid e2
        obtain ⟨row, hrow⟩ : ∃ row, G[i]? = some row := ⟨G[i]'(by have := hnn.out; omega), List.getElem?_eq_getElem _⟩
        obtain ⟨g, o, a', c', rfl, q1, q2⟩ := HG.out i row hrow
        replace q1 := cell_lo hX.out.bl q1
        replace q2 := q2.lo hX.out.bl
        have HNX := Lib.hid (PN.out i row hrow)
        have HNO := Lib.hid (fun h => PNO.out i row hrow h hlt)
        have HYES := Lib.hid (show (rollV row).2 = true → isgTo G (i + 1) = true from fun h => by rw [HNX.out, hP.out, h]; rfl)
        clear hlt hi hrow e2 HNX
        rcases row with _ | ⟨x, r⟩
        · have HN2 := Lib.hid (HNO.out rfl)
          clear q2
          simp only [List.length_nil] at q1
          go_wp2_with fail
          have hq : PB = false := by rw [HPB3.out, HN2.out]
          subst hq
          go_returns
          exact ⟨rfl, hX.out.bl⟩
        · obtain ⟨ga', go', rfl, c1⟩ := q2 0 x rfl
          simp only [Nat.add_zero] at c1
          have HC2 := Lib.hid q2
          obtain ⟨m, hm⟩ : ∃ m : Nat, m = (x :: r).length := ⟨_, rfl⟩
          rw [← hm] at q1
          have hmp : 0 < m := by rw [hm]; simp
          have z0 : ((m : Int) == 0) = false := by simp; omega
          have zp : (0 : Int) < (m : Int) := by omega
          have HM := Lib.hid hm
          clear q2 hm hmp
          cases hx : inB x 0 10
          · have HN2 := Lib.hid (HNO.out (roll_out hx))
            have I1 := Lib.hid (show Calls Try.prog 66 #[.int .i64 x, .int .i64 0, .int .i64 10] wr (fun e w' => e = .returned (.bool false) ∧ wr = w') by have := IN.out x 0 10 wr; rwa [hx] at this)
            clear hx
            go_wp2_with fail
            refine I1.out.mono ?_
            rintro e w2 ⟨rfl, rfl⟩
            go_wp2_with fail
            have hq : PB = false := by rw [HPB3.out, HN2.out]
            subst hq
            go_returns
            exact ⟨rfl, hX.out.bl⟩
          · have I1 := Lib.hid (show Calls Try.prog 66 #[.int .i64 x, .int .i64 0, .int .i64 10] wr (fun e w' => e = .returned (.bool true) ∧ wr = w') by have := IN.out x 0 10 wr; rwa [hx] at this)
            have HX := Lib.hid hx
            clear hx
            go_wp2_with fail
            refine I1.out.mono ?_
            rintro e w2 ⟨rfl, rfl⟩
            clear I1
            by_cases h10 : x = 10
            · subst h10
              by_cases hr : r = []
              · subst hr
                have hm1 : m = 1 := by rw [HM.out]; rfl
                subst hm1
                have HN2 := Lib.hid (HYES.out roll_ten1)
                have e2 := E2.out
                clear z0 zp
                go_wp2_with fail
                go_roundg (n - (i + 1))
                case measure => have := HI.out; omega
                case rel => exact ⟨i + 1, by have := HI.out; omega, rfl, by simp, HN2, hX⟩
              · have z1 : ((m : Int) != 1) = true := by
                  have h1 : m ≠ 1 := by
                    intro h
                    rw [HM.out] at h
                    exact hr (List.eq_nil_of_length_eq_zero (by simpa using h))
                  simp; omega
                have HN2 := Lib.hid (HNO.out (roll_ten2 hr))
                clear hr
                go_wp2_with fail
                have hq : PB = false := by rw [HPB3.out, HN2.out]
                subst hq
                go_returns
                exact ⟨rfl, hX.out.bl⟩
            · have h10b : (x == 10) = false := by simpa using h10
              have H10 := Lib.hid h10
              clear h10
              rcases r with _ | ⟨y, _ | ⟨z, r2⟩⟩
              · have hm1 : m = 1 := by rw [HM.out]; rfl
                subst hm1
                have HN2 := Lib.hid (HNO.out (roll_one H10.out))
                clear z0 zp
                have m1 := fun u : Late wr => u.cell q1 (cell_lt q1)
                go_wp2_with fail
                refine wp_region_late wr (Below.refl _ _) (by kernel_rfl) (by kernel_rfl) ?_
                repeat (go_big_quiet_step (fail))
                refine wpQuiet_nil ?_
                intro _ hw'
                obtain ⟨uq, hw''⟩ := hw'
                subst hw''
                have XU := Lib.hid (hX.out.lo uq.b)
                clear m1 q1 c1
                go_wp2_with fail
                have hq : PB = false := by rw [HPB3.out, HN2.out]
                subst hq
                go_returns
                exact ⟨rfl, XU.out.bl⟩
              · have hm1 : m = 2 := by rw [HM.out]; rfl
                subst hm1
                obtain ⟨ga2, go2, e3, c2⟩ := HC2.out 1 y rfl
                cases e3
                have HRT := Lib.hid (roll_two (y := y) HX.out H10.out)
                have IZ := Lib.hid (fun W => (show Calls Try.prog 66 #[.int .i64 y, .int .i64 0, .int .i64 (IntKind.i64.wrap (10 - x))] W (fun e w' => e = .returned (.bool (inB y 0 (10 - x))) ∧ W = w') by rw [show IntKind.i64.wrap (10 - x) = 10 - x from IntWalk.i64_in _ (by have := inB_iff.1 HX.out; omega)]; exact IN.out y 0 (10 - x) W))
                have ex : IntKind.i64.wrap (10 - x) = 10 - x := IntWalk.i64_in _ (by have := inB_iff.1 HX.out; omega)
                have IY := Lib.hid (fun W => IN.out y 0 (10 - x) W)
                clear z0 zp
                have m1 := fun u : Late wr => u.cell q1 (cell_lt q1)
                have m2 := fun u : Late wr => u.cell c1 (cell_lt c1)
                have m3 := fun u : Late wr => u.cell c2 (cell_lt c2)
                generalize inB y 0 (10 - x) = yb at *
                go_wp2_with fail
                refine wp_region_late wr (Below.refl _ _) (by kernel_rfl) (by kernel_rfl) ?_
                repeat (go_big_quiet_step ((first | (go_at_call 66; first | (with_reducible exact Calls.late_same (IY.out _)) | (with_reducible exact Calls.late_same (IZ.out _))))))
                refine wpQuiet_nil ?_
                intro _ hw'
                obtain ⟨uq, hw''⟩ := hw'
                subst hw''
                have XU := Lib.hid (hX.out.lo uq.b)
                clear m1 m2 m3 q1 c1 c2
                cases yb
                · have HN2 := Lib.hid (HNO.out HRT.out)
                  go_wp2_with fail
                  have hq : PB = false := by rw [HPB3.out, HN2.out]
                  subst hq
                  go_returns
                  exact ⟨rfl, XU.out.bl⟩
                · have HN2 := Lib.hid (HYES.out HRT.out)
                  have e2 := E2.out
                  go_wp2_with fail
                  go_roundg (n - (i + 1))
                  case measure => have := HI.out; omega
                  case rel => exact ⟨i + 1, by have := HI.out; omega, rfl, by simp, HN2, XU⟩
              · have z2 : ((m : Int) != 2) = true := by
                  have h2 : m ≠ 2 := by rw [HM.out]; simp
                  simp; omega
                have HN2 := Lib.hid (HNO.out rfl)
                have m1 := fun u : Late wr => u.cell q1 (cell_lt q1)
                go_wp2_with fail
                refine wp_region_late wr (Below.refl _ _) (by kernel_rfl) (by kernel_rfl) ?_
                repeat (go_big_quiet_step (fail))
                refine wpQuiet_nil ?_
                intro _ hw'
                obtain ⟨uq, hw''⟩ := hw'
                subst hw''
                have XU := Lib.hid (hX.out.lo uq.b)
                clear m1 q1 c1
                go_wp2_with fail
                have hq : PB = false := by rw [HPB3.out, HN2.out]
                subst hq
                go_returns
                exact ⟨rfl, XU.out.bl⟩
      · have hz1 : ¬ (i : Int) < (n : Int) := by omega
        obtain rfl : i = n := by omega
        clear hlt hi
        go_wp2_with fail
        have hq : PB = true := by rw [HPB3.out, hP.out]
        subst hq
        go_returns
        exact ⟨rfl, hX.out.bl⟩
  · have hF1 : ((n : Int) != l.fs) = true := by simpa using hF
    have hq : PB = false := by rw [HPB.out, decide_eq_false hF]; rfl
    subst hq
    clear hF
    go_wp2_with fail
    go_returns
    exact ⟨rfl, X.out.bl⟩

theorem fault_w {l : Lan} (h : faultW l = 0) : ∀ x ∈ l.ws, (0 ≤ x.fr ∧ x.fr < l.fs) ∧ (0 ≤ x.ba ∧ x.ba ≤ 1) ∧ (0 ≤ x.te ∧ x.te ≤ 3) ∧ 0 ≤ x.le ∧ x.le ≤ x.mo ∧ x.mo ≤ 10 := fun x hx => by
  have := (fault0 h).2.2.2.2 x hx
  unfold wrongW at this
  simp only [Bool.or_eq_false_iff, Bool.not_eq_false'] at this
  have e := this
  simp only [inB_iff, decide_eq_false_iff_not] at e
  omega
theorem roll_behind {row : List Int} {p q : Int} (h : rollV row = ((p, q), true)) : behN row 0 = p ∧ behN row 1 = q ∧ row.length ≤ 2 ∧ ∀ x ∈ row, 0 ≤ x ∧ x ≤ 10 := by
  match row with
  | [] => cases h
  | [x] =>
    have h2 : (if x = 10 then (((0 : Int), (0 : Int)), true) else ((0, 0), false)) = ((p, q), true) := h
    by_cases e : x = 10
    · subst e
      rw [if_pos rfl] at h2
      cases h2
      refine ⟨by decide, by decide, by simp, fun y hy => ?_⟩
      obtain rfl : y = 10 := by simpa using hy
      omega
    · rw [if_neg e] at h2; cases h2
  | [x, y] =>
    have h2 : (if (inB x 0 9 && inB y 0 (10 - x)) = true then ((10 - x, 10 - x - y), true) else ((0, 0), false)) = ((p, q), true) := h
    by_cases e : (inB x 0 9 && inB y 0 (10 - x)) = true
    · rw [if_pos e] at h2
      cases h2
      have e1 := inB_iff.1 (Bool.and_eq_true_iff.1 e).1
      have e2 := inB_iff.1 (Bool.and_eq_true_iff.1 e).2
      refine ⟨by simp [behN], by simp [behN]; omega, by simp, fun z hz => ?_⟩
      rcases List.mem_cons.1 hz with rfl | hz
      · omega
      · obtain rfl : z = y := by simpa using hz
        omega
    · rw [if_neg e] at h2; cases h2
  | x :: y :: z :: r => cases h

/-- ProveGame tells what the reference asks. -/
theorem prove_math {l : Lan} {ts : List Int} {G : List (List Int)} (hc : chkE l ts = 0) : provB l ts G = (isgB l.fs G && fitsR l.ws ts G) := by
  have hF := (chkE_zero hc).1
  obtain ⟨h1, h2, h3⟩ := fault0 hF
  have hba := fault_ba hF
  unfold provB isgB
  rw [decide_eq_true hc, Bool.true_and]
  by_cases hn : (G.length : Int) = l.fs
  · rw [decide_eq_true hn, Bool.true_and, Bool.true_and]
    rw [Bool.eq_iff_iff]
    unfold provTo isgTo fitsR
    rw [Bool.and_eq_true, List.all_eq_true, List.all_eq_true, List.all_eq_true]
    have hfr : ∀ x ∈ l.ws, 0 ≤ x.fr ∧ x.fr < l.fs := fun x hx => (fault_w hF x hx).1
    constructor
    · intro h
      refine ⟨fun f hf => ?_, fun x hx => ?_⟩
      · have := h f hf
        unfold rollB at this
        exact (Bool.and_eq_true_iff.1 this).1
      · cases ho : hasI ts x.te with
        | true => exact fitR_out ho
        | false =>
          have hb := hba x hx
          have hf0 := hfr x hx
          obtain ⟨f, hf⟩ : ∃ f : Nat, x.fr = (f : Int) := ⟨x.fr.toNat, by omega⟩
          obtain ⟨b, hbb⟩ : ∃ b : Nat, x.ba = (b : Int) := ⟨x.ba.toNat, by omega⟩
          have hfl : f < G.length := by omega
          have hr : G[f]? = some G[f] := List.getElem?_eq_getElem hfl
          rw [fitR_in ho hf hbb hr]
          have hh := h f (List.mem_range.2 hfl)
          rw [List.getD_eq_getElem?_getD, hr, Option.getD_some] at hh
          unfold rollB at hh
          obtain ⟨r1, r2⟩ := Bool.and_eq_true_iff.1 hh
          generalize G[f] = row at *
          obtain ⟨⟨⟨p, q⟩, bb⟩, hrv⟩ : ∃ rv, rollV row = rv := ⟨_, rfl⟩
          rw [hrv] at r1 r2
          simp only at r1 r2
          subst r1
          obtain ⟨b1, b2, _, _⟩ := roll_behind hrv
          unfold fitsB at r2
          obtain ⟨f1, f2⟩ := Bool.and_eq_true_iff.1 r2
          have hs : offS ts x.te = false := by
            cases e : offS ts x.te with
            | false => rfl
            | true => rw [hasI_iff.2 ((offS_mem ts x.te).1 e)] at ho; cases ho
          have hb01 : b = 0 ∨ b = 1 := by omega
          rcases hb01 with rfl | rfl
          · have := List.all_eq_true.1 f1 x hx
            rw [okW_near (by simp [hf, hbb]) hs] at this
            rw [b1]; exact this
          · have := List.all_eq_true.1 f2 x hx
            rw [okW_near (by simp [hf, hbb]) hs] at this
            rw [b2]; exact this
    · intro h f hf
      obtain ⟨g1, g2⟩ := h
      have hfl : f < G.length := List.mem_range.1 hf
      have hr : G[f]? = some G[f] := List.getElem?_eq_getElem hfl
      have hh := g1 f hf
      rw [List.getD_eq_getElem?_getD, hr, Option.getD_some] at hh ⊢
      unfold rollB
      rw [hh, Bool.true_and]
      have hgr : ∀ x ∈ l.ws, x.fr = (f : Int) → hasI ts x.te = false → ∀ b : Nat, x.ba = (b : Int) → inB (behN G[f] b) x.le x.mo = true := fun x hx e1 e2 b e3 => by
        have := g2 x hx
        rwa [fitR_in e2 e1 e3 hr] at this
      generalize G[f] = row at *
      obtain ⟨⟨⟨p, q⟩, bb⟩, hrv⟩ : ∃ rv, rollV row = rv := ⟨_, rfl⟩
      rw [hrv] at hh ⊢
      simp only at hh
      subst hh
      obtain ⟨b1, b2, _, _⟩ := roll_behind hrv
      have hoff : ∀ x : Wd, offS ts x.te = false → hasI ts x.te = false := fun x e => by
        cases e2 : hasI ts x.te with
        | false => rfl
        | true => rw [(offS_mem ts x.te).2 (hasI_iff.1 e2)] at e; cases e
      unfold fitsB
      rw [Bool.and_eq_true, List.all_eq_true, List.all_eq_true]
      constructor
      · intro x hx
        unfold okW toldB
        by_cases e : (x.fr == (f : Int) && x.ba == 0) = true
        · obtain ⟨e1, e2⟩ := Bool.and_eq_true_iff.1 e
          cases e3 : offS ts x.te with
          | true => simp
          | false =>
            have := hgr x hx (by simpa using e1) (hoff x e3) 0 (by simpa using e2)
            rw [b1] at this
            simp [this]
        · rw [Bool.not_eq_true] at e; rw [e]; rfl
      · intro x hx
        unfold okW toldB
        by_cases e : (x.fr == (f : Int) && x.ba == 1) = true
        · obtain ⟨e1, e2⟩ := Bool.and_eq_true_iff.1 e
          cases e3 : offS ts x.te with
          | true => simp
          | false =>
            have := hgr x hx (by simpa using e1) (hoff x e3) 1 (by simpa using e2)
            rw [b2] at this
            simp [this]
        · rw [Bool.not_eq_true] at e; rw [e]; rfl
  · rw [decide_eq_false hn]; rfl

end Go.Proofs.Ytbbndcfnpfedpaa
