/- The contract of the reference's Sum. -/
import Derived.Test.YtmjbidnlknmcgaaDoorTf
set_option linter.unusedVariables false
set_option linter.unusedSimpArgs false
namespace Go.Proofs.YtmjbidnlknmcgaaDoor
open Go.RowKit

/-- What a ball adds to the count. -/
structure SumAt (l : Lw) (bs : List Int) (i : Nat) (k : Int) : Prop where
  e : rdE l (bs.take i) = 0
  ok : okT l (recS l (bs.take i)).s k = true
  tot : (recS l (bs.take (i + 1))).tot = (recS l (bs.take i)).tot + cnt l (recS l (bs.take i)).s k * (1 + (recS l (bs.take i)).s.x)

theorem tot_in {l : Lw} {bs : List Int} (h : rdE l bs = 0) : 0 ≤ (recS l bs).tot ∧ (recS l bs).tot ≤ 300 := by
  obtain ⟨ok, hw, _⟩ := recS_ok h
  obtain ⟨v, hb⟩ := recS_best h
  have := best_nn v ok
  exact ⟨hw.t1, by omega⟩

theorem sum_at {l : Lw} {bs : List Int} (h : rdE l bs = 0) {i : Nat} {k : Int} (hk : bs[i]? = some k) : SumAt l bs i k := by
  have ok := (recS_ok h).1
  have hp := px_of (FO.of h) ok
  obtain ⟨hi, he⟩ := List.getElem?_eq_some_iff.1 hk
  have h0 := FO.of (hp.e i (by omega))
  have h1 := FO.of (hp.e (i + 1) (by omega))
  have e : bs.take (i + 1) = bs.take i ++ [k] := by rw [List.take_add_one, hk]; rfl
  have hsn := fol_snoc l (bs.take i) (rec0 l) k h0.n
  have h1n := h1.n
  have hr : (fol l (rec0 l) (bs.take i)).1 = recS l (bs.take i) := rfl
  rw [hr] at hsn
  have hr1 : recS l (bs.take (i + 1)) = (fol l (rec0 l) (bs.take (i + 1))).1 := rfl
  rw [e] at h1n
  rw [hsn] at h1n
  split at h1n
  · rename_i ht
    refine ⟨hp.e i (by omega), ht, ?_⟩
    rw [hr1, e, hsn, if_pos ht]
    rfl
  · simp at h1n

/-- A stand's block that is new. -/
structure S5B (W : World) (g : Nat) : Prop where
  blk : W.heap[g]? = some (.cells #[.int .i64 0, .int .i64 0, .int .i64 0, .bool false, .int .i64 0] 36 (0, 0))
theorem S5B.new (W : World) : Hid (S5B (W.alloc (.cells #[.int .i64 0, .int .i64 0, .int .i64 0, .bool false, .int .i64 0] 36)) W.heap.size) := Lib.hid ⟨heap_alloc_new W _⟩
theorem S5B.lo {W W' : World} {g : Nat} (h : Hid (S5B W g)) (hb : Below W.heap.size W W') : Hid (S5B W' g) := Lib.hid ⟨(hb.block _ (lt_of_block h.out.blk)).trans h.out.blk⟩
theorem S5B.dr {W : World} {g : Nat} (h : Hid (S5B W g)) : Hid (S5B W.drew g) := S5B.lo h ⟨rfl, rfl, rfl, Nat.le_refl _, fun _ _ => rfl⟩
theorem S5B.fz {W : World} {g : Nat} (h : Hid (S5B W g)) : W.frozen? ⟨g, 0, none⟩ = false ∧ W.frozen? ⟨g, 1, none⟩ = false ∧ W.frozen? ⟨g, 2, none⟩ = false ∧ W.frozen? ⟨g, 3, none⟩ = false ∧ W.frozen? ⟨g, 4, none⟩ = false := by
  have h := h.out.blk
  exact ⟨by simp [World.frozen?, h], by simp [World.frozen?, h], by simp [World.frozen?, h], by simp [World.frozen?, h], by simp [World.frozen?, h]⟩
theorem S5B.at {W : World} {g : Nat} (h : Hid (S5B W g)) : W.cell? ⟨g, 0, none⟩ = some (.int .i64 0) ∧ W.cell? ⟨g, 1, none⟩ = some (.int .i64 0) ∧ W.cell? ⟨g, 2, none⟩ = some (.int .i64 0) ∧ W.cell? ⟨g, 3, none⟩ = some (.bool false) ∧ W.cell? ⟨g, 4, none⟩ = some (.int .i64 0) := by
  have h := h.out.blk
  exact ⟨by simp [World.cell?, h], by simp [World.cell?, h], by simp [World.cell?, h], by simp [World.cell?, h], by simp [World.cell?, h]⟩
theorem BL.put5 {w W : World} (h : Hid (BL w W)) {g : Nat} (hg : w.heap.size ≤ g) (a b c d e : Value) : Hid (BL w (((((W.setCell ⟨g, 0, none⟩ a).setCell ⟨g, 1, none⟩ b).setCell ⟨g, 2, none⟩ c).setCell ⟨g, 3, none⟩ d).setCell ⟨g, 4, none⟩ e)) :=
  Lib.hid ⟨((((h.out.b.setCell (p := ⟨g, 0, none⟩) hg a).setCell (p := ⟨g, 1, none⟩) hg b).setCell (p := ⟨g, 2, none⟩) hg c).setCell (p := ⟨g, 3, none⟩) hg d).setCell (p := ⟨g, 4, none⟩) hg e⟩

set_option maxRecDepth 100000 in
set_option maxHeartbeats 16000000 in
theorem sum_ref (l : Lw) (bs : List Int) (a : Option Addr) (c : Nat) (w : World) (hs : BallsAt w a bs) (hc : bs.length ≤ c) (h : rdE l bs = 0) :
    Calls Tryd.prog 55 #[l.val, .slice a bs.length c] w fun e w' => e = .returned (.int .i64 (recS l bs).tot) ∧ Below w.heap.size w w' := by
  have ok := (recS_ok h).1
  have HS := Lib.hid hs
  have OK := Lib.hid ok
  have hlen : bs.length ≤ 40 := (errS_zero (rdE_zero h).1).2
  have SA := Lib.hid (fun i k hk => sum_at (l := l) (bs := bs) (i := i) (k := k) h hk)
  have HB := Lib.hid (fun i (hi : i ≤ bs.length) => tot_in ((px_of (FO.of h) ok).e i hi))
  have TLR := Lib.hid (fun (i : Nat) (k : Int) (W : World) (hk : bs[i]? = some k) (hs : BallsAt W a bs) => show Calls Tryd.prog 57 #[l.val, .slice a i c] W fun e W' => e = .returned (tlv l (recS l (bs.take i)).s) ∧ Below W.heap.size W W' from by
    have hi := (List.getElem?_eq_some_iff.1 hk).1
    have h1 := tail_ref l (bs.take i) a c W (balls_take hs i) (sum_at h hk).e
    rwa [List.length_take, Nat.min_eq_left (by omega)] at h1)
  have hall : (recS l bs).tot = (recS l (bs.take bs.length)).tot := by rw [List.take_length]
  rw [hall]
  obtain ⟨n, hn⟩ : ∃ n, bs.length = n := ⟨_, rfl⟩
  rw [hn] at hlen hc HB ⊢
  have HN := Lib.hid hn
  clear hs h ok hn hall
  unfold Lw.val tlv at *
  go_enter Tryd.func55, Tryd.ntmps55
  go_wp2_with fail
  have A1 := WL.start w l
  generalize World.alloc w _ = w1 at A1 ⊢
  go_loopg [5, 6] n (fun g s5 s6 wx => ∃ (i : Nat), i ≤ n ∧ g = n - i ∧ s6 = .int .i64 (i : Int) ∧ s5 = .int .i64 (recS l (bs.take i)).tot ∧ Hid (WL w wx l))
  case atStart => exact ⟨0, by omega, rfl, rfl, rfl, A1⟩
  case round =>
    clear A1
    obtain ⟨i, hi, rfl, rfl, rfl, hA⟩ := hrel
    by_cases hil : i < n
    · obtain ⟨k, hk⟩ : ∃ k, bs[i]? = some k := ⟨bs[i]'(by rw [HN.out]; exact hil), List.getElem?_eq_getElem _⟩
      have hS := SA.out i k hk
      have hv := (recS_best hS.e).1.vd
      have hX0 := HB.out i (by omega)
      have hX1 := HB.out (i + 1) (by omega)
      have htot := hS.tot
      obtain ⟨hf, hk1, hk2⟩ := okT_out hS.ok
      have hcn := cnt_le OK.out hv hk1 hk2
      have TL1 := Lib.hid (fun (W : World) (hs : BallsAt W a bs) => TLR.out i k W hk hs)
      obtain ⟨s, hs⟩ : ∃ s, (recS l (bs.take i)).s = s := ⟨_, rfl⟩
      rw [hs] at hv htot hf hk2 hcn TL1
      obtain ⟨X, hX⟩ : ∃ X, (recS l (bs.take i)).tot = X := ⟨_, rfl⟩
      rw [hX] at hX0 htot ⊢
      have TH := Lib.hid (fun (W : World) => show Calls Tryd.prog 45 #[l.val, (refS l s).val, .int .i64 k] W fun e W' => e = .returned (.tuple #[(thrR l (refS l s) (cnt l s k)).val, .int .i64 (cnt l s k)]) ∧ Below W.heap.size W W' from by
        have hne : s.f ≠ l.fr := hf
        have e2 : (refS l s).f = s.f ∧ (refS l s).b = s.b ∧ (refS l s).s = s.s := by rw [refS, if_neg hne]; exact ⟨rfl, rfl, rfl⟩
        have h1 := throw_ref l (refS l s) k W OK.out (by have := hv.f1; omega) (by have := hv.f2; have := OK.out.f2; omega) (by have := hv.b1; omega) (by have := hv.b2; omega) (by have := hv.s1; omega) (by have := hv.s2; have := OK.out.p2; omega) hk1 (by have := hv.s2; have := OK.out.p2; omega)
        rw [nr_cnt OK.out hne hk1] at h1
        exact h1)
      obtain ⟨t, ht⟩ : ∃ t, refS l s = t := ⟨_, rfl⟩
      rw [ht] at TL1 TH
      obtain ⟨C, hC⟩ : ∃ C, cnt l s k = C := ⟨_, rfl⟩
      rw [hC] at TH htot hcn
      obtain ⟨t1, ht1⟩ : ∃ t1, thrR l t C = t1 := ⟨_, rfl⟩
      rw [ht1] at TH
      obtain ⟨x, hx⟩ : ∃ x, s.x = x := ⟨_, rfl⟩
      obtain ⟨y, hy⟩ : ∃ y, s.y = y := ⟨_, rfl⟩
      have hx1 := hv.x1
      have hx2 := hv.x2
      have hs10 : s.s ≤ 10 := by have := hv.s2; have := OK.out.p2; omega
      rw [hx] at TL1 htot hx1 hx2
      rw [hy] at TL1
      have hm0 : 0 ≤ C * (1 + x) := Int.mul_nonneg hcn.1 (by omega)
      have hm1 : C * (1 + x) ≤ 10 * 3 := Int.mul_le_mul (by omega) (by omega) (by omega) (by omega)
      have hw1 : IntKind.i64.wrap (1 + x) = 1 + x := IntWalk.i64_in _ (by omega)
      have hw2 : IntKind.i64.wrap (C * (1 + x)) = C * (1 + x) := IntWalk.i64_in _ (by omega)
      have hw3 : IntKind.i64.wrap (X + C * (1 + x)) = X + C * (1 + x) := IntWalk.i64_in _ (by omega)
      have hw4 : IntKind.i64.wrap ((i : Int) + 1) = (i : Int) + 1 := IntWalk.i64_in _ (by omega)
      have hi0 : (0 : Int) ≤ (i : Int) := by omega
      have hi1 : (i : Int) < (n : Int) := by omega
      have hic : (i : Int) ≤ (c : Int) := by omega
      have hic2 : i ≤ c := by omega
      have hc0 : ¬ c = 0 := by omega
      obtain ⟨ga, oa, rfl, hcs⟩ := HS.out i k hk
      have HCS := Lib.hid hcs
      have HT := Lib.hid htot
      clear hS hv hX0 hX1 htot hf hk1 hk2 hcn hs hX ht hC ht1 hx hy hx1 hx2 hs10 hm0 hm1 hcs hk TLR SA HB
      unfold Lw.val St.val at TH
      have SP : Hid (∀ W, Hid (BL wr W) → (W.cell? ⟨w.heap.size, 0, none⟩ = some (.int .i64 l.fr) ∧ W.cell? ⟨w.heap.size, 1, none⟩ = some (.int .i64 l.pn) ∧ W.cell? ⟨w.heap.size, 2, none⟩ = some (.int .i64 l.bl) ∧ W.cell? ⟨w.heap.size, 3, none⟩ = some (.int .i64 l.tp))) := Lib.hid (fun W h => BL.law h hA)
      have TL2 := Lib.hid (fun W (h : Hid (BL wr W)) => TL1.out W (HS.out.lo (hA.out.bl.trans (h.out.b.mono hA.out.bl.size))))
      clear TL1
      go_upto_region 5 with fail
      go_cut [7] (fun s7 wx => ∃ g7, s7 = .pointer (some ⟨g7, 0, none⟩) ∧ Hid (BL wr wx) ∧ Hid (TL wx g7 t x y))
      case first =>
        have hd0 : wr.heap.size ≤ wr.heap.size := Nat.le_refl _
        clear TH HCS HT hw1 hw2 hw3 hw4 hA HS OK HN hlen hc hi
        go_region_held3 (fun W => W.cell? ⟨w.heap.size, 0, none⟩ = some (.int .i64 l.fr) ∧ W.cell? ⟨w.heap.size, 1, none⟩ = some (.int .i64 l.pn) ∧ W.cell? ⟨w.heap.size, 2, none⟩ = some (.int .i64 l.bl) ∧ W.cell? ⟨w.heap.size, 3, none⟩ = some (.int .i64 l.tp))
          (with_reducible first | exact SP.out _ (BL.dr (BL.start wr)) | exact SP.out _ (BL.dr (BL.al (BL.start wr) _)) | exact SP.out _ PA | exact SP.out _ (BL.al PA _) | exact SP.out _ (BL.put7 PA (by omega) _ _ _ _ _ _ _))
          (first
            | (go_at_call 57; (with_reducible refine (TL2.out _ (BL.dr (BL.start wr))).mono ?_); rintro e wA ⟨rfl, hb⟩; have PA := BL.lo (BL.dr (BL.start wr)) hb; have hA := PA.out.b.size; clear hb)
            | (go_at_call 57; (with_reducible refine (TL2.out _ (BL.dr (BL.al (BL.start wr) _))).mono ?_); rintro e wA ⟨rfl, hb⟩; have PA := BL.lo (BL.dr (BL.al (BL.start wr) _)) hb; have ZA := TL.lo (TL.dr (TL.new wr ⟨0, 0, 0, false, 0⟩ 0 0)) hb; have hA := PA.out.b.size; have hf := TL.fz ZA; obtain ⟨z0, z1, z2, z3, z4, z5, z6⟩ := hf; have hf := TL.at ZA; obtain ⟨d0, d1, d2, d3, d4, d5, d6⟩ := hf; clear hb))
        all_goals
          go_wp2_with fail
          go_meet
          first
            | (with_reducible exact ⟨_, rfl, BL.al PA _, TL.new wA t x y⟩)
            | (with_reducible exact ⟨_, rfl, BL.put7 PA hd0 _ _ _ _ _ _ _, TL.put ZA⟩)
      case rest =>
        obtain ⟨g7, rfl, B5, T3⟩ := hcut
        have A3 := WL.lo hA B5.out.b
        clear SP TL2 hA B5
        generalize wc = w3 at A3 T3 ⊢
        have SP : Hid (∀ W, Hid (BL w3 W) → ((W.cell? ⟨w.heap.size, 0, none⟩ = some (.int .i64 l.fr) ∧ W.cell? ⟨w.heap.size, 1, none⟩ = some (.int .i64 l.pn) ∧ W.cell? ⟨w.heap.size, 2, none⟩ = some (.int .i64 l.bl) ∧ W.cell? ⟨w.heap.size, 3, none⟩ = some (.int .i64 l.tp)) ∧
          (W.cell? ⟨g7, 0, none⟩ = some (.int .i64 t.f) ∧ W.cell? ⟨g7, 1, none⟩ = some (.int .i64 t.b) ∧ W.cell? ⟨g7, 2, none⟩ = some (.int .i64 t.s) ∧ W.cell? ⟨g7, 3, none⟩ = some (.bool t.set) ∧ W.cell? ⟨g7, 4, none⟩ = some (.int .i64 t.has) ∧ W.cell? ⟨g7, 5, none⟩ = some (.int .i64 x) ∧ W.cell? ⟨g7, 6, none⟩ = some (.int .i64 y)) ∧
          W.cell? ⟨ga, oa + i, none⟩ = some (.int .i64 k))) := Lib.hid (fun W h => ⟨BL.law h A3, TL.at (TL.lo T3 h.out.b), below_cell h.out.b (below_cell A3.out.bl HCS.out)⟩)
        go_upto_region 6 with fail
        go_cut [9] (fun s9 wx => s9 = .int .i64 C ∧ Hid (BL w3 wx))
        case first =>
          have hd0 : w3.heap.size ≤ w3.heap.size := Nat.le_refl _
          clear HCS HT hw1 hw2 hw3 hw4 A3 T3 HS OK HN hlen hc hi
          go_region_held3 (fun W => (W.cell? ⟨w.heap.size, 0, none⟩ = some (.int .i64 l.fr) ∧ W.cell? ⟨w.heap.size, 1, none⟩ = some (.int .i64 l.pn) ∧ W.cell? ⟨w.heap.size, 2, none⟩ = some (.int .i64 l.bl) ∧ W.cell? ⟨w.heap.size, 3, none⟩ = some (.int .i64 l.tp)) ∧
            (W.cell? ⟨g7, 0, none⟩ = some (.int .i64 t.f) ∧ W.cell? ⟨g7, 1, none⟩ = some (.int .i64 t.b) ∧ W.cell? ⟨g7, 2, none⟩ = some (.int .i64 t.s) ∧ W.cell? ⟨g7, 3, none⟩ = some (.bool t.set) ∧ W.cell? ⟨g7, 4, none⟩ = some (.int .i64 t.has) ∧ W.cell? ⟨g7, 5, none⟩ = some (.int .i64 x) ∧ W.cell? ⟨g7, 6, none⟩ = some (.int .i64 y)) ∧
            W.cell? ⟨ga, oa + i, none⟩ = some (.int .i64 k))
            (with_reducible first | exact SP.out _ (BL.dr (BL.start w3)) | exact SP.out _ (BL.dr (BL.al (BL.start w3) _)) | exact SP.out _ PA | exact SP.out _ (BL.al PA _) | exact SP.out _ (BL.put5 PA (by omega) _ _ _ _ _))
            (first
              | (go_at_call 45; (with_reducible refine (TH.out _).mono ?_); rintro e wA ⟨rfl, hb⟩; (with_reducible first | have PA := BL.lo (BL.dr (BL.start w3)) hb | (have PA := BL.lo (BL.dr (BL.al (BL.start w3) _)) hb; have ZA := S5B.lo (S5B.dr (S5B.new w3)) hb; have hf := S5B.fz ZA; obtain ⟨z0, z1, z2, z3, z4⟩ := hf; have hf := S5B.at ZA; obtain ⟨d0, d1, d2, d3, d4⟩ := hf)); have hA := PA.out.b.size; clear hb))
          all_goals
            go_wp2_with fail
            go_meet
            first
              | (with_reducible exact ⟨rfl, BL.al PA _⟩)
              | (with_reducible exact ⟨rfl, BL.put5 PA hd0 _ _ _ _ _⟩)
        case rest =>
          obtain ⟨rfl, B6⟩ := hcut
          have A5 := WL.lo A3 B6.out.b
          have T5 := TL.lo T3 B6.out.b
          clear SP TH A3 T3 B6
          generalize wc = w5 at A5 T5 ⊢
          obtain ⟨d0, d1, d2, d3, d4, d5, d6⟩ := TL.at T5
          go_wp2_with fail
          go_roundg (n - (i + 1))
          case measure => omega
          case rel => exact ⟨i + 1, by omega, rfl, by simp, by rw [HT.out], A5⟩
    · have hie : i = n := by omega
      subst hie
      have hi1 : ¬ (i : Int) < (i : Int) := by omega
      go_wp2_with fail
      go_ret
      exact ⟨rfl, hA.out.bl⟩

end Go.Proofs.YtmjbidnlknmcgaaDoor
