/- The contract of the law FrameFirst. -/
import Derived.Test.YtmjbidnlknmcgaaDoorDr
import Derived.Test.YtmjbidnlknmcgaaDoorFf
set_option linter.unusedVariables false
set_option linter.unusedSimpArgs false
namespace Go.Proofs.YtmjbidnlknmcgaaDoor
open Go.RowKit

set_option maxRecDepth 100000 in
set_option maxHeartbeats 100000000 in
theorem first_bad (l : Lw) (bs : List Int) (ad : Addr) (c : Nat) (w w5 : World) : True := trivial

set_option maxRecDepth 100000 in
set_option maxHeartbeats 100000000 in
theorem first_any (l : Lw) (bs : List Int) (a : Option Addr) (c : Nat) (w : World) (hs : SheetAt w a c bs) (hc : bs.length ≤ c) (hT : TabOK w) :
    Calls Tryd.prog 10 #[l.val, .slice a bs.length c] w fun e w' => e = .returned (.bool true) ∧ Below w.heap.size w w' := by
  have HT := Lib.hid hT
  have HS := Lib.hid hs
  have WAK := Lib.hid wakes_any
  have ISL := Lib.hid (isLaw_any l)
  have hle := fol_le l bs (rec0 l)
  clear hT hs
  by_cases he : errS l bs.length ≠ 0
  · as_aux_lemma =>
    have hor : okB l = false ∨ (okB l = true ∧ decide ((40 : Int) < (bs.length : Int)) = true) := by
      cases hok : okB l
      · exact .inl rfl
      · refine .inr ⟨rfl, ?_⟩
        unfold errS at he
        rw [hok] at he
        simp at he ⊢
        omega
    clear he hle
    rcases hor with hok | ⟨hok, h40⟩
    all_goals
      rw [hok] at ISL
      clear hok
      unfold Lw.val at *
      go_enter Tryd.func10, Tryd.ntmps10
      go_wp2_with fail
      have A1 := WL.start w l
      generalize World.alloc w _ = w1 at A1 ⊢
      obtain ⟨k0, k1, k2, k3⟩ := WL.at A1
      go_wp2_with fail
      refine (ISL.out w1).mono ?_
      rintro e w2 ⟨rfl, hb⟩
      have A2 := WL.lo A1 hb
      clear hb A1 k0 k1 k2 k3
      go_wp2_with fail
      refine (WAK.out _ (HT.out.below A2.out.bl HT.out.pos)).mono ?_
      rintro e w3 ⟨rfl, hb⟩
      have BF := Lib.hid (A2.out.bl.trans (hb.mono A2.out.bl.size))
      clear hb
      go_wp2_with fail
      go_ret
      exact ⟨rfl, BF.out⟩
  · have he0 : errS l bs.length = 0 := Classical.not_not.1 he
    have ok := (errS_zero he0).1
    have hlen := (errS_zero he0).2
    have hok : okB l = true := by
      cases hb : okB l
      · simp [errS, hb] at he0
      · rfl
    have h40 : decide ((40 : Int) < (bs.length : Int)) = false := by simp; omega
    have LAW := Lib.hid (law_any l)
    have BAD := Lib.hid (fun v c w h => bad_fol l bs v c w he0 h _ (Lib.hid rfl))
    have LST := Lib.hid (fun w h => list_any bs a c w h (by omega))
    rw [hok] at ISL
    by_cases hf : (fol l (rec0 l) bs).2 = bs.length
    · as_aux_lemma =>
      have hrd : rdE l bs = 0 := by simp [rdE, he0, hf]
      have hv : badV (fol l (rec0 l) bs) bs.length = 0 := by simp [badV, hf]
      have hE : badE (fol l (rec0 l) bs) bs.length = 7 := by simp [badE, hf]
      rw [hv, hE] at BAD
      have RD := Lib.hid (fun a c w h => by have := rd_fr l bs a c w h; rw [hrd] at this; exact this)
      generalize rdN l bs = N at RD
      generalize rdM l bs = M at RD
      generalize rdS l bs = S at RD
      generalize rdD l bs = D at RD
      clear hok he he0 hf hrd hv hE hle
      unfold Lw.val at *
      go_enter Tryd.func10, Tryd.ntmps10
      go_wp2_with fail
      have A1 := WL.start w l
      generalize World.alloc w _ = w1 at A1 ⊢
      obtain ⟨k0, k1, k2, k3⟩ := WL.at A1
      go_wp2_with fail
      refine (ISL.out w1).mono ?_
      rintro e w2 ⟨rfl, hb⟩
      have A2 := WL.lo A1 hb
      clear hb A1 k0 k1 k2 k3
      obtain ⟨k0, k1, k2, k3⟩ := WL.at A2
      go_wp2_with fail
      refine (LAW.out w2).mono ?_
      rintro e w4 ⟨rfl, hb⟩
      have A4 := WL.lo A2 hb
      clear hb A2 k0 k1 k2 k3
      go_wp2_with fail
      refine (LST.out w4 (HS.out.lo A4.out.bl)).mono ?_
      rintro e w5 ⟨v, rfl, ho, hb⟩
      obtain ⟨va, vc, rfl⟩ := own_len ho
      have A5 := WL.lo A4 hb
      have S5 := Lib.hid (own_ballsAt ho)
      clear hb ho A4
      go_wp2_with fail
      refine (BAD.out va vc w5 S5.out).mono ?_
      rintro e w6 ⟨rfl, hb⟩
      have A6 := WL.lo A5 hb
      clear hb A5 S5
      obtain ⟨k0, k1, k2, k3⟩ := WL.at A6
      go_wp2_with fail
      refine (LAW.out w6).mono ?_
      rintro e w7 ⟨rfl, hb⟩
      have A7 := WL.lo A6 hb
      clear hb A6 k0 k1 k2 k3
      go_wp2_with fail
      refine (LST.out w7 (HS.out.lo A7.out.bl)).mono ?_
      rintro e w8 ⟨v, rfl, ho, hb⟩
      obtain ⟨vb, vd, rfl⟩ := own_len ho
      have A8 := WL.lo A7 hb
      have S8 := Lib.hid (own_ballsAt ho)
      clear hb ho A7
      go_wp2_with fail
      refine (RD.out vb vd w8 S8.out).mono ?_
      rintro e w9 ⟨fa, fc, qa, qc, rfl, hQ, hF, hb⟩
      have A9 := WL.al (WL.lo A8 hb) (.cells #[.slice fa N fc, .slice qa M.length qc, .int .i64 S, .bool D] 43)
      clear hb hQ hF A8 S8
      go_wp2_with fail
      refine (WAK.out _ (HT.out.below A9.out.bl HT.out.pos)).mono ?_
      rintro e wa ⟨rfl, hb⟩
      have BF := Lib.hid (A9.out.bl.trans (hb.mono A9.out.bl.size))
      clear hb
      go_wp2_with fail
      go_ret
      exact ⟨rfl, BF.out⟩
    · have hlt : (fol l (rec0 l) bs).2 < bs.length := by omega
      have hv : badV (fol l (rec0 l) bs) bs.length = ((fol l (rec0 l) bs).2 : Int) := by simp [badV, hf]
      have hE : badE (fol l (rec0 l) bs) bs.length = 0 := by simp [badE, hf]
      rw [hv, hE] at BAD
      obtain ⟨k, hff⟩ := ff_of he0 hlt
      have FF := Lib.hid hff
      obtain ⟨N, hN⟩ : ∃ N, (fol l (rec0 l) bs).2 = N := ⟨_, rfl⟩
      rw [hN] at BAD FF hlt
      clear hff
      have hNi : (N : Int) < (bs.length : Int) := by omega
      have hN0 : (0 : Int) ≤ (N : Int) := by omega
      obtain ⟨gx, ox, rfl⟩ := balls_some HS.out.1 (by omega)
      clear hok he he0 hf hv hE hle hN
      unfold Lw.val at *
      go_enter Tryd.func10, Tryd.ntmps10
      go_wp2_with fail
      have A1 := WL.start w l
      generalize World.alloc w _ = w1 at A1 ⊢
      obtain ⟨k0, k1, k2, k3⟩ := WL.at A1
      go_wp2_with fail
      refine (ISL.out w1).mono ?_
      rintro e w2 ⟨rfl, hb⟩
      have A2 := WL.lo A1 hb
      clear hb A1 k0 k1 k2 k3
      obtain ⟨k0, k1, k2, k3⟩ := WL.at A2
      go_wp2_with fail
      refine (LAW.out w2).mono ?_
      rintro e w4 ⟨rfl, hb⟩
      have A4 := WL.lo A2 hb
      clear hb A2 k0 k1 k2 k3
      go_wp2_with fail
      refine (LST.out w4 (HS.out.lo A4.out.bl)).mono ?_
      rintro e w5 ⟨v, rfl, ho, hb⟩
      obtain ⟨va, vc, rfl⟩ := own_len ho
      have A5 := WL.lo A4 hb
      have S5 := Lib.hid (own_ballsAt ho)
      clear hb ho A4
      go_wp2_with fail
      refine (BAD.out va vc w5 S5.out).mono ?_
      rintro e w6 ⟨rfl, hb⟩
      have A6 := WL.lo A5 hb
      clear hb A5 S5
      have TK := Lib.hid (fun (j : Nat) (hj : j ≤ bs.length) W (h : BallsAt W (some ⟨gx, ox, none⟩) bs) => list_any (bs.take j) (some ⟨gx, ox, none⟩) c W ⟨balls_take h j, fun e => by cases e⟩ (by simp; omega))
      have LN : Hid (∀ W, BL w6 W → Calls Tryd.prog 19 #[.slice (some ⟨gx, ox, none⟩) N c] W fun e w' => ∃ v, e = .returned v ∧ w'.ownsRow W.heap.size 3 1 v N ((bs.take N).map (Value.int .i64)) ∧ Below W.heap.size W w') := Lib.hid (fun W h => by
        have h1 := TK.out N (by omega) W (HS.out.1.lo (A6.out.bl.trans (h.b.mono A6.out.bl.size)))
        rwa [List.length_take, Nat.min_eq_left (by omega)] at h1)
      have RN : Hid (∀ a c W, BallsAt W a (bs.take N) → Calls Tryd.prog 23 #[.agg #[.int .i64 l.fr, .int .i64 l.pn, .int .i64 l.bl, .int .i64 l.tp], .slice a N c] W fun e w' => ∃ fa fc qa qc, e = .returned (.tuple #[.agg #[.slice fa (rdN l (bs.take N)) fc, .slice qa (rdM l (bs.take N)).length qc, .int .i64 (rdS l (bs.take N)), .bool (rdD l (bs.take N))], .int .i64 0]) ∧ Below W.heap.size W w') := Lib.hid (fun a c W h => by
        have h1 := rd_fr l (bs.take N) a c W h
        rw [FF.out.g0, List.length_take, Nat.min_eq_left (by omega)] at h1
        exact h1.mono fun e w' ⟨fa, fc, qa, qc, e1, _, _, hb⟩ => ⟨fa, fc, qa, qc, e1, hb⟩)
      obtain ⟨N0, hN0'⟩ : ∃ N0, Hid (rdN l (bs.take N) = N0) := ⟨_, Lib.hid rfl⟩
      obtain ⟨M0, hM0'⟩ : ∃ M0, Hid ((rdM l (bs.take N)).length = M0) := ⟨_, Lib.hid rfl⟩
      obtain ⟨S0, hS0'⟩ : ∃ S0, Hid (rdS l (bs.take N) = S0) := ⟨_, Lib.hid rfl⟩
      obtain ⟨D0, hD0'⟩ : ∃ D0, Hid (rdD l (bs.take N) = D0) := ⟨_, Lib.hid rfl⟩
      rw [hN0'.out, hM0'.out, hS0'.out, hD0'.out] at RN
      have hcN : (N : Int) ≤ (c : Int) := by omega
      have hcz : ¬ c = 0 := by omega
      go_upto_region 9 with fail
      go_cut [9, 10] (fun s9 s10 wx => ∃ (g9 : Nat) (fa : Option Addr) (fc : Nat) (qa : Option Addr) (qc : Nat), s9 = .pointer (some ⟨g9, 0, none⟩) ∧ s10 = .int .i64 0 ∧ Hid (BL w6 wx) ∧ Hid (GK wx g9 (.slice fa N0 fc) (.slice qa M0 qc) S0 D0))
      case first => as_aux_lemma =>
        have P0 := BL.dr (BL.start w6)
        have P1 := BL.dr (BL.al (BL.start w6) (.cells #[.slice none 0 0, .slice none 0 0, .int .i64 0, .bool false] 43))
        have Z1 : Hid (GK (w6.alloc (.cells #[.slice none 0 0, .slice none 0 0, .int .i64 0, .bool false] 43)).drew w6.heap.size (.slice none 0 0) (.slice none 0 0) 0 false) := GK.lo (GK.new w6 _ _ _ _) ⟨rfl, rfl, rfl, Nat.le_refl _, fun _ _ => rfl⟩
        go_region_held3 (fun W => W.cell? ⟨w.heap.size, 0, none⟩ = some (.int .i64 l.fr) ∧ W.cell? ⟨w.heap.size, 1, none⟩ = some (.int .i64 l.pn) ∧ W.cell? ⟨w.heap.size, 2, none⟩ = some (.int .i64 l.bl) ∧ W.cell? ⟨w.heap.size, 3, none⟩ = some (.int .i64 l.tp))
          (first | with_reducible exact BL.law P0 A6 | with_reducible exact BL.law P1 A6 | with_reducible exact BL.law P2 A6 | with_reducible exact BL.law (BL.al P2 _) A6 | with_reducible exact BL.law P3 A6 | with_reducible exact BL.law (BL.al P3 _) A6 | with_reducible exact BL.law P4 A6 | with_reducible exact BL.law (BL.al P4 _) A6 | with_reducible exact BL.law (BL.put P4 (Nat.le_refl _) _ _ _ _) A6 | with_reducible exact BL.law (BL.put P4 P2.out.b.size _ _ _ _) A6 | with_reducible exact BL.law (BL.put P4 P3.out.b.size _ _ _ _) A6)
          (first
            | (go_at_call 17; refine (LAW.out w6.drew).mono ?_; rintro e wA ⟨rfl, hb⟩; have P2 := BL.lo P0 hb; clear hb)
            | (go_at_call 17; refine (LAW.out _).mono ?_; rintro e wA ⟨rfl, hb⟩; have P2 := BL.lo P1 hb; have Z2 := GK.lo Z1 hb; clear hb)
            | (go_at_call 19; refine (LN.out wA P2.out).mono ?_; rintro e wB ⟨v, rfl, ho, hb⟩; obtain ⟨vb, vd, rfl⟩ := own_len ho; have P3 := BL.lo P2 hb; have S3 := Lib.hid (own_ballsAt ho); (try have Z3 := GK.lo Z2 hb); clear hb ho)
            | (go_at_call 19; refine (LN.out _ (BL.al P2 _).out).mono ?_; rintro e wB ⟨v, rfl, ho, hb⟩; obtain ⟨vb, vd, rfl⟩ := own_len ho; have P3 := BL.lo (BL.al P2 _) hb; have S3 := Lib.hid (own_ballsAt ho); have Z3 := GK.lo (GK.new wA _ _ _ _) hb; clear hb ho)
            | (go_at_call 23; refine (RN.out vb vd wB S3.out).mono ?_; rintro e wC ⟨fa, fc, qa, qc, rfl, hb⟩; have P4 := BL.lo P3 hb; (try (have Z4 := GK.lo Z3 hb; obtain ⟨⟨d0, d1, d2, d3⟩, z0, z1, z2, z3⟩ := GK.fz Z4)); clear hb)
            | (go_at_call 23; refine (RN.out vb vd _ (S3.out.lo (below_al wB _))).mono ?_; rintro e wC ⟨fa, fc, qa, qc, rfl, hb⟩; have P4 := BL.lo (BL.al P3 _) hb; have Z4 := GK.lo (GK.new wB _ _ _ _) hb; obtain ⟨⟨d0, d1, d2, d3⟩, z0, z1, z2, z3⟩ := GK.fz Z4; clear hb))
        all_goals
          go_wp2_with fail
          go_meet
          first
            | exact ⟨_, fa, fc, qa, qc, rfl, rfl, BL.al P4 _, GK.new wC _ _ _ _⟩
            | exact ⟨_, fa, fc, qa, qc, rfl, rfl, BL.put P4 (Nat.le_refl _) _ _ _ _, GK.put Z4⟩
            | exact ⟨_, fa, fc, qa, qc, rfl, rfl, BL.put P4 P2.out.b.size _ _ _ _, GK.put Z4⟩
            | exact ⟨_, fa, fc, qa, qc, rfl, rfl, BL.put P4 P3.out.b.size _ _ _ _, GK.put Z4⟩
      case rest =>
        obtain ⟨g9, fa9, fc9, qa9, qc9, rfl, rfl, B9, G9⟩ := hcut
        have A9 := WL.lo A6 B9.out.b
        clear RN LN A6 B9
        generalize wc = w9 at A9 G9 ⊢
        have LN : Hid (∀ W, BL w9 W → Calls Tryd.prog 19 #[.slice (some ⟨gx, ox, none⟩) (N + 1) c] W fun e w' => ∃ v, e = .returned v ∧ w'.ownsRow W.heap.size 3 1 v (N + 1) ((bs.take (N + 1)).map (Value.int .i64)) ∧ Below W.heap.size W w') := Lib.hid (fun W h => by
          have h1 := TK.out (N + 1) (by omega) W (HS.out.1.lo (A9.out.bl.trans (h.b.mono A9.out.bl.size)))
          rwa [List.length_take, Nat.min_eq_left (by omega)] at h1)
        have RN : Hid (∀ a c W, BallsAt W a (bs.take (N + 1)) → Calls Tryd.prog 23 #[.agg #[.int .i64 l.fr, .int .i64 l.pn, .int .i64 l.bl, .int .i64 l.tp], .slice a (N + 1) c] W fun e w' => ∃ fa fc qa qc, e = .returned (.tuple #[.agg #[.slice fa (rdN l (bs.take (N + 1))) fc, .slice qa (rdM l (bs.take (N + 1))).length qc, .int .i64 (rdS l (bs.take (N + 1))), .bool (rdD l (bs.take (N + 1)))], .int .i64 10]) ∧ Below W.heap.size W w') := Lib.hid (fun a c W h => by
          have h1 := rd_fr l (bs.take (N + 1)) a c W h
          rw [FF.out.h10, List.length_take, Nat.min_eq_left (by omega)] at h1
          exact h1.mono fun e w' ⟨fa, fc, qa, qc, e1, _, _, hb⟩ => ⟨fa, fc, qa, qc, e1, hb⟩)
        obtain ⟨N1, hN1'⟩ : ∃ N1, Hid (rdN l (bs.take (N + 1)) = N1) := ⟨_, Lib.hid rfl⟩
        obtain ⟨M1, hM1'⟩ : ∃ M1, Hid ((rdM l (bs.take (N + 1))).length = M1) := ⟨_, Lib.hid rfl⟩
        obtain ⟨S1, hS1'⟩ : ∃ S1, Hid (rdS l (bs.take (N + 1)) = S1) := ⟨_, Lib.hid rfl⟩
        obtain ⟨D1, hD1'⟩ : ∃ D1, Hid (rdD l (bs.take (N + 1)) = D1) := ⟨_, Lib.hid rfl⟩
        rw [hN1'.out, hM1'.out, hS1'.out, hD1'.out] at RN
        clear hN1' hM1' hS1' hD1'
        have hcN1 : (N : Int) + 1 ≤ (c : Int) := by omega
        obtain ⟨NN, hNN⟩ : ∃ NN, N + 1 = NN := ⟨_, rfl⟩
        have eNN : IntKind.i64.wrap ((N : Int) + 1) = (NN : Int) := by rw [IntWalk.i64_in _ (by omega)]; omega
        rw [hNN] at LN RN
        have y0 : (0 : Int) ≤ (NN : Int) := by omega
        have y1 : (NN : Int) ≤ (c : Int) := by omega
        go_upto_region 10 with fail
        go_cut [11, 12] (fun s11 s12 wx => ∃ (g11 : Nat) (fa : Option Addr) (fc : Nat) (qa : Option Addr) (qc : Nat), s11 = .pointer (some ⟨g11, 0, none⟩) ∧ s12 = .int .i64 10 ∧ Hid (BL w9 wx) ∧ Hid (GK wx g11 (.slice fa N1 fc) (.slice qa M1 qc) S1 D1))
        case first => as_aux_lemma =>
          have P0 := BL.dr (BL.start w9)
          have P1 := BL.dr (BL.al (BL.start w9) (.cells #[.slice none 0 0, .slice none 0 0, .int .i64 0, .bool false] 43))
          have Z1 : Hid (GK (w9.alloc (.cells #[.slice none 0 0, .slice none 0 0, .int .i64 0, .bool false] 43)).drew w9.heap.size (.slice none 0 0) (.slice none 0 0) 0 false) := GK.lo (GK.new w9 _ _ _ _) ⟨rfl, rfl, rfl, Nat.le_refl _, fun _ _ => rfl⟩
          go_region_held3 (fun W => W.cell? ⟨w.heap.size, 0, none⟩ = some (.int .i64 l.fr) ∧ W.cell? ⟨w.heap.size, 1, none⟩ = some (.int .i64 l.pn) ∧ W.cell? ⟨w.heap.size, 2, none⟩ = some (.int .i64 l.bl) ∧ W.cell? ⟨w.heap.size, 3, none⟩ = some (.int .i64 l.tp))
            (first | with_reducible exact BL.law P0 A9 | with_reducible exact BL.law P1 A9 | with_reducible exact BL.law P2 A9 | with_reducible exact BL.law (BL.al P2 _) A9 | with_reducible exact BL.law P3 A9 | with_reducible exact BL.law (BL.al P3 _) A9 | with_reducible exact BL.law P4 A9 | with_reducible exact BL.law (BL.al P4 _) A9 | with_reducible exact BL.law (BL.put P4 (Nat.le_refl _) _ _ _ _) A9 | with_reducible exact BL.law (BL.put P4 P2.out.b.size _ _ _ _) A9 | with_reducible exact BL.law (BL.put P4 P3.out.b.size _ _ _ _) A9)
            (first
              | (go_at_call 17; refine (LAW.out w9.drew).mono ?_; rintro e wA ⟨rfl, hb⟩; have P2 := BL.lo P0 hb; clear hb)
              | (go_at_call 17; refine (LAW.out _).mono ?_; rintro e wA ⟨rfl, hb⟩; have P2 := BL.lo P1 hb; have Z2 := GK.lo Z1 hb; clear hb)
              | (go_at_call 19; refine (LN.out wA P2.out).mono ?_; rintro e wB ⟨v, rfl, ho, hb⟩; obtain ⟨vb, vd, rfl⟩ := own_len ho; have P3 := BL.lo P2 hb; have S3 := Lib.hid (own_ballsAt ho); (try have Z3 := GK.lo Z2 hb); clear hb ho)
              | (go_at_call 19; refine (LN.out _ (BL.al P2 _).out).mono ?_; rintro e wB ⟨v, rfl, ho, hb⟩; obtain ⟨vb, vd, rfl⟩ := own_len ho; have P3 := BL.lo (BL.al P2 _) hb; have S3 := Lib.hid (own_ballsAt ho); have Z3 := GK.lo (GK.new wA _ _ _ _) hb; clear hb ho)
              | (go_at_call 23; refine (RN.out vb vd wB S3.out).mono ?_; rintro e wC ⟨fa, fc, qa, qc, rfl, hb⟩; have P4 := BL.lo P3 hb; (try (have Z4 := GK.lo Z3 hb; obtain ⟨⟨d0, d1, d2, d3⟩, z0, z1, z2, z3⟩ := GK.fz Z4)); clear hb)
              | (go_at_call 23; refine (RN.out vb vd _ (S3.out.lo (below_al wB _))).mono ?_; rintro e wC ⟨fa, fc, qa, qc, rfl, hb⟩; have P4 := BL.lo (BL.al P3 _) hb; have Z4 := GK.lo (GK.new wB _ _ _ _) hb; obtain ⟨⟨d0, d1, d2, d3⟩, z0, z1, z2, z3⟩ := GK.fz Z4; clear hb))
          all_goals
            go_wp2_with fail
            go_meet
            first
              | exact ⟨_, fa, fc, qa, qc, rfl, rfl, BL.al P4 _, GK.new wC _ _ _ _⟩
              | exact ⟨_, fa, fc, qa, qc, rfl, rfl, BL.put P4 (Nat.le_refl _) _ _ _ _, GK.put Z4⟩
              | exact ⟨_, fa, fc, qa, qc, rfl, rfl, BL.put P4 P2.out.b.size _ _ _ _, GK.put Z4⟩
              | exact ⟨_, fa, fc, qa, qc, rfl, rfl, BL.put P4 P3.out.b.size _ _ _ _, GK.put Z4⟩
        case rest =>
          obtain ⟨g11, fa11, fc11, qa11, qc11, rfl, rfl, B11, G11⟩ := hcut
          have A11 := WL.lo A9 B11.out.b
          have G9b := GK.lo G9 B11.out.b
          clear RN LN A9 B11 G9 G11 eNN y0 y1 hcN1
          generalize wc = wd at A11 G9b ⊢
          have LN : Hid (∀ W, BL wd W → Calls Tryd.prog 19 #[.slice (some ⟨gx, ox, none⟩) N c] W fun e w' => ∃ v, e = .returned v ∧ w'.ownsRow W.heap.size 3 1 v N ((bs.take N).map (Value.int .i64)) ∧ Below W.heap.size W w') := Lib.hid (fun W h => by
            have h1 := TK.out N (by omega) W (HS.out.1.lo (A11.out.bl.trans (h.b.mono A11.out.bl.size)))
            rwa [List.length_take, Nat.min_eq_left (by omega)] at h1)
          have hl2 : (bs.take N ++ [0]).length = N + 1 := by rw [List.length_append, List.length_take, Nat.min_eq_left (by omega)]; rfl
          obtain ⟨ys, hys⟩ : ∃ ys, Hid (bs.take N ++ [0] = ys) := ⟨_, Lib.hid rfl⟩
          have RN : Hid (∀ a c W, BallsAt W a ys → Calls Tryd.prog 23 #[.agg #[.int .i64 l.fr, .int .i64 l.pn, .int .i64 l.bl, .int .i64 l.tp], .slice a (N + 1) c] W fun e w' => ∃ fa fc qa qc, e = .returned (.tuple #[.agg #[.slice fa (rdN l ys) fc, .slice qa (rdM l ys).length qc, .int .i64 (rdS l ys), .bool (rdD l ys)], .int .i64 (rdE l ys)]) ∧ Below W.heap.size W w') := Lib.hid (fun a c W h => by
            have h1 := rd_fr l ys a c W h
            rw [← hys.out, hl2, hys.out] at h1
            exact h1.mono fun e w' ⟨fa, fc, qa, qc, e1, _, _, hb⟩ => ⟨fa, fc, qa, qc, e1, hb⟩)
          have hk := FF.out.at'
          have hdn := FF.out.dn
          have hnd := FF.out.nd
          rw [hys.out] at hdn hnd
          rw [hD0'.out] at hdn hnd
          rw [hN0'.out, hS0'.out] at hnd
          obtain ⟨N2, hN2'⟩ : ∃ N2, rdN l ys = N2 := ⟨_, rfl⟩
          obtain ⟨M2, hM2'⟩ : ∃ M2, (rdM l ys).length = M2 := ⟨_, rfl⟩
          obtain ⟨S2, hS2'⟩ : ∃ S2, rdS l ys = S2 := ⟨_, rfl⟩
          obtain ⟨D2, hD2'⟩ : ∃ D2, rdD l ys = D2 := ⟨_, rfl⟩
          obtain ⟨E2, hE2'⟩ : ∃ E2, rdE l ys = E2 := ⟨_, rfl⟩
          rw [hN2', hM2', hS2', hD2', hE2'] at RN
          rw [hE2'] at hdn hnd
          rw [hN2'] at hnd
          replace hdn := Lib.hid hdn
          replace hnd := Lib.hid hnd
          replace hk := Lib.hid hk
          clear hl2 hN2' hM2' hS2' hD2' hE2' hM0' hN0' hS0' hD0' FF
          go_upto_region 11 with fail
          go_cut [13, 14] (fun s13 s14 wx => ∃ (g13 : Nat) (fa : Option Addr) (fc : Nat) (qa : Option Addr) (qc : Nat), s13 = .pointer (some ⟨g13, 0, none⟩) ∧ s14 = .int .i64 E2 ∧ Hid (BL wd wx) ∧ Hid (GK wx g13 (.slice fa N2 fc) (.slice qa M2 qc) S2 D2))
          case first => as_aux_lemma =>
            rw [hNN] at RN
            clear hdn hnd hk HT HS WAK G9b TK
            obtain ⟨i3, hi3, hy0, hy1, hy2⟩ := info_parts info3
            have hd0 : wd.heap.size ≤ wd.heap.size := Nat.le_refl _
            go_region_held3 (fun W => W.cell? ⟨w.heap.size, 0, none⟩ = some (.int .i64 l.fr) ∧ W.cell? ⟨w.heap.size, 1, none⟩ = some (.int .i64 l.pn) ∧ W.cell? ⟨w.heap.size, 2, none⟩ = some (.int .i64 l.bl) ∧ W.cell? ⟨w.heap.size, 3, none⟩ = some (.int .i64 l.tp))
              (with_reducible first | exact BL.law (BL.dr (BL.start wd)) A11 | exact BL.law (BL.dr (BL.al (BL.start wd) _)) A11 | exact BL.law (BL.dr (BL.al (BL.al (BL.start wd) _) _)) A11 | exact BL.law (PA) A11 | exact BL.law (BL.al PA _) A11 | exact BL.law (BL.al (BL.al PA _) _) A11 | exact BL.law (PB) A11 | exact BL.law (BL.al PB _) A11 | exact BL.law (BL.al (BL.al PB _) _) A11 | exact BL.law (PC) A11 | exact BL.law (BL.al PC _) A11 | exact BL.law (PD) A11 | exact BL.law (BL.al PD _) A11 | exact BL.law (BL.put PD (by omega) _ _ _ _) A11)
              (first
                | (go_at_call 17; (with_reducible refine (LAW.out _).mono ?_); rintro e wA ⟨rfl, hb⟩; (with_reducible first | have PA := BL.lo (BL.dr (BL.start wd)) hb | have PA := BL.lo (BL.dr (BL.al (BL.start wd) _)) hb | have PA := BL.lo (BL.dr (BL.al (BL.al (BL.start wd) _) _)) hb); (try with_reducible first | have ZA := GK.lo (GK.dr (GK.new wd _ _ _ _)) hb | have ZA := GK.lo (GK.dr (GK.al (GK.new wd _ _ _ _) _)) hb | have ZA := GK.lo (GK.dr (GK.new1 wd _ _ _ _ _)) hb); (try with_reducible first | have NA := NB.lo (NB.dr (NB.new wd _)) hb | have NA := NB.lo (NB.dr (NB.al (NB.new wd _) _)) hb | have NA := NB.lo (NB.dr (NB.new1 wd _ _)) hb); have hA := PA.out.b.size; clear hb)
                | (go_at_call 19; (with_reducible first | refine (LN.out _ (PA).out).mono ?_ | refine (LN.out _ (BL.al PA _).out).mono ?_ | refine (LN.out _ (BL.al (BL.al PA _) _).out).mono ?_); rintro e wB ⟨v, rfl, ho, hb⟩; obtain ⟨vb, vd, rfl⟩ := own_len ho; (with_reducible first | have PB := BL.lo (PA) hb | have PB := BL.lo (BL.al PA _) hb | have PB := BL.lo (BL.al (BL.al PA _) _) hb); (try with_reducible first | (have hz := GK.lst (ZA) hb ho; have ZB := hz.1; have EB := hz.2; clear hz) | (have hz := GK.lst (GK.al ZA _) hb ho; have ZB := hz.1; have EB := hz.2; clear hz) | (have hz := GK.lst (GK.new wA _ _ _ _) hb ho; have ZB := hz.1; have EB := hz.2; clear hz) | (have hz := GK.lst (GK.al (GK.new wA _ _ _ _) _) hb ho; have ZB := hz.1; have EB := hz.2; clear hz) | (have hz := GK.lst (GK.new1 wA _ _ _ _ _) hb ho; have ZB := hz.1; have EB := hz.2; clear hz)); (try with_reducible first | have NN := NB.lo (NA) hb | have NN := NB.lo (NB.al NA _) hb | have NN := NB.lo (NB.new wA _) hb | have NN := NB.lo (NB.al (NB.new wA _) _) hb | have NN := NB.lo (NB.new1 wA _ _) hb); have OB := Lib.hid ho; have hB := PB.out.b.size; (with_reducible first | have hOB := Lib.hid (bl_base (PA) hb) | have hOB := Lib.hid (bl_base (BL.al PA _) hb) | have hOB := Lib.hid (bl_base (BL.al (BL.al PA _) _) hb)); have hbs := Lib.hid hb.size; clear hb ho)
                | (go_at_call 23; (with_reducible first | refine (RN.out _ _ _ SC.out).mono ?_ | refine (RN.out _ _ _ (SC.out.lo (below_al _ _))).mono ?_); rintro e wD ⟨fa, fc, qa, qc, rfl, hb⟩; (with_reducible first | have PD := BL.lo (PC) hb | have PD := BL.lo (BL.al PC _) hb); (try with_reducible first | (have ZD := GK.lo (ZC) hb; have hf := GK.fz ZD; obtain ⟨⟨d0, d1, d2, d3⟩, z0, z1, z2, z3⟩ := hf) | (have ZD := GK.lo (GK.new wC _ _ _ _) hb; have hf := GK.fz ZD; obtain ⟨⟨d0, d1, d2, d3⟩, z0, z1, z2, z3⟩ := hf)); have hD := PD.out.b.size; clear hb)
                | ((with_reducible refine append_here ?_); refine step_append_lies _ (by rfl) _ _ 24 (by rfl) _ 3 i3 (.int .i64 0) 1 8 Tryd.underlying24 hi3 hy0 hy1 hy2 rfl (by decide) _ N _ (by rfl) (OB.out) ⟨_, 0, none⟩ 1 1 [Value.int .i64 0] (by rfl) rfl (NB.news (NN)) (by simp [Value.oneCell']) (by decide) (by unfold maxLen; omega) (by omega) (hbs.out) _ rfl ?_; intro g cap wC hown hgrow hat hlt; have PC := BL.grow (PB) OB.out hOB.out hgrow; (try have ZC := GK.grow ZB hgrow EB.out); have SC := sn_balls hys.out hown; have hC := PC.out.b.size; clear hown hgrow hat hlt)
                | ((with_reducible refine append_here ?_); refine step_append_lies _ (by rfl) _ _ 24 (by rfl) _ 3 i3 (.int .i64 0) 1 8 Tryd.underlying24 hi3 hy0 hy1 hy2 rfl (by decide) _ N _ (by rfl) (own_al OB.out _) ⟨_, 0, none⟩ 1 1 [Value.int .i64 0] (by rfl) rfl (NB.news (NB.al NN _)) (by simp [Value.oneCell']) (by decide) (by unfold maxLen; omega) (by omega) (Nat.le_trans hbs.out (below_al _ _).size) _ rfl ?_; intro g cap wC hown hgrow hat hlt; have PC := BL.grow (BL.al PB _) OB.out hOB.out hgrow; have ZC := GK.grow (GK.new wB _ _ _ _) hgrow (own_ne2 OB.out (Nat.le_refl _)).out; have SC := sn_balls hys.out hown; have hC := PC.out.b.size; clear hown hgrow hat hlt)
                | ((with_reducible refine append_here ?_); refine step_append_lies _ (by rfl) _ _ 24 (by rfl) _ 3 i3 (.int .i64 0) 1 8 Tryd.underlying24 hi3 hy0 hy1 hy2 rfl (by decide) _ N _ (by rfl) (own_al OB.out _) ⟨_, 0, none⟩ 1 1 [Value.int .i64 0] (by rfl) rfl (NB.news (NB.new wB _)) (by simp [Value.oneCell']) (by decide) (by unfold maxLen; omega) (by omega) (Nat.le_trans hbs.out (below_al _ _).size) _ rfl ?_; intro g cap wC hown hgrow hat hlt; have PC := BL.grow (BL.al PB _) OB.out hOB.out hgrow; (try have ZC := GK.grow (GK.al ZB _) hgrow EB.out); have SC := sn_balls hys.out hown; have hC := PC.out.b.size; clear hown hgrow hat hlt)
                | ((with_reducible refine append_here ?_); refine step_append_lies _ (by rfl) _ _ 24 (by rfl) _ 3 i3 (.int .i64 0) 1 8 Tryd.underlying24 hi3 hy0 hy1 hy2 rfl (by decide) _ N _ (by rfl) (own_al (own_al OB.out _) _) ⟨_, 0, none⟩ 1 1 [Value.int .i64 0] (by rfl) rfl (NB.news (NB.new1 wB _ _)) (by simp [Value.oneCell']) (by decide) (by unfold maxLen; omega) (by omega) (Nat.le_trans hbs.out (Nat.le_trans (below_al _ _).size (below_al _ _).size)) _ rfl ?_; intro g cap wC hown hgrow hat hlt; have PC := BL.grow (BL.al (BL.al PB _) _) OB.out hOB.out hgrow; have ZC := GK.grow (GK.al (GK.new wB _ _ _ _) _) hgrow (own_ne2 OB.out (Nat.le_refl _)).out; have SC := sn_balls hys.out hown; have hC := PC.out.b.size; clear hown hgrow hat hlt)
                | ((with_reducible refine append_here ?_); refine step_append_lies _ (by rfl) _ _ 24 (by rfl) _ 3 i3 (.int .i64 0) 1 8 Tryd.underlying24 hi3 hy0 hy1 hy2 rfl (by decide) _ N _ (by rfl) (own_al (own_al OB.out _) _) ⟨_, 0, none⟩ 1 1 [Value.int .i64 0] (by rfl) rfl (NB.news (NB.al (NB.new wB _) _)) (by simp [Value.oneCell']) (by decide) (by unfold maxLen; omega) (by omega) (Nat.le_trans hbs.out (Nat.le_trans (below_al _ _).size (below_al _ _).size)) _ rfl ?_; intro g cap wC hown hgrow hat hlt; have PC := BL.grow (BL.al (BL.al PB _) _) OB.out hOB.out hgrow; have ZC := GK.grow (GK.new1 wB _ _ _ _ _) hgrow (own_ne2 OB.out (Nat.le_succ _)).out; have SC := sn_balls hys.out hown; have hC := PC.out.b.size; clear hown hgrow hat hlt))
            all_goals
              go_wp2_with fail
              go_meet
              first
                | exact ⟨_, fa, fc, qa, qc, rfl, rfl, BL.al PD _, GK.new wD _ _ _ _⟩
                | exact ⟨_, fa, fc, qa, qc, rfl, rfl, BL.put PD (by omega) _ _ _ _, GK.put ZD⟩
          case rest =>
            obtain ⟨g13, fa13, fc13, qa13, qc13, rfl, rfl, B13, G13⟩ := hcut
            have A13 := WL.lo A11 B13.out.b
            have G9c := GK.lo G9b B13.out.b
            clear RN LN A11 B13 G9b
            generalize wc = we at A13 G9c G13 ⊢
            obtain ⟨c0, c1, c2, c3⟩ := GK.at G9c
            obtain ⟨f0, f1, f2, f3⟩ := GK.at G13
            cases D0
            · obtain ⟨rfl, h2, h3⟩ := hnd.out rfl
              have h2i : (N0 : Int) ≤ (N2 : Int) := by omega
              obtain ⟨g', o', e', hc'⟩ := HS.out.1 N k hk.out
              cases e'
              have cK : we.cell? ⟨gx, ox + N, none⟩ = some (.int .i64 k) := below_cell A13.out.bl hc'
              have HTW := Lib.hid (HT.out.below A13.out.bl HT.out.pos)
              have WK : Hid (Calls Tryd.prog 15 #[] we.drew fun e w' => e = .returned (.bool true) ∧ Below w.heap.size w w') := Lib.hid ((WAK.out we.drew (HTW.out.below (B := we.heap.size) ⟨rfl, rfl, rfl, Nat.le_refl _, fun _ _ => rfl⟩ HTW.out.pos)).mono fun e w' h => ⟨h.1, (WL.dr A13).out.bl.trans (h.2.mono (WL.dr A13).out.bl.size)⟩)
              clear hc' HTW hnd hdn
              by_cases hk1 : k < -1
              · go_wp2
                refine wp_region_still_tail 28 (by kernel_rfl) (by kernel_rfl) ?_
                simp only [List.take_succ_cons, List.take_zero, List.drop_succ_cons, List.drop_zero]
                iterate 28 (with_reducible refine wpStill_step (fun K hK => ?_); go_simp; with_reducible refine hK _ ?_; clear hK K)
                with_reducible refine wpStill_nil ?_
                go_wp2_with fail
                refine WK.out.mono ?_
                rintro e wf ⟨rfl, hb⟩
                have BF := Lib.hid hb
                clear hb
                go_wp2_with fail
                go_ret
                exact ⟨rfl, BF.out⟩
              · have hk2 : S0 < k := by omega
                go_wp2
                refine wp_region_still_tail 28 (by kernel_rfl) (by kernel_rfl) ?_
                simp only [List.take_succ_cons, List.take_zero, List.drop_succ_cons, List.drop_zero]
                iterate 28 (with_reducible refine wpStill_step (fun K hK => ?_); go_simp; with_reducible refine hK _ ?_; clear hK K)
                with_reducible refine wpStill_nil ?_
                go_wp2_with fail
                refine WK.out.mono ?_
                rintro e wf ⟨rfl, hb⟩
                have BF := Lib.hid hb
                clear hb
                go_wp2_with fail
                go_ret
                exact ⟨rfl, BF.out⟩
            · obtain rfl := hdn.out rfl
              go_wp2_with fail
              refine (WAK.out _ (HT.out.below A13.out.bl HT.out.pos)).mono ?_
              rintro e wf ⟨rfl, hb⟩
              have BF := Lib.hid (A13.out.bl.trans (hb.mono A13.out.bl.size))
              clear hb
              go_wp2_with fail
              go_ret
              exact ⟨rfl, BF.out⟩

end Go.Proofs.YtmjbidnlknmcgaaDoor
