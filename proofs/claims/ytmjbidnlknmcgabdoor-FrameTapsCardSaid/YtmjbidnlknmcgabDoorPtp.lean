/- FrameTaps: for any law, any sheet that is a game's, and any Tap that is not greater: if the sheet is a game's by the law with that Tap, too, with the same balls in each frame, no count that both have is less; and the document's first examples come out. Its conditions: none on the input (other sheets are let by, as the statement does); the library's table deBruijn64tab reads as its own text lays it (the card ties it). -/
import Derived.Test.YtmjbidnlknmcgabDoorRk2
import Derived.Test.YtmjbidnlknmcgabDoorTp
import Derived.Test.YtmjbidnlknmcgabDoorFw0
set_option linter.unusedVariables false
set_option linter.unusedSimpArgs false
namespace Go.Proofs.YtmjbidnlknmcgabDoor
open Go.RowKit

theorem rd_bdT {l : Lw} {bs : List Int} (h : rdE l bs = 0) : rdN l bs ≤ 1000 ∧ ∀ zs ∈ rdF l bs, zs.length ≤ 1000 := by
  obtain ⟨ok, hw, _⟩ := recS_ok h
  have hlen : bs.length ≤ 40 := (errS_zero (rdE_zero h).1).2
  have hfl := hw.fl
  have hf2 := hw.vd.f2
  have hf3 := ok.f2
  refine ⟨?_, fun zs hz => ?_⟩
  · simp only [rdN, h, if_true]
    split at hfl <;> omega
  · simp only [rdF, h, if_true] at hz
    have := hw.zs zs hz
    omega

theorem rem_bd {m t : Int} (hm : 0 ≤ m) (ht : 1 ≤ t) : 0 ≤ m.tmod t ∧ m.tmod t < t := by
  rw [Int.tmod_eq_emod_of_nonneg hm]
  exact ⟨Int.emod_nonneg _ (by omega), Int.emod_lt_of_pos _ (by omega)⟩

/-- What both reads say, frame by frame and count by count. -/
theorem take_ext {α : Type} {F G : List α} {k : Nat} {z : α} (h : F.take k = G.take k) (hz : F[k]? = some z) (hg : G[k]? = some z) : F.take (k + 1) = G.take (k + 1) := by
  rw [List.take_add_one, List.take_add_one, h, hz, hg]

set_option maxRecDepth 100000 in
set_option maxHeartbeats 16000000 in
theorem taps_any (l : Lw) (bs : List Int) (a : Option Addr) (c : Nat) (m : Int) (w : World) (hs : SheetAt w a c bs) (hT : TabOK w) (hm0 : 0 ≤ m) (hm1 : m < 256) :
    Calls Tryd.prog 4 #[l.val, .slice a bs.length c, .int .u8 m] w fun e w' => e = .returned (.bool true) ∧ Below w.heap.size w w' := by
  have HT := Lib.hid hT
  have HS := Lib.hid hs
  have WAK := Lib.hid wakes_any
  have RDY := Lib.hid (ready_any l bs)
  clear hT hs
  by_cases he : rdE l bs = 0
  · have hd : decide (rdE l bs = 0) = true := by simp [he]
    rw [hd] at RDY
    have ok := (recS_ok he).1
    have hlen : bs.length ≤ 40 := (errS_zero (rdE_zero he).1).2
    have LST := Lib.hid (fun w h => list_any bs a c w h (by omega))
    have t1 := ok.t1
    have t2 := ok.t2
    have p2 := ok.p2
    obtain ⟨q0, q1⟩ := rem_bd (t := l.tp) hm0 t1
    obtain ⟨q, hq⟩ : ∃ q, m.tmod l.tp = q := ⟨_, rfl⟩
    rw [hq] at q0 q1
    obtain ⟨t, ht⟩ : ∃ t, 1 + q = t := ⟨_, rfl⟩
    have hw0 : IntKind.i64.wrap m = m := IntWalk.i64_in _ (by omega)
    have hw1 : IntKind.i64.wrap q = q := IntWalk.i64_in _ (by omega)
    have hw2 : IntKind.i64.wrap (1 + q) = t := by rw [IntWalk.i64_in _ (by omega)]; exact ht
    have hz : (l.tp == 0) = false := by simp; omega
    have hz2 : ¬ l.tp = 0 := by omega
    have okx : (⟨l.fr, l.pn, l.bl, t⟩ : Lw).Ok := by
      have o := ok
      exact ⟨o.f1, o.f2, o.p1, o.p2, o.b, by show 1 ≤ t; omega, by show t ≤ l.pn; omega⟩
    have hkd : Kd l ⟨l.fr, l.pn, l.bl, t⟩ := ⟨rfl, rfl, rfl, by show t ≤ l.tp; omega⟩
    have LAW := Lib.hid (law_any l)
    have LAX := Lib.hid (law_any ⟨l.fr, l.pn, l.bl, t⟩)
    have RD := Lib.hid (fun a c w hs => rd_fr l bs a c w hs)
    have RX := Lib.hid (fun a c w hs => rd_fr ⟨l.fr, l.pn, l.bl, t⟩ bs a c w hs)
    have TPL := Lib.hid (taps_le (bs := bs) hkd he)
    have BD1 := Lib.hid (rd_bdT he)
    have BD2 := Lib.hid (fun h => rd_bdT (l := ⟨l.fr, l.pn, l.bl, t⟩) (bs := bs) h)
    have hex : rdE ⟨l.fr, l.pn, l.bl, t⟩ bs = 0 ∨ rdE ⟨l.fr, l.pn, l.bl, t⟩ bs = 10 := by
      have h1 : errS ⟨l.fr, l.pn, l.bl, t⟩ bs.length = 0 := by simp only [errS, (okB_iff _).2 okx, if_true]; rw [if_pos hlen]
      unfold rdE
      rw [if_neg (by simp [h1])]
      split
      · exact .inr rfl
      · exact .inl rfl
    have ML1 := Lib.hid (rdM_le l bs)
    have ML2 := Lib.hid (rdM_le ⟨l.fr, l.pn, l.bl, t⟩ bs)
    rw [he] at RD
    generalize rdE ⟨l.fr, l.pn, l.bl, t⟩ bs = EX at RX TPL BD2 hex
    generalize rdM l bs = M1 at RD TPL ML1
    generalize rdM ⟨l.fr, l.pn, l.bl, t⟩ bs = M2 at RX TPL ML2
    generalize rdS l bs = S1 at RD
    generalize rdD l bs = D1 at RD
    generalize rdS ⟨l.fr, l.pn, l.bl, t⟩ bs = S2 at RX
    generalize rdD ⟨l.fr, l.pn, l.bl, t⟩ bs = D2 at RX
    generalize rdF l bs = F1 at RD TPL BD1
    generalize rdF ⟨l.fr, l.pn, l.bl, t⟩ bs = F2 at RX TPL BD2
    generalize rdN l bs = N1 at RD BD1
    generalize rdN ⟨l.fr, l.pn, l.bl, t⟩ bs = N2 at RX BD2
    obtain ⟨m1, hmm1⟩ : ∃ m1, M1.length = m1 := ⟨_, rfl⟩
    obtain ⟨m2, hmm2⟩ : ∃ m2, M2.length = m2 := ⟨_, rfl⟩
    rw [hmm1] at RD ML1
    rw [hmm2] at RX ML2
    have HM1 := Lib.hid hmm1
    have HM2 := Lib.hid hmm2
    obtain ⟨n, hn⟩ : ∃ n, bs.length = n := ⟨_, rfl⟩
    rw [hn] at RD RX LST RDY ⊢
    clear hd he ok okx hkd hlen t1 t2 p2 q0 q1 ht hmm1 hmm2 hn hm0 hm1
    unfold Lw.val at *
    simp only at LAX RX
    go_enter Tryd.func4, Tryd.ntmps4
    go_wp2_with fail
    have A1 := WL.start w l
    generalize World.alloc w _ = w1 at A1 ⊢
    obtain ⟨k0, k1, k2, k3⟩ := WL.at A1
    go_wp2_with fail
    refine (RDY.out a c w1 (HS.out.1.lo A1.out.bl)).mono ?_
    rintro e w2 ⟨rfl, hb⟩
    have A2 := WL.lo A1 hb
    clear hb A1 k0 k1 k2 k3 RDY
    obtain ⟨k0, k1, k2, k3⟩ := WL.at A2
    have hlaw : Hid (LB (w2.alloc (.cells #[.int .i64 l.fr, .int .i64 l.pn, .int .i64 l.bl, .int .i64 l.tp] 23)) w2.heap.size l) := Lib.hid ⟨heap_alloc_new w2 _⟩
    have A3 := WL.al A2 (.cells #[.int .i64 l.fr, .int .i64 l.pn, .int .i64 l.bl, .int .i64 l.tp] 23)
    have hsz : w.heap.size < w2.heap.size := WL.sz A2
    go_upto_region 4 with fail
    obtain ⟨b7, hb7⟩ : ∃ b7, w2.heap.size = b7 := ⟨_, rfl⟩
    rw [hb7] at hlaw hsz ⊢
    clear hb7 k0 k1 k2 k3
    generalize World.alloc w2 _ = w3 at A3 hlaw ⊢
    obtain ⟨k0, k1, k2, k3⟩ := WL.at A3
    obtain ⟨c0, c1, c2, c3⟩ := LB.at hlaw
    have z3 : w3.frozen? ⟨b7, 3, none⟩ = false := by have h := hlaw.out.blk; simp [World.frozen?, h]
    go_upto_region 5 with fail
    have A4 := WL.set A3 (p := ⟨b7, 3, none⟩) hsz (.int .i64 t)
    have X4 : Hid (LB (w3.setCell ⟨b7, 3, none⟩ (.int .i64 t)) b7 ⟨l.fr, l.pn, l.bl, t⟩) := Lib.hid ⟨by simpa using blk_setCell hlaw.out.blk 3 (.int .i64 t)⟩
    clear A3 hlaw k0 k1 k2 k3 c0 c1 c2 c3 z3 A2
    generalize World.setCell w3 _ _ = w4 at A4 X4 ⊢
    obtain ⟨k0, k1, k2, k3⟩ := WL.at A4
    go_wp2_with fail
    refine (LAW.out w4).mono ?_
    rintro e w5 ⟨rfl, hb⟩
    have A5 := WL.lo A4 hb
    have X5 := LB.lo X4 hb
    clear hb A4 X4 k0 k1 k2 k3
    go_wp2_with fail
    refine (LST.out w5 (HS.out.lo A5.out.bl)).mono ?_
    rintro e w6 ⟨v, rfl, ho, hb⟩
    obtain ⟨va, vc, rfl⟩ := own_len ho
    have A6 := WL.lo A5 hb
    have X6 := LB.lo X5 hb
    have S6 := Lib.hid (own_ballsAt ho)
    clear hb ho A5 X5
    go_wp2_with fail
    refine (RD.out va vc w6 S6.out).mono ?_
    rintro e w7 ⟨fa, fc, qa, qc, rfl, hQ, hF, hb⟩
    have hal := below_al w7 (.cells #[.slice fa N1 fc, .slice qa m1 qc, .int .i64 S1, .bool D1] 38)
    have A8 := WL.lo (WL.lo A6 hb) hal
    have X8 := LB.lo (LB.lo X6 hb) hal
    have Q8 := Lib.hid (hQ.out.lo hal)
    have F8 := FR.lo hF hal
    have G8 := GK.new w7 (.slice fa N1 fc) (.slice qa m1 qc) S1 D1
    clear hb hQ hF A6 X6 S6 hal
    obtain ⟨k0, k1, k2, k3⟩ := LB.at X8
    simp only at k0 k1 k2 k3
    go_wp2_with fail
    obtain ⟨p8, hp8⟩ : ∃ p8, w7.heap.size = p8 := ⟨_, rfl⟩
    rw [hp8] at G8 ⊢
    clear hp8
    generalize World.alloc w7 _ = w8 at A8 X8 Q8 F8 G8 k0 k1 k2 k3 ⊢
    refine (LAX.out w8).mono ?_
    rintro e w9 ⟨rfl, hb⟩
    have A9 := WL.lo A8 hb
    have Q9 := Lib.hid (Q8.out.lo hb)
    have F9 := FR.lo F8 hb
    have G9 := GK.lo G8 hb
    clear hb A8 X8 Q8 F8 G8 k0 k1 k2 k3
    go_wp2_with fail
    refine (LST.out w9 (HS.out.lo A9.out.bl)).mono ?_
    rintro e w10 ⟨v, rfl, ho, hb⟩
    obtain ⟨vb, vd, rfl⟩ := own_len ho
    have A10 := WL.lo A9 hb
    have Q10 := Lib.hid (Q9.out.lo hb)
    have F10 := FR.lo F9 hb
    have G10 := GK.lo G9 hb
    have S10 := Lib.hid (own_ballsAt ho)
    clear hb ho A9 Q9 F9 G9
    go_wp2_with fail
    refine (RX.out vb vd w10 S10.out).mono ?_
    rintro e w11 ⟨fb, fd, qb, qd, rfl, hQ, hF, hb⟩
    have hal := below_al w11 (.cells #[.slice fb N2 fd, .slice qb m2 qd, .int .i64 S2, .bool D2] 38)
    have A12 := WL.lo (WL.lo A10 hb) hal
    have Q12 := Lib.hid ((Q10.out.lo hb).lo hal)
    have F12 := FR.lo (FR.lo F10 hb) hal
    have G12 := GK.lo (GK.lo G10 hb) hal
    have R12 := Lib.hid (hQ.out.lo hal)
    have E12 := FR.lo hF hal
    have H12 := GK.new w11 (.slice fb N2 fd) (.slice qb m2 qd) S2 D2
    clear hb hQ hF A10 Q10 F10 G10 S10 hal LAW LAX LST RD RX HS
    go_upto_region 7 with fail
    obtain ⟨p12, hp12⟩ : ∃ p12, w11.heap.size = p12 := ⟨_, rfl⟩
    rw [hp12] at H12 ⊢
    clear hp12
    generalize World.alloc w11 _ = w12 at A12 Q12 F12 G12 R12 E12 H12 ⊢
    obtain ⟨g0, g1, g2, g3⟩ := GK.at G12
    obtain ⟨h0, h1, h2, h3⟩ := GK.at H12
    rcases hex with rfl | rfl
    · by_cases hN : N1 = N2
      · subst hN
        have hNb : ((N1 : Int) != (N1 : Int)) = false := by simp
        have hb1 := BD1.out.1
        have TP := Lib.hid (TPL.out rfl)
        have B2 := Lib.hid (BD2.out rfl).2
        have B1 := Lib.hid BD1.out.2
        clear TPL BD2 BD1
        go_wp2_with fail
        clear g0 g1 g2 g3 h0 h1 h2 h3
        go_loopg [12] N1 (fun g s12 wx => ∃ (k : Nat), k ≤ N1 ∧ g = N1 - k ∧ s12 = .int .i64 (k : Int) ∧ Hid (F1.take k = F2.take k) ∧ Hid (BL w12 wx))
        case atStart => exact ⟨0, by omega, rfl, rfl, Lib.hid (by simp), BL.start w12⟩
        case round =>
          obtain ⟨k, hk, rfl, rfl, hT1, hB⟩ := hrel
          have AR := WL.lo A12 hB.out.b
          obtain ⟨g0, g1, g2, g3⟩ := GK.at (GK.lo G12 hB.out.b)
          obtain ⟨h0, h1, h2, h3⟩ := GK.at (GK.lo H12 hB.out.b)
          by_cases hkn : k < N1
          · have hv0 : (0 : Int) ≤ (k : Int) := by omega
            have hv1 : (k : Int) < (N1 : Int) := by omega
            have hw3 : IntKind.i64.wrap ((k : Int) + 1) = (k : Int) + 1 := IntWalk.i64_in _ (by omega)
            have fl := F12.out.len
            have el := E12.out.len
            obtain ⟨z1, hz1⟩ : ∃ z1, F1[k]? = some z1 := ⟨F1[k]'(by omega), List.getElem?_eq_getElem _⟩
            obtain ⟨z2, hz2⟩ : ∃ z2, F2[k]? = some z2 := ⟨F2[k]'(by omega), List.getElem?_eq_getElem _⟩
            obtain ⟨gf, xa, xc, hfa, hc1, hb1⟩ := (FR.lo F12 hB.out.b).out.get hz1
            obtain ⟨ge, ya, yc, hfb, hc2, hb2⟩ := (FR.lo E12 hB.out.b).out.get hz2
            have hl1 := B1.out z1 (List.mem_of_getElem? hz1)
            have hl2 := B2.out z2 (List.mem_of_getElem? hz2)
            have IN0 := fun (W : World) (h : Hid (BL wr W)) => ints_any z1 z2 xa ya xc yc W (hb1.lo h.out.b) (hb2.lo h.out.b) hl1 hl2
            obtain ⟨dz, hdz⟩ : ∃ dz, decide (z1 = z2) = dz := ⟨_, rfl⟩
            rw [hdz] at IN0
            obtain ⟨n1, hn1⟩ : ∃ n1, z1.length = n1 := ⟨_, rfl⟩
            obtain ⟨n2, hn2⟩ : ∃ n2, z2.length = n2 := ⟨_, rfl⟩
            rw [hn1] at hc1 IN0
            rw [hn2] at hc2 IN0
            have IN := Lib.hid IN0
            have SP : Hid (∀ W, Hid (BL wr W) → (W.cell? ⟨p8, 0, none⟩ = some (.slice fa N1 fc) ∧ W.cell? ⟨p12, 0, none⟩ = some (.slice fb N1 fd) ∧ W.cell? ⟨gf, k, none⟩ = some (.slice xa n1 xc) ∧ W.cell? ⟨ge, k, none⟩ = some (.slice ya n2 yc))) :=
              Lib.hid (fun W h => ⟨below_cell h.out.b g0, below_cell h.out.b h0, below_cell h.out.b hc1, below_cell h.out.b hc2⟩)
            have HZ1 := Lib.hid hz1
            have HZ2 := Lib.hid hz2
            have HDZ := Lib.hid hdz
            clear IN0 hb1 hb2 hl1 hl2 hn1 hn2 hz1 hz2 hdz g1 g2 g3 h0 h1 h2 h3 hc1 hc2 fl el
            subst hfa
            subst hfb
            go_upto_region 14 with fail
            clear g0
            go_cut [83] (fun s83 wx => s83 = .bool (!dz) ∧ Hid (BL wr wx))
            case first =>
              clear AR HZ1 HZ2 HDZ hT1 hB A12 Q12 F12 G12 R12 E12 H12 TP B1 B2 HT WAK HM1 HM2 ML1 ML2
              go_region_held3 (fun W => W.cell? ⟨p8, 0, none⟩ = some (.slice (some ⟨gf, 0, none⟩) N1 fc) ∧ W.cell? ⟨p12, 0, none⟩ = some (.slice (some ⟨ge, 0, none⟩) N1 fd) ∧ W.cell? ⟨gf, k, none⟩ = some (.slice xa n1 xc) ∧ W.cell? ⟨ge, k, none⟩ = some (.slice ya n2 yc))
                (with_reducible first | exact SP.out _ (BL.dr (BL.start wr)) | exact SP.out _ PA)
                (first
                  | (go_at_call 11; (with_reducible refine (IN.out _ (BL.dr (BL.start wr))).mono ?_); rintro e wA ⟨rfl, hg⟩; have PA := BL.lo (BL.dr (BL.start wr)) (grown_belowN hg.out); clear hg))
              all_goals
                go_wp2_with fail
                go_meet
                with_reducible exact ⟨rfl, PA⟩
            case rest =>
              obtain ⟨rfl, PA⟩ := hcut
              have B9 := BL.lo hB PA.out.b
              have A9 := WL.lo A12 B9.out.b
              clear SP IN hB PA AR
              cases dz
              · go_wp2_with fail
                refine (WAK.out _ (HT.out.below A9.out.bl HT.out.pos)).mono ?_
                rintro e wZ ⟨rfl, hb⟩
                have BF := Lib.hid (A9.out.bl.trans (hb.mono A9.out.bl.size))
                clear hb
                go_wp2_with fail
                go_ret
                exact ⟨rfl, BF.out⟩
              · go_wp2_with fail
                go_roundg (N1 - (k + 1))
                case measure => omega
                case rel =>
                  have e12 : z1 = z2 := of_decide_eq_true HDZ.out
                  refine ⟨k + 1, by omega, rfl, by simp, Lib.hid (take_ext hT1.out HZ1.out (by rw [e12]; exact HZ2.out)), B9⟩
          · have hke : k = N1 := by omega
            have hv1 : ¬ (k : Int) < (N1 : Int) := by omega
            have hFF : F1 = F2 := by
              have h1 := hT1.out
              rw [hke, List.take_of_length_le (by have := F12.out.len; omega), List.take_of_length_le (by have := E12.out.len; omega)] at h1
              exact h1
            have LE := Lib.hid (TP.out hFF)
            have Q13 := Lib.hid (Q12.out.lo hB.out.b)
            have R13 := Lib.hid (R12.out.lo hB.out.b)
            have G13 := GK.lo G12 hB.out.b
            have H13 := GK.lo H12 hB.out.b
            clear hke hFF hT1 TP B1 B2 F12 E12 Q12 R12 G12 H12 hB A12
            go_wp2_with fail
            clear g0 g1 g2 g3 h0 h1 h2 h3
            generalize wr = w13 at AR Q13 R13 G13 H13 ⊢
            have hm10 := ML1.out
            go_loopg [13] m1 (fun g s13 wx => ∃ (j : Nat), j ≤ m1 ∧ g = m1 - j ∧ s13 = .int .i64 (j : Int) ∧ Hid (BL w13 wx))
            case atStart => exact ⟨0, by omega, rfl, rfl, BL.start w13⟩
            case round =>
              obtain ⟨j, hj, rfl, rfl, hB⟩ := hrel
              obtain ⟨g0, g1, g2, g3⟩ := GK.at (GK.lo G13 hB.out.b)
              obtain ⟨h0, h1, h2, h3⟩ := GK.at (GK.lo H13 hB.out.b)
              have AJ := WL.lo AR hB.out.b
              by_cases hj1 : j < m1
              · have hu1 : (j : Int) < (m1 : Int) := by omega
                by_cases hj2 : j < m2
                · have hu0 : (0 : Int) ≤ (j : Int) := by omega
                  have hu2 : (j : Int) < (m2 : Int) := by omega
                  have hw4 : IntKind.i64.wrap ((j : Int) + 1) = (j : Int) + 1 := IntWalk.i64_in _ (by omega)
                  obtain ⟨v1, hv1⟩ : ∃ v1, M1[j]? = some v1 := ⟨M1[j]'(by rw [HM1.out]; exact hj1), List.getElem?_eq_getElem _⟩
                  obtain ⟨v2, hv2⟩ : ∃ v2, M2[j]? = some v2 := ⟨M2[j]'(by rw [HM2.out]; exact hj2), List.getElem?_eq_getElem _⟩
                  have hle : ¬ v2 < v1 := by have := LE.out j v1 v2 hv1 hv2; omega
                  obtain ⟨ga, oa, hqa, hca⟩ := (Q13.out.lo hB.out.b) j v1 hv1
                  obtain ⟨gb, ob, hqb, hcb⟩ := (R13.out.lo hB.out.b) j v2 hv2
                  subst hqa
                  subst hqb
                  have W14 : Hid (BL w13 wr.drew) := BL.dr hB
                  clear hv1 hv2 hB AJ
                  go_wp2
                  go_still_tail 10, (by kernel_rfl)
                  go_wp2_with fail
                  go_roundg (m1 - (j + 1))
                  case measure => omega
                  case rel => exact ⟨j + 1, by omega, rfl, by simp, W14⟩
                · have hu2 : ¬ (j : Int) < (m2 : Int) := by omega
                  go_wp2_with fail
                  refine (WAK.out _ (HT.out.below AJ.out.bl HT.out.pos)).mono ?_
                  rintro e wZ ⟨rfl, hb⟩
                  have BF := Lib.hid (AJ.out.bl.trans (hb.mono AJ.out.bl.size))
                  clear hb
                  go_wp2_with fail
                  go_ret
                  exact ⟨rfl, BF.out⟩
              · have hu1 : ¬ (j : Int) < (m1 : Int) := by omega
                go_wp2_with fail
                refine (WAK.out _ (HT.out.below AJ.out.bl HT.out.pos)).mono ?_
                rintro e wZ ⟨rfl, hb⟩
                have BF := Lib.hid (AJ.out.bl.trans (hb.mono AJ.out.bl.size))
                clear hb
                go_wp2_with fail
                go_ret
                exact ⟨rfl, BF.out⟩
      · have hNb : ((N1 : Int) != (N2 : Int)) = true := by simp; omega
        go_wp2_with fail
        refine (WAK.out _ (HT.out.below A12.out.bl HT.out.pos)).mono ?_
        rintro e wZ ⟨rfl, hb⟩
        have BF := Lib.hid (A12.out.bl.trans (hb.mono A12.out.bl.size))
        clear hb
        go_wp2_with fail
        go_ret
        exact ⟨rfl, BF.out⟩
    · go_wp2_with fail
      refine (WAK.out _ (HT.out.below A12.out.bl HT.out.pos)).mono ?_
      rintro e wZ ⟨rfl, hb⟩
      have BF := Lib.hid (A12.out.bl.trans (hb.mono A12.out.bl.size))
      clear hb
      go_wp2_with fail
      go_ret
      exact ⟨rfl, BF.out⟩
  · have hd : decide (rdE l bs = 0) = false := by simp [he]
    rw [hd] at RDY
    clear hd he
    unfold Lw.val at *
    go_enter Tryd.func4, Tryd.ntmps4
    go_wp2_with fail
    have A1 := WL.start w l
    generalize World.alloc w _ = w1 at A1 ⊢
    obtain ⟨k0, k1, k2, k3⟩ := WL.at A1
    go_wp2_with fail
    refine (RDY.out a c w1 (HS.out.1.lo A1.out.bl)).mono ?_
    rintro e w2 ⟨rfl, hb⟩
    have A2 := WL.lo A1 hb
    clear hb A1 k0 k1 k2 k3
    go_wp2_with fail
    refine (WAK.out _ (HT.out.below A2.out.bl HT.out.pos)).mono ?_
    rintro e w3 ⟨rfl, hb⟩
    have BF := Lib.hid (A2.out.bl.trans (hb.mono A2.out.bl.size))
    clear hb
    go_wp2_with fail
    go_ret
    exact ⟨rfl, BF.out⟩

end Go.Proofs.YtmjbidnlknmcgabDoor

namespace Go.Proofs.YtmjbidnlknmcgabDoor
open Go.ChangeShapes Go.WideShapes Go.ChangeAt Go.WideMaps Go.WideElems Go.RowKit Go.Joins

set_option maxRecDepth 100000 in
theorem frameTaps_lifted (os : Os) (started : os.Started) (H : Type) (enc : TypeId × Value → H) :
    ReturnsInHanded {} Tryd.checked os 4 .any (fun w args => (Rows.frameTapsSpec.pre enc Tryd.prog Tryd.f4 [] false w args ∧ laidMetH Tryd.prog laidL w) ∧ sizedMet enc Tryd.prog Tryd.f4 (OpenSpec.ofChange Rows.frameTapsSpec) false w args)
      (Rows.frameTapsSpec.post enc Tryd.prog Tryd.f4 false true false false) := by
  refine returnsInHanded_of_change_and (C := Tryd.checked) (X := fun w _ => laidMetH Tryd.prog laidL w) (fun _ _ _ hh h => h.of_heap hh) own started (by kernel_rfl) Tryd.func4
    (ChangeSpec.witness_shaped (enc := enc) (C := Tryd.checked) (os := os) (X := fun w _ => laidMetH Tryd.prog laidL w) false (World.doorLaid Tryd.prog 400 os) #[.agg #[.int .i64 0, .int .i64 0, .int .i64 0, .int .i64 0], .slice none 0 0, .int .u8 0] 8 rfl (World.shaped_of_RefB (by kernel_rfl) (by kernel_rfl)) (by kernel_rfl) (by kernel_rfl) (by kernel_rfl) (door_met os _)) ?_
  intro W base args ds gs before hval0 hW _ _ hL _
  have hval : ∀ (j : Nat) t v, Tryd.f4.params[j]? = some t → args[j]? = some v → Value.okWide Tryd.prog W .any base t v := hval0
  have hW' := hW
  obtain ⟨p, q, hA0, hV, rfl, hfz, hnd⟩ := hW
  have hA : DataW.TrodAll enc Tryd.prog W 0 (fun _ => true) true Tryd.f4.params.toList args.toList ds p := hA0
  rw [Tryd.params4] at hA hval
  obtain ⟨v0, v1, v2, d0, d1, d2, p0, p1, p2, rfl, rfl, rfl, h0, h1, h2⟩ := trodAll_three hA
  obtain ⟨rfl, rfl⟩ := trodVars_none hV
  have hT := tab_of_laid hL
  obtain ⟨l, rfl⟩ := law_open (hval 0 23 v0 rfl rfl) h0
  obtain ⟨a, c, bs, rfl, hS⟩ := sheet_open (hval 1 28 v1 rfl rfl) h1
  obtain ⟨m, rfl, rfl, rfl, hm⟩ := open_int (by kernel_rfl : Tryd.prog.underlying 5 = some (.int .u8)) (hval 2 5 v2 rfl rfl) h2
  have hmb : 0 ≤ m ∧ m < 256 := by
    have h := hm
    simp [Lit.wf, IntKind.min, IntKind.max, IntKind.signed, IntKind.bits] at h
    omega
  have hlt : ∀ x ∈ (p0 ++ p1 ++ []) ++ [], x.block < W.heap.size := fun x hx => by simpa using hW'.lt x hx
  refine (taps_any l bs a c m W hS hT hmb.1 hmb.2).mono fun e W' ⟨he, hB⟩ => ?_
  subst he
  have e1 : Rows.frameTapsSpec.fn H ([d0, d1, .lit (.int .u8 m)] ++ []) = { results := [.lit (.bool true)], args := [d0, d1, .lit (.int .u8 m)] } := by simp [Rows.frameTapsSpec]
  refine ⟨_, rfl, _, _, _, [], p0 ++ (p1 ++ []), [], by simpa using hW', ?_, ?_, ?_, hB.frame _, fun h => by cases h⟩
  · rw [e1]; exact trodAll_mk1 (shut_bool Tryd.underlying4 true)
  · rw [e1]
    exact trodAll_mk3 (Below.trod laidOut (by kernel_rfl) (of_decide_eq_true (by kernel_rfl)) h0 hB (fun x hx => hlt x (by simp [hx]))) (Below.trod laidOut (by kernel_rfl) (of_decide_eq_true (by kernel_rfl)) h1 hB (fun x hx => hlt x (by simp [hx]))) (shut_int (by kernel_rfl) hm)
  · rw [e1]; rfl

theorem frameTaps_holds : Rows.FrameTapsSaid :=
  OpenClaim.holds_of_wide 4 Tryd.f4 rfl rfl rfl rfl rfl rfl rfl ⟨rfl, rfl, rfl, rfl, rfl⟩ rfl rfl rfl rfl rfl (by kernel_rfl) Tryd.func4 (by kernel_rfl)
    (of_decide_eq_true (by kernel_rfl)) (by unfold Func.isWrapper; first | (rw [if_pos (by decide +kernel)]; kernel_rfl) | (rw [if_neg (by decide +kernel)]; exact ⟨rfl, rfl⟩))
    (fun os started H enc _ => frameTaps_lifted os started H enc)

/-- The tied card. -/
theorem frameTaps_card : Rows.FrameTapsCardSaid :=
  Claim7.holds_tied_plain_at .later [] [.data] true (true, "4ffa6d8fcb94f7a4c6812d945bac4a000acc9f9a2dc7cd820e8b834ea9d938f6") false
    frameTaps_holds (fun _ h => by cases h) (by kernel_rfl) (fun _ h => by cases h) frameTaps_row_tie rfl ⟨rfl, rfl⟩ (by kernel_rfl) rfl
    (fun f fn hf hfn => by
      obtain rfl : f = 4 := Option.some.inj ((show Tryd.prog.funcNamed "kingpin/kingpinlaw01.FrameTaps" = some 4 by kernel_rfl).symm.trans hf) |>.symm
      obtain rfl : fn = Tryd.f4 := (Option.some.inj (Tryd.func4.symm.trans hfn)).symm
      exact ⟨by kernel_rfl, fun j t ht => by
        rw [Tryd.params4] at ht
        have hm : t ∈ [23, 28, 5] := by simpa using Array.mem_of_getElem? ht
        have hall : ([23, 28, 5].all fun u => !Tryd.prog.wantsStandIn u) = true := by kernel_rfl
        exact (show Tryd.prog.wantsStandIn t = false by simpa using List.all_eq_true.1 hall t hm)⟩)
    (by kernel_rfl)
#print axioms frameTaps_card

end Go.Proofs.YtmjbidnlknmcgabDoor
