/- FrameReads: for any law and any sheet, the game that the program reads (its frames, counts, standing pins, and whether it is done) is as the reference says, or the error is. Its conditions: none on the input (sheets of more than 45 balls are let by, as the statement does); the library's table deBruijn64tab reads as its own text lays it (the card ties it). -/
import Derived.Test.YtmjbidnlknmcgaaDoorRk2
import Derived.Test.YtmjbidnlknmcgaaDoorRb
set_option linter.unusedVariables false
set_option linter.unusedSimpArgs false
namespace Go.Proofs.YtmjbidnlknmcgaaDoor
open Go.RowKit

theorem rd_bd {l : Lw} {bs : List Int} (h : rdE l bs = 0) : rdN l bs ≤ 1000 ∧ ∀ zs ∈ rdF l bs, zs.length ≤ 1000 := by
  obtain ⟨ok, hw, _⟩ := recS_ok h
  have hlen : bs.length ≤ 40 := (errS_zero (rdE_zero h).1).2
  have hfl := hw.fl
  have hf2 := hw.vd.f2
  have hf3 := ok.f2
  refine ⟨?_, fun zs hz => ?_⟩
  · simp only [rdN, h, if_true]
    split at hfl <;> omega
  · simp only [rdF, h, if_true] at hz
    have := hw.zs zs hz
    omega

set_option maxRecDepth 100000 in
set_option maxHeartbeats 16000000 in
theorem reads_any (l : Lw) (bs : List Int) (a : Option Addr) (c : Nat) (w : World) (hs : SheetAt w a c bs) (hT : TabOK w) :
    Calls Tryd.prog 4 #[l.val, .slice a bs.length c] w fun e w' => e = .returned (.bool true) ∧ Below w.heap.size w w' := by
  have HT := Lib.hid hT
  have HS := Lib.hid hs
  have WAK := Lib.hid wakes_any
  clear hT hs
  by_cases hn : bs.length ≤ 45
  · have LAW := Lib.hid (law_any l)
    have LST := Lib.hid (fun w h => list_any bs a c w h (by omega))
    have FLT := Lib.hid (fun w h => fault_any l bs a c w h hn)
    have hgt : ¬ (45 : Int) < (bs.length : Int) := by omega
    have RDR := Lib.hid (fun a c w hs => rd_fr l bs a c w hs)
    have hml := rdM_le l bs
    by_cases he : rdE l bs = 0
    · have RR0 := Lib.hid (fun w hs => read_ref l bs a c w hs he)
      obtain ⟨hbd1, hbd2⟩ := rd_bd he
      rw [he] at FLT RDR
      obtain ⟨M, hM⟩ : ∃ M, rdM l bs = M := ⟨_, rfl⟩
      rw [hM] at RDR RR0 hml
      obtain ⟨m, hm⟩ : ∃ m, M.length = m := ⟨_, rfl⟩
      rw [hm] at RDR RR0 hml
      generalize rdN l bs = N at RDR RR0 hbd1
      generalize rdS l bs = S at RDR RR0
      generalize rdD l bs = D at RDR RR0
      generalize rdF l bs = F at RDR RR0 hbd2
      obtain ⟨n, hnn⟩ : ∃ n, bs.length = n := ⟨_, rfl⟩
      rw [hnn] at LST FLT RDR RR0 hgt ⊢
      have BD := Lib.hid (And.intro hbd1 hbd2)
      have HM := Lib.hid (And.intro hm hml)
      clear he hM hm hml hbd1 hbd2 hn hnn
      unfold Lw.val at *
      go_enter Tryd.func4, Tryd.ntmps4
      go_wp2_with fail
      have A1 := WL.start w l
      generalize World.alloc w _ = w1 at A1 ⊢
      obtain ⟨k0, k1, k2, k3⟩ := WL.at A1
      go_wp2_with fail
      refine (LAW.out w1).mono ?_
      rintro e w2 ⟨rfl, hb⟩
      have A2 := WL.lo A1 hb
      clear hb A1 k0 k1 k2 k3
      go_wp2_with fail
      refine (LST.out w2 (HS.out.lo A2.out.bl)).mono ?_
      rintro e w5 ⟨v, rfl, ho, hb⟩
      obtain ⟨va, vc, rfl⟩ := own_len ho
      have A5 := WL.lo A2 hb
      have S5 := Lib.hid (own_ballsAt ho)
      clear hb ho A2
      go_wp2_with fail
      refine (RDR.out va vc w5 S5.out).mono ?_
      rintro e w6 ⟨fa, fc, qa, qc, rfl, hQ, hF, hb⟩
      have A6 := WL.lo A5 hb
      have hal := below_al w6 (.cells #[.slice fa N fc, .slice qa m qc, .int .i64 S, .bool D] 43)
      have A7 := WL.lo A6 hal
      have F7 := FR.lo hF hal
      have Q7 := Lib.hid (hQ.out.lo hal)
      have G7 := GK.new w6 (.slice fa N fc) (.slice qa m qc) S D
      clear hb A5 S5 hQ hF hal A6
      obtain ⟨k0, k1, k2, k3⟩ := WL.at A7
      go_wp2_with fail
      refine (FLT.out _ (HS.out.1.lo A7.out.bl)).mono ?_
      rintro e w9 ⟨rfl, hb⟩
      obtain ⟨g6, hg6⟩ : ∃ g6, w6.heap.size = g6 := ⟨_, rfl⟩
      rw [hg6] at G7 ⊢
      clear hg6
      have A9 := WL.lo A7 hb
      have F9 := FR.lo F7 hb
      have Q9 := Lib.hid (Q7.out.lo hb)
      have G9 := GK.lo G7 hb
      clear hb A7 F7 Q7 G7 k0 k1 k2 k3
      have SP : Hid (∀ W, Hid (BL w9 W) → ((W.cell? ⟨w.heap.size, 0, none⟩ = some (.int .i64 l.fr) ∧ W.cell? ⟨w.heap.size, 1, none⟩ = some (.int .i64 l.pn) ∧ W.cell? ⟨w.heap.size, 2, none⟩ = some (.int .i64 l.bl) ∧ W.cell? ⟨w.heap.size, 3, none⟩ = some (.int .i64 l.tp)) ∧
          W.cell? ⟨g6, 0, none⟩ = some (.slice fa N fc) ∧ W.cell? ⟨g6, 1, none⟩ = some (.slice qa m qc) ∧ W.cell? ⟨g6, 2, none⟩ = some (.int .i64 S) ∧ W.cell? ⟨g6, 3, none⟩ = some (.bool D))) := Lib.hid (fun W h => ⟨BL.law h A9, GK.at (GK.lo G9 h.out.b)⟩)
      have RR : Hid (∀ W, Hid (BL w9 W) → Calls Tryd.prog 25 #[.agg #[.int .i64 l.fr, .int .i64 l.pn, .int .i64 l.bl, .int .i64 l.tp], .slice a n c] W fun e w' => ∃ fb fd qb qd, e = .returned (.agg #[.slice fb N fd, .slice qb m qd, .int .i64 S, .bool D]) ∧ Hid (BallsAt w' qb M) ∧ Hid (FR w' fb N fd F) ∧ Below W.heap.size W w') :=
        Lib.hid (fun W h => RR0.out W (HS.out.1.lo (A9.out.bl.trans (h.out.b.mono A9.out.bl.size))))
      have SM : Hid (∀ W fb fd qb qd, Hid (BL w9 W) → Hid (FR W fb N fd F) → Hid (BallsAt W qb M) → Calls Tryd.prog 24 #[.agg #[.slice fa N fc, .slice qa m qc, .int .i64 S, .bool D], .agg #[.slice fb N fd, .slice qb m qd, .int .i64 S, .bool D]] W fun e w' => e = .returned (.bool true) ∧ Below W.heap.size W w') :=
        Lib.hid (fun W fb fd qb qd h hf hq => same_any fa fb qa qb fc fd qc qd N m S D F M W (FR.lo F9 h.out.b) hf HM.out.1 HM.out.2 BD.out.1 BD.out.2 (Q9.out.lo h.out.b) hq.out)
      have WK : Hid (∀ W, Hid (BL w9 W) → Calls Tryd.prog 15 #[] W fun e w' => e = .returned (.bool true) ∧ Below W.heap.size W w') :=
        Lib.hid (fun W h => WAK.out W (HT.out.below (A9.out.bl.trans (h.out.b.mono A9.out.bl.size)) HT.out.pos))
      clear LAW LST FLT RDR RR0 F9 Q9 G9 HM BD HT HS WAK
      go_upto_region 7 with fail
      go_cut [4] (fun s4 wx => s4 = .bool true ∧ Hid (BL w9 wx))
      case first =>
        clear A9 hgt
        go_region_held3 (fun W => (W.cell? ⟨w.heap.size, 0, none⟩ = some (.int .i64 l.fr) ∧ W.cell? ⟨w.heap.size, 1, none⟩ = some (.int .i64 l.pn) ∧ W.cell? ⟨w.heap.size, 2, none⟩ = some (.int .i64 l.bl) ∧ W.cell? ⟨w.heap.size, 3, none⟩ = some (.int .i64 l.tp)) ∧
          W.cell? ⟨g6, 0, none⟩ = some (.slice fa N fc) ∧ W.cell? ⟨g6, 1, none⟩ = some (.slice qa m qc) ∧ W.cell? ⟨g6, 2, none⟩ = some (.int .i64 S) ∧ W.cell? ⟨g6, 3, none⟩ = some (.bool D))
          (with_reducible first | exact SP.out _ (BL.dr (BL.start w9)) | exact SP.out _ PA | exact SP.out _ PB | exact SP.out _ PC)
          (first
            | (go_at_call 25; (with_reducible refine (RR.out _ (BL.dr (BL.start w9))).mono ?_); rintro e wA ⟨fb, fd, qb, qd, rfl, QA, FA, hb⟩; have PA := BL.lo (BL.dr (BL.start w9)) hb; clear hb)
            | (go_at_call 24; (with_reducible refine (SM.out _ _ _ _ _ PA FA QA).mono ?_); rintro e wB ⟨rfl, hb⟩; have PB := BL.lo PA hb; clear hb)
            | (go_at_call 15; (with_reducible refine (WK.out _ PB).mono ?_); rintro e wC ⟨rfl, hb⟩; have PC := BL.lo PB hb; clear hb))
        all_goals
          go_wp2_with fail
          go_meet
          exact ⟨rfl, PC⟩
      case rest =>
        obtain ⟨rfl, B9⟩ := hcut
        have BF := Lib.hid (A9.out.bl.trans (B9.out.b.mono A9.out.bl.size))
        clear SP RR SM WK
        go_wp2_with fail
        go_ret
        exact ⟨rfl, BF.out⟩
    · have y1 : rdN l bs = 0 := by simp [rdN, he]
      have y2 : rdM l bs = [] := by simp [rdM, he]
      have y3 : rdS l bs = 0 := by simp [rdS, he]
      have y4 : rdD l bs = false := by simp [rdD, he]
      have y5 : rdF l bs = [] := by simp [rdF, he]
      rw [y1, y2, y3, y4, y5] at RDR
      obtain ⟨E, hE⟩ : ∃ E, rdE l bs = E := ⟨_, rfl⟩
      rw [hE] at FLT RDR he
      have he1 : (E == 0) = false := by simpa using he
      have he2 : (E != 0) = true := by simpa using he
      have he3 : (E == E) = true := by simp
      obtain ⟨n, hnn⟩ : ∃ n, bs.length = n := ⟨_, rfl⟩
      rw [hnn] at LST FLT RDR hgt ⊢
      clear y1 y2 y3 y4 y5 hE hml hn hnn
      simp only [List.length_nil] at RDR
      unfold Lw.val at *
      go_enter Tryd.func4, Tryd.ntmps4
      go_wp2_with fail
      have A1 := WL.start w l
      generalize World.alloc w _ = w1 at A1 ⊢
      obtain ⟨k0, k1, k2, k3⟩ := WL.at A1
      go_wp2_with fail
      refine (LAW.out w1).mono ?_
      rintro e w2 ⟨rfl, hb⟩
      have A2 := WL.lo A1 hb
      clear hb A1 k0 k1 k2 k3
      go_wp2_with fail
      refine (LST.out w2 (HS.out.lo A2.out.bl)).mono ?_
      rintro e w5 ⟨v, rfl, ho, hb⟩
      obtain ⟨va, vc, rfl⟩ := own_len ho
      have A5 := WL.lo A2 hb
      have S5 := Lib.hid (own_ballsAt ho)
      clear hb ho A2
      go_wp2_with fail
      refine (RDR.out va vc w5 S5.out).mono ?_
      rintro e w6 ⟨fa, fc, qa, qc, rfl, hQ, hF, hb⟩
      have A6 := WL.lo A5 hb
      have hal := below_al w6 (.cells #[.slice fa 0 fc, .slice qa 0 qc, .int .i64 0, .bool false] 43)
      have A7 := WL.lo A6 hal
      have F7 := FR.lo hF hal
      have Q7 := Lib.hid (hQ.out.lo hal)
      have G7 := GK.new w6 (.slice fa 0 fc) (.slice qa 0 qc) 0 false
      clear hb A5 S5 hQ hF hal A6
      obtain ⟨k0, k1, k2, k3⟩ := WL.at A7
      go_wp2_with fail
      refine (FLT.out _ (HS.out.1.lo A7.out.bl)).mono ?_
      rintro e w9 ⟨rfl, hb⟩
      obtain ⟨g6, hg6⟩ : ∃ g6, w6.heap.size = g6 := ⟨_, rfl⟩
      rw [hg6] at G7 ⊢
      clear hg6
      have A9 := WL.lo A7 hb
      have F9 := FR.lo F7 hb
      have Q9 := Lib.hid (Q7.out.lo hb)
      have G9 := GK.lo G7 hb
      clear hb A7 F7 Q7 G7 k0 k1 k2 k3
      obtain ⟨c0, c1, c2, c3⟩ := GK.at G9
      have FZ : Hid (FR w9 none 0 0 []) := Lib.hid ⟨⟨0, [], World.ownsRow_nil _ _ _ _, by simp, rfl⟩⟩
      have SM := Lib.hid (same_any fa none qa none fc 0 qc 0 0 0 0 false [] [] w9 F9 FZ rfl (by omega) (by omega) (by simp) Q9.out (own_ballsAt0 w9))
      clear F9 FZ Q9 G9
      go_wp2_with fail
      refine SM.out.mono ?_
      rintro e wB ⟨rfl, hb⟩
      have BB := Lib.hid (A9.out.bl.trans (hb.mono A9.out.bl.size))
      clear hb SM A9 c0 c1 c2 c3
      go_wp2_with fail
      refine (WAK.out _ (HT.out.below BB.out HT.out.pos)).mono ?_
      rintro e wC ⟨rfl, hb⟩
      have BF := Lib.hid (BB.out.trans (hb.mono BB.out.size))
      clear hb
      go_wp2_with fail
      go_ret
      exact ⟨rfl, BF.out⟩
  · have hgt : (45 : Int) < (bs.length : Int) := by omega
    unfold Lw.val
    go_enter Tryd.func4, Tryd.ntmps4
    go_wp2_with fail
    have A1 := WL.start w l
    generalize World.alloc w _ = w1 at A1 ⊢
    go_wp2_with fail
    refine (WAK.out _ (HT.out.below A1.out.bl HT.out.pos)).mono ?_
    rintro e w2 ⟨rfl, hb⟩
    have BF := Lib.hid (A1.out.bl.trans (hb.mono A1.out.bl.size))
    clear hb
    go_wp2_with fail
    go_ret
    exact ⟨rfl, BF.out⟩

end Go.Proofs.YtmjbidnlknmcgaaDoor

namespace Go.Proofs.YtmjbidnlknmcgaaDoor
open Go.ChangeShapes Go.WideShapes Go.ChangeAt Go.WideMaps Go.WideElems Go.RowKit Go.Joins

set_option maxRecDepth 100000 in
theorem frameReads_lifted (os : Os) (started : os.Started) (H : Type) (enc : TypeId × Value → H) :
    ReturnsInHanded {} Tryd.checked os 4 .any (fun w args => (Rows.frameReadsSpec.pre enc Tryd.prog Tryd.f4 [] false w args ∧ laidMetH Tryd.prog laidL w) ∧ sizedMet enc Tryd.prog Tryd.f4 (OpenSpec.ofChange Rows.frameReadsSpec) false w args)
      (Rows.frameReadsSpec.post enc Tryd.prog Tryd.f4 false true false false) := by
  refine returnsInHanded_of_change_and (C := Tryd.checked) (X := fun w _ => laidMetH Tryd.prog laidL w) (fun _ _ _ hh h => h.of_heap hh) own started (by kernel_rfl) Tryd.func4
    (ChangeSpec.witness_shaped (enc := enc) (C := Tryd.checked) (os := os) (X := fun w _ => laidMetH Tryd.prog laidL w) false (World.doorLaid Tryd.prog 400 os) #[.agg #[.int .i64 0, .int .i64 0, .int .i64 0, .int .i64 0], .slice none 0 0] 8 rfl (World.shaped_of_RefB (by kernel_rfl) (by kernel_rfl)) (by kernel_rfl) (by kernel_rfl) (by kernel_rfl) (door_met os _)) ?_
  intro W base args ds gs before hval0 hW _ _ hL _
  have hval : ∀ (j : Nat) t v, Tryd.f4.params[j]? = some t → args[j]? = some v → Value.okWide Tryd.prog W .any base t v := hval0
  have hW' := hW
  obtain ⟨p, q, hA0, hV, rfl, hfz, hnd⟩ := hW
  have hA : DataW.TrodAll enc Tryd.prog W 0 (fun _ => true) true Tryd.f4.params.toList args.toList ds p := hA0
  rw [Tryd.params4] at hA hval
  obtain ⟨v0, v1, d0, d1, p0, p1, rfl, rfl, rfl, h0, h1⟩ := trodAll_two hA
  obtain ⟨rfl, rfl⟩ := trodVars_none hV
  have hT := tab_of_laid hL
  obtain ⟨l, rfl⟩ := law_open (hval 0 23 v0 rfl rfl) h0
  obtain ⟨a, c, bs, rfl, hS⟩ := sheet_open (hval 1 24 v1 rfl rfl) h1
  have hlt : ∀ x ∈ (p0 ++ p1) ++ [], x.block < W.heap.size := fun x hx => by simpa using hW'.lt x hx
  refine (reads_any l bs a c W hS hT).mono fun e W' ⟨he, hB⟩ => ?_
  subst he
  have e1 : Rows.frameReadsSpec.fn H ([d0, d1] ++ []) = { results := [.lit (.bool true)], args := [d0, d1] } := by simp [Rows.frameReadsSpec]
  refine ⟨_, rfl, _, _, _, [], p0 ++ p1, [], hW', ?_, ?_, ?_, hB.frame _, fun h => by cases h⟩
  · rw [e1]; exact trodAll_mk1 (shut_bool Tryd.underlying4 true)
  · rw [e1]
    exact trodAll_mk2 (Below.trod laidOut (by kernel_rfl) (of_decide_eq_true (by kernel_rfl)) h0 hB (fun x hx => hlt x (by simp [hx]))) (Below.trod laidOut (by kernel_rfl) (of_decide_eq_true (by kernel_rfl)) h1 hB (fun x hx => hlt x (by simp [hx])))
  · rw [e1]; rfl

theorem frameReads_holds : Rows.FrameReadsSaid :=
  OpenClaim.holds_of_wide 4 Tryd.f4 rfl rfl rfl rfl rfl rfl rfl ⟨rfl, rfl, rfl, rfl, rfl⟩ rfl rfl rfl rfl rfl (by kernel_rfl) Tryd.func4 (by kernel_rfl)
    (of_decide_eq_true (by kernel_rfl)) (by unfold Func.isWrapper; first | (rw [if_pos (by decide +kernel)]; kernel_rfl) | (rw [if_neg (by decide +kernel)]; exact ⟨rfl, rfl⟩))
    (fun os started H enc _ => frameReads_lifted os started H enc)

/-- The tied card. -/
theorem frameReads_card : Rows.FrameReadsCardSaid :=
  Claim7.holds_tied_plain_at .later [] [.data] true (true, "a66f936dd313ec0b3b774961a9c7f266eda39370b23c596a123bc58e6b1306a4") false
    frameReads_holds (fun _ h => by cases h) (by kernel_rfl) (fun _ h => by cases h) frameReads_row_tie rfl ⟨rfl, rfl⟩ (by kernel_rfl) rfl
    (fun f fn hf hfn => by
      obtain rfl : f = 4 := Option.some.inj ((show Tryd.prog.funcNamed "kingpin/kingpinlaw01.FrameReads" = some 4 by kernel_rfl).symm.trans hf) |>.symm
      obtain rfl : fn = Tryd.f4 := (Option.some.inj (Tryd.func4.symm.trans hfn)).symm
      exact ⟨by kernel_rfl, fun j t ht => by
        rw [Tryd.params4] at ht
        have hm : t ∈ [23, 24] := by simpa using Array.mem_of_getElem? ht
        have hall : ([23, 24].all fun u => !Tryd.prog.wantsStandIn u) = true := by kernel_rfl
        exact (show Tryd.prog.wantsStandIn t = false by simpa using List.all_eq_true.1 hall t hm)⟩)
    (by kernel_rfl)
#print axioms frameReads_card

end Go.Proofs.YtmjbidnlknmcgaaDoor
