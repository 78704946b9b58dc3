/- The contract of the law FrameNames. -/
import Derived.Test.YtmjbidnlknmcgaaDoorNd
set_option linter.unusedVariables false
set_option linter.unusedSimpArgs false
namespace Go.Proofs.YtmjbidnlknmcgaaDoor
open Go.RowKit

theorem four_at (w : World) (x y z u : Int) : BallsAt (w.alloc (.cells #[.int .i64 x, .int .i64 y, .int .i64 z, .int .i64 u] 3)) (some ⟨w.heap.size, 0, none⟩) [x, y, z, u] := cells_at w [x, y, z, u]
theorem two_sheets (w : World) (a1 a2 : Option Addr) (c1 c2 : Nat) (L1 L2 : List Int) (n1 n2 : Nat) (h1 : L1.length = n1) (h2 : L2.length = n2) (s1 : BallsAt w a1 L1) (s2 : BallsAt w a2 L2) :
    SheetsAt (w.alloc (.cells #[.slice a1 n1 c1, .slice a2 n2 c2] 24)) (some ⟨w.heap.size, 0, none⟩) [(a1, c1, L1), (a2, c2, L2)] := by
  have h := heap_alloc_new w (.cells #[.slice a1 n1 c1, .slice a2 n2 c2] 24)
  have hb := below_al w (.cells #[.slice a1 n1 c1, .slice a2 n2 c2] 24)
  generalize w.alloc _ = W at h hb ⊢
  intro i p hp
  subst h1 h2
  match i, hp with
  | 0, hp => cases hp; exact ⟨w.heap.size, 0, rfl, by simp [World.cell?, h], s1.lo hb⟩
  | 1, hp => cases hp; exact ⟨w.heap.size, 0, rfl, by simp [World.cell?, h], s2.lo hb⟩
  | n + 2, hp => simp at hp

theorem ba_lo {W W' : World} {a : Option Addr} {L : List Int} (h : Hid (BallsAt W a L)) (hb : Below W.heap.size W W') : Hid (BallsAt W' a L) := Lib.hid (h.out.lo hb)
theorem ce_lo {W W' : World} {p : Addr} {v : Value} (h : Hid (W.cell? p = some v)) (hb : Below W.heap.size W W') : Hid (W'.cell? p = some v) := Lib.hid (below_cell hb h.out)
theorem sheets7 (w : World) : SheetsAt (w.alloc (.cells #[.slice none 0 0, .slice none 0 0, .slice none 0 0, .slice none 0 0, .slice none 0 0, .slice none 0 0, .slice none 0 0] 24)) (some ⟨w.heap.size, 0, none⟩) (List.replicate 7 (none, 0, [])) := by
  have h := heap_alloc_new w (.cells #[.slice none 0 0, .slice none 0 0, .slice none 0 0, .slice none 0 0, .slice none 0 0, .slice none 0 0, .slice none 0 0] 24)
  generalize w.alloc _ = W at h ⊢
  intro i p hp
  rw [List.getElem?_replicate] at hp
  split at hp
  · rename_i hi
    cases hp
    refine ⟨w.heap.size, 0, rfl, ?_, own_ballsAt0 W⟩
    have : i = 0 ∨ i = 1 ∨ i = 2 ∨ i = 3 ∨ i = 4 ∨ i = 5 ∨ i = 6 := by omega
    rcases this with rfl | rfl | rfl | rfl | rfl | rfl | rfl <;> simp [World.cell?, h]
  · cases hp
theorem sheets7dr (w : World) : SheetsAt (w.alloc (.cells #[.slice none 0 0, .slice none 0 0, .slice none 0 0, .slice none 0 0, .slice none 0 0, .slice none 0 0, .slice none 0 0] 24)).drew (some ⟨w.heap.size, 0, none⟩) (List.replicate 7 (none, 0, [])) :=
  (sheets7 w).lo ⟨rfl, rfl, rfl, Nat.le_refl _, fun _ _ => rfl⟩

set_option maxRecDepth 100000 in
set_option maxHeartbeats 16000000 in
theorem names_law (w : World) (hT : TabOK w) : Calls Tryd.prog 8 #[] w fun e w' => e = .returned (.bool true) ∧ Below w.heap.size w w' := by
  have HT := Lib.hid hT
  have WAK := Lib.hid wakes_any
  have TENL : Hid (∀ w, Calls Tryd.prog 34 #[] w fun e w' => e = .returned (.agg #[.int .i64 10, .int .i64 10, .int .i64 2, .int .i64 10]) ∧ Below w.heap.size w w') := Lib.hid ten_any
  have NINE : Hid (∀ (w : World) (a : Option Addr) (c : Nat) (hs : BallsAt w a bsE), Calls Tryd.prog 23 #[.agg #[.int .i64 10, .int .i64 10, .int .i64 2, .int .i64 9], .slice a 4 c] w fun e w' => ∃ fa fn fc qa qc st dn, e = .returned (.tuple #[.agg #[.slice fa fn fc, .slice qa 3 qc, .int .i64 st, .bool dn], .int .i64 0]) ∧ BallsAt w' qa [21, 32, 33] ∧ Below w.heap.size w w') := Lib.hid n_nine
  have LW0 : Hid (∀ w, Calls Tryd.prog 16 #[.agg #[.int .i64 0, .int .i64 0, .int .i64 0, .int .i64 0]] w fun e w' => e = .returned (.int .i64 1) ∧ Below w.heap.size w w') := Lib.hid (n_law ⟨0, 0, 0, 0⟩ 1 (by decide +kernel))
  have LW1 : Hid (∀ w, Calls Tryd.prog 16 #[.agg #[.int .i64 10, .int .i64 10, .int .i64 2, .int .i64 11]] w fun e w' => e = .returned (.int .i64 1) ∧ Below w.heap.size w w') := Lib.hid (n_law ⟨10, 10, 2, 11⟩ 1 (by decide +kernel))
  have LW2 : Hid (∀ w, Calls Tryd.prog 16 #[.agg #[.int .i64 1, .int .i64 1, .int .i64 3, .int .i64 1]] w fun e w' => e = .returned (.int .i64 0) ∧ Below w.heap.size w w') := Lib.hid (n_law ⟨1, 1, 3, 1⟩ 0 (by decide +kernel))
  have TEN := Lib.hid ten_any
  have RDE := Lib.hid n_read
  have BDA := Lib.hid n_bad
  have SPM := Lib.hid n_span
  have AH2 := Lib.hid n_ahead
  have R74 := Lib.hid n_read74
  have SHW := Lib.hid n_shows
  have B41 := Lib.hid n_bad41
  have AH0 := Lib.hid n_ahead0
  have AH7 := Lib.hid n_ahead7
  have AH1 := Lib.hid n_ahead11
  have B13 := Lib.hid n_bad13
  obtain ⟨T, hTen⟩ : ∃ T, tenL.val = T := ⟨_, rfl⟩
  rw [hTen] at TEN RDE BDA SPM AH2 R74 SHW B41 AH0 AH7 AH1 B13
  clear hTen hT
  obtain ⟨i3, hi3, hy0, hy1, hy2⟩ := info_parts info3
  obtain ⟨i24, hi24, hu0, hu1, hu2⟩ := info_parts info24
  obtain ⟨Z41, hZ41⟩ : ∃ Z, madeCells #[Value.int .i64 0] 41 = Z := ⟨_, rfl⟩
  have hmk1 : ∀ W : World, (Instr.makeSlice 24 (.int .i64 41) (.int .i64 41)).run Tryd.prog W = .ok (.slice (some ⟨W.heap.size, 0, none⟩) 41 41) (W.alloc (.cells Z41 3)) := fun W => by
    have h := run_makeSlice (P := Tryd.prog) W 24 3 i3 (.int .i64 0) Tryd.underlying24 hi3 hy0 .i64 .i64 41 41 (by omega) (by omega) (by rw [hy1]; decide) (by rw [hy2]; decide) (by decide)
    rw [h, ← hZ41, hy1]; rfl
  have hmk2 : ∀ W : World, (Instr.makeSlice 41 (.int .i64 7) (.int .i64 7)).run Tryd.prog W = .ok (.slice (some ⟨W.heap.size, 0, none⟩) 7 7) (W.alloc (.cells #[.slice none 0 0, .slice none 0 0, .slice none 0 0, .slice none 0 0, .slice none 0 0, .slice none 0 0, .slice none 0 0] 24)) := fun W => by
    have h := run_makeSlice (P := Tryd.prog) W 41 24 i24 (.slice none 0 0) Tryd.underlying41 hi24 hu0 .i64 .i64 7 7 (by omega) (by omega) (by rw [hu1]; decide) (by rw [hu2]; decide) (by decide)
    have hM7 : madeCells (Value.slice none 0 0).cells (Int.toNat 7 * 1) = #[.slice none 0 0, .slice none 0 0, .slice none 0 0, .slice none 0 0, .slice none 0 0, .slice none 0 0, .slice none 0 0] := by kernel_rfl
    rw [h, hu1, hM7]; rfl
  clear hZ41 hi3 hy0 hy1 hy2 hi24 hu0 hu1 hu2
  go_enter Tryd.func8, Tryd.ntmps8
  have B := BL.start w
  go_wp2_with fail
  refine (TEN.out w).mono ?_
  rintro e v1 ⟨rfl, hb⟩
  replace B := BL.lo B hb
  clear hb
  go_wp2_with fail
  refine (eve_any v1).mono ?_
  rintro e v2 ⟨rfl, hs, hb⟩
  replace B := BL.lo B hb
  clear hb
  have S := Lib.hid hs
  clear hs
  go_wp2_with fail
  refine (RDE.out v2 _ 6 S.out).mono ?_
  rintro e v3 ⟨fa, fc, qa, qc, rfl, F, hb⟩
  replace B := BL.lo B hb
  clear hb
  clear S
  have hal := below_al v3 (.cells #[.slice fa 4 fc, .slice qa 3 qc, .int .i64 6, .bool false] 43)
  replace B := BL.lo B hal
  replace F := FR.lo F hal
  clear hal
  have G := GK.new v3 (.slice fa 4 fc) (.slice qa 3 qc) 6 false
  go_wp2_with fail
  obtain ⟨p1, hp1⟩ : ∃ p1, v3.heap.size = p1 := ⟨_, rfl⟩
  rw [hp1] at G ⊢
  clear hp1
  generalize World.alloc v3 _ = u4 at B F G ⊢
  go_wp2_with fail
  refine (TEN.out u4).mono ?_
  rintro e v4 ⟨rfl, hb⟩
  replace B := BL.lo B hb
  replace F := FR.lo F hb
  replace G := GK.lo G hb
  clear hb
  have hal := below_al v4 (.cells #[.int .i64 10, .int .i64 10, .int .i64 5, .int .i64 5] 3)
  replace B := BL.lo B hal
  replace F := FR.lo F hal
  replace G := GK.lo G hal
  clear hal
  go_wp2_with fail
  refine (BDA.out _ _ 4 (four_at v4 10 10 5 5)).mono ?_
  rintro e v5 ⟨rfl, hb⟩
  replace B := BL.lo B hb
  replace F := FR.lo F hb
  replace G := GK.lo G hb
  clear hb
  go_wp2_with fail
  refine (TEN.out v5).mono ?_
  rintro e v6 ⟨rfl, hb⟩
  replace B := BL.lo B hb
  replace F := FR.lo F hb
  replace G := GK.lo G hb
  clear hb
  have hal := below_al v6 (.cells #[.int .i64 9] 3)
  replace B := BL.lo B hal
  replace F := FR.lo F hal
  replace G := GK.lo G hal
  clear hal
  go_wp2_with fail
  refine (many_ten _ _ 1 (one_at v6 9)).mono ?_
  rintro e v7 ⟨xa, xc, rfl, hs, hb⟩
  replace B := BL.lo B hb
  replace F := FR.lo F hb
  replace G := GK.lo G hb
  clear hb
  have S := Lib.hid hs
  clear hs
  go_wp2_with fail
  refine (SPM.out v7 xa xc S.out (tab_bl HT B)).mono ?_
  rintro e v8 ⟨rfl, hb⟩
  replace B := BL.lo B hb
  replace F := FR.lo F hb
  replace G := GK.lo G hb
  clear hb
  clear S
  have hal := below_al v8 (.cells #[.int .i64 288, .int .i64 289] 50)
  replace B := BL.lo B hal
  replace F := FR.lo F hal
  replace G := GK.lo G hal
  clear hal
  have K := SK.new v8 288 289
  go_wp2_with fail
  obtain ⟨p5, hp5⟩ : ∃ p5, v8.heap.size = p5 := ⟨_, rfl⟩
  rw [hp5] at K ⊢
  clear hp5
  generalize World.alloc v8 _ = u10 at B F G K ⊢
  go_wp2_with fail
  refine (TEN.out u10).mono ?_
  rintro e v9 ⟨rfl, hb⟩
  replace B := BL.lo B hb
  replace F := FR.lo F hb
  replace G := GK.lo G hb
  replace K := SK.lo K hb
  clear hb
  have hal := below_al v9 (.cells #[.int .i64 9, .int .i64 1] 3)
  replace B := BL.lo B hal
  replace F := FR.lo F hal
  replace G := GK.lo G hal
  replace K := SK.lo K hal
  clear hal
  go_wp2_with fail
  refine (n_many2 _ _ 2 (two_at v9 9 1)).mono ?_
  rintro e v10 ⟨a1, c1, rfl, hs, hb⟩
  replace B := BL.lo B hb
  replace F := FR.lo F hb
  replace G := GK.lo G hb
  replace K := SK.lo K hb
  clear hb
  have S1 := Lib.hid hs
  clear hs
  go_wp2_with fail
  refine (n_many11 v10).mono ?_
  rintro e v11 ⟨a2, c2, rfl, hs, hb⟩
  replace B := BL.lo B hb
  replace F := FR.lo F hb
  replace G := GK.lo G hb
  replace K := SK.lo K hb
  replace S1 := ba_lo S1 hb
  clear hb
  have S2 := Lib.hid hs
  clear hs
  have SH := Lib.hid (two_sheets v11 a1 a2 c1 c2 bsB bsC 12 11 rfl rfl S1.out S2.out)
  clear S1 S2
  have hal := below_al v11 (.cells #[.slice a1 12 c1, .slice a2 11 c2] 24)
  replace B := BL.lo B hal
  replace F := FR.lo F hal
  replace G := GK.lo G hal
  replace K := SK.lo K hal
  clear hal
  go_wp2_with fail
  refine (AH2.out _ _ 2 a1 a2 c1 c2 SH.out (tab_bl HT B)).mono ?_
  rintro e v12 ⟨ma, mc, sa, sc, rfl, hs1, hs2, hb⟩
  replace B := BL.lo B hb
  replace F := FR.lo F hb
  replace G := GK.lo G hb
  replace K := SK.lo K hb
  clear hb
  have M1 := Lib.hid hs1
  have M2 := Lib.hid hs2
  clear hs1 hs2 SH
  obtain ⟨gf, f0, g0, hfa, h1, h2⟩ := F.out.get (i := 0) (zs := [10]) rfl
  subst hfa
  have X0 := Lib.hid h1
  have Y0 := Lib.hid h2
  clear h1 h2
  obtain ⟨gf2, f2, g2, hfa, h1, h2⟩ := F.out.get (i := 2) (zs := [9, -1]) rfl
  cases hfa
  have X2 := Lib.hid h1
  have Y2 := Lib.hid h2
  clear h1 h2
  obtain ⟨gf3, f3, g3, hfa, h1, h2⟩ := F.out.get (i := 3) (zs := [4]) rfl
  cases hfa
  have X3 := Lib.hid h1
  have Y3 := Lib.hid h2
  clear h1 h2
  clear F
  obtain ⟨i0, i1, i2, i3⟩ := GK.at G
  have x0 := X0.out
  have x2 := X2.out
  have x3 := X3.out
  obtain ⟨⟨s0, s1⟩, z0, z1⟩ := SK.at K
  simp only [List.length_cons, List.length_nil, Nat.zero_add, Nat.reduceAdd] at x0 x2 x3
  go_wp2_with fail
  clear i0 i1 i2 i3 x0 x2 x3 s0 s1 z0 z1
  have hal := below_al v12 (.cells #[.int .i64 10] 3)
  replace B := BL.lo B hal
  replace G := GK.lo G hal
  replace K := SK.lo K hal
  replace M1 := ba_lo M1 hal
  replace M2 := ba_lo M2 hal
  replace X0 := ce_lo X0 hal
  replace Y0 := ba_lo Y0 hal
  replace X2 := ce_lo X2 hal
  replace Y2 := ba_lo Y2 hal
  replace X3 := ce_lo X3 hal
  replace Y3 := ba_lo Y3 hal
  clear hal
  refine (ints_same [10] 1 _ _ _ _ _ rfl (by omega) Y0.out (one_at v12 10)).mono ?_
  rintro e v13 ⟨rfl, hg⟩
  have hb := grown_belowN hg.out
  clear hg
  replace B := BL.lo B hb
  replace G := GK.lo G hb
  replace K := SK.lo K hb
  replace M1 := ba_lo M1 hb
  replace M2 := ba_lo M2 hb
  replace X0 := ce_lo X0 hb
  replace Y0 := ba_lo Y0 hb
  replace X2 := ce_lo X2 hb
  replace Y2 := ba_lo Y2 hb
  replace X3 := ce_lo X3 hb
  replace Y3 := ba_lo Y3 hb
  clear hb
  obtain ⟨i0, i1, i2, i3⟩ := GK.at G
  have x0 := X0.out
  have x2 := X2.out
  have x3 := X3.out
  obtain ⟨⟨s0, s1⟩, z0, z1⟩ := SK.at K
  simp only [List.length_cons, List.length_nil, Nat.zero_add, Nat.reduceAdd] at x0 x2 x3
  go_wp2_with fail
  clear i0 i1 i2 i3 x0 x2 x3 s0 s1 z0 z1
  have hal := below_al v13 (.cells #[.int .i64 9, .int .i64 (-1)] 3)
  replace B := BL.lo B hal
  replace G := GK.lo G hal
  replace K := SK.lo K hal
  replace M1 := ba_lo M1 hal
  replace M2 := ba_lo M2 hal
  replace X0 := ce_lo X0 hal
  replace Y0 := ba_lo Y0 hal
  replace X2 := ce_lo X2 hal
  replace Y2 := ba_lo Y2 hal
  replace X3 := ce_lo X3 hal
  replace Y3 := ba_lo Y3 hal
  clear hal
  refine (ints_same [9, -1] 2 _ _ _ _ _ rfl (by omega) Y2.out (two_at v13 9 (-1))).mono ?_
  rintro e v14 ⟨rfl, hg⟩
  have hb := grown_belowN hg.out
  clear hg
  replace B := BL.lo B hb
  replace G := GK.lo G hb
  replace K := SK.lo K hb
  replace M1 := ba_lo M1 hb
  replace M2 := ba_lo M2 hb
  replace X0 := ce_lo X0 hb
  replace Y0 := ba_lo Y0 hb
  replace X2 := ce_lo X2 hb
  replace Y2 := ba_lo Y2 hb
  replace X3 := ce_lo X3 hb
  replace Y3 := ba_lo Y3 hb
  clear hb
  obtain ⟨i0, i1, i2, i3⟩ := GK.at G
  have x0 := X0.out
  have x2 := X2.out
  have x3 := X3.out
  obtain ⟨⟨s0, s1⟩, z0, z1⟩ := SK.at K
  simp only [List.length_cons, List.length_nil, Nat.zero_add, Nat.reduceAdd] at x0 x2 x3
  go_wp2_with fail
  clear i0 i1 i2 i3 x0 x2 x3 s0 s1 z0 z1
  have hal := below_al v14 (.cells #[.int .i64 4] 3)
  replace B := BL.lo B hal
  replace G := GK.lo G hal
  replace K := SK.lo K hal
  replace M1 := ba_lo M1 hal
  replace M2 := ba_lo M2 hal
  replace X0 := ce_lo X0 hal
  replace Y0 := ba_lo Y0 hal
  replace X2 := ce_lo X2 hal
  replace Y2 := ba_lo Y2 hal
  replace X3 := ce_lo X3 hal
  replace Y3 := ba_lo Y3 hal
  clear hal
  refine (ints_same [4] 1 _ _ _ _ _ rfl (by omega) Y3.out (one_at v14 4)).mono ?_
  rintro e v15 ⟨rfl, hg⟩
  have hb := grown_belowN hg.out
  clear hg
  replace B := BL.lo B hb
  replace G := GK.lo G hb
  replace K := SK.lo K hb
  replace M1 := ba_lo M1 hb
  replace M2 := ba_lo M2 hb
  replace X0 := ce_lo X0 hb
  replace Y0 := ba_lo Y0 hb
  replace X2 := ce_lo X2 hb
  replace Y2 := ba_lo Y2 hb
  replace X3 := ce_lo X3 hb
  replace Y3 := ba_lo Y3 hb
  clear hb
  obtain ⟨i0, i1, i2, i3⟩ := GK.at G
  have x0 := X0.out
  have x2 := X2.out
  have x3 := X3.out
  obtain ⟨⟨s0, s1⟩, z0, z1⟩ := SK.at K
  simp only [List.length_cons, List.length_nil, Nat.zero_add, Nat.reduceAdd] at x0 x2 x3
  go_wp2_with fail
  clear i0 i1 i2 i3 x0 x2 x3 s0 s1 z0 z1
  have hal := below_al v15 (.cells #[.int .i64 1] 3)
  replace B := BL.lo B hal
  replace G := GK.lo G hal
  replace K := SK.lo K hal
  replace M1 := ba_lo M1 hal
  replace M2 := ba_lo M2 hal
  replace X0 := ce_lo X0 hal
  replace Y0 := ba_lo Y0 hal
  replace X2 := ce_lo X2 hal
  replace Y2 := ba_lo Y2 hal
  replace X3 := ce_lo X3 hal
  replace Y3 := ba_lo Y3 hal
  clear hal
  refine (ints_same [1] 1 _ _ _ _ _ rfl (by omega) M1.out (one_at v15 1)).mono ?_
  rintro e v16 ⟨rfl, hg⟩
  have hb := grown_belowN hg.out
  clear hg
  replace B := BL.lo B hb
  replace G := GK.lo G hb
  replace K := SK.lo K hb
  replace M1 := ba_lo M1 hb
  replace M2 := ba_lo M2 hb
  replace X0 := ce_lo X0 hb
  replace Y0 := ba_lo Y0 hb
  replace X2 := ce_lo X2 hb
  replace Y2 := ba_lo Y2 hb
  replace X3 := ce_lo X3 hb
  replace Y3 := ba_lo Y3 hb
  clear hb
  obtain ⟨i0, i1, i2, i3⟩ := GK.at G
  have x0 := X0.out
  have x2 := X2.out
  have x3 := X3.out
  obtain ⟨⟨s0, s1⟩, z0, z1⟩ := SK.at K
  simp only [List.length_cons, List.length_nil, Nat.zero_add, Nat.reduceAdd] at x0 x2 x3
  go_wp2_with fail
  clear i0 i1 i2 i3 x0 x2 x3 s0 s1 z0 z1
  have hal := below_al v16 (.cells #[.int .i64 1] 3)
  replace B := BL.lo B hal
  replace G := GK.lo G hal
  replace K := SK.lo K hal
  replace M1 := ba_lo M1 hal
  replace M2 := ba_lo M2 hal
  replace X0 := ce_lo X0 hal
  replace Y0 := ba_lo Y0 hal
  replace X2 := ce_lo X2 hal
  replace Y2 := ba_lo Y2 hal
  replace X3 := ce_lo X3 hal
  replace Y3 := ba_lo Y3 hal
  clear hal
  refine (ints_same [1] 1 _ _ _ _ _ rfl (by omega) M2.out (one_at v16 1)).mono ?_
  rintro e v17 ⟨rfl, hg⟩
  have hb := grown_belowN hg.out
  clear hg
  replace B := BL.lo B hb
  replace G := GK.lo G hb
  replace K := SK.lo K hb
  replace M1 := ba_lo M1 hb
  replace M2 := ba_lo M2 hb
  replace X0 := ce_lo X0 hb
  replace Y0 := ba_lo Y0 hb
  replace X2 := ce_lo X2 hb
  replace Y2 := ba_lo Y2 hb
  replace X3 := ce_lo X3 hb
  replace Y3 := ba_lo Y3 hb
  clear hb
  clear X0 X2 X3 Y0 Y2 Y3 M1 M2 G K
  go_wp2_with fail
  refine (TEN.out v17).mono ?_
  rintro e v18 ⟨rfl, hb⟩
  replace B := BL.lo B hb
  clear hb
  have hal := below_al v18 (.cells #[.int .i64 7, .int .i64 4] 3)
  replace B := BL.lo B hal
  clear hal
  go_wp2_with fail
  refine (R74.out _ _ 2 (two_at v18 7 4)).mono ?_
  rintro e v19 ⟨rfl, hb⟩
  replace B := BL.lo B hb
  clear hb
  go_wp2_with fail
  refine (TEN.out v19).mono ?_
  rintro e v20 ⟨rfl, hb⟩
  replace B := BL.lo B hb
  clear hb
  have hal := below_al v20 (.cells #[.int .i64 9] 3)
  replace B := BL.lo B hal
  clear hal
  go_wp2_with fail
  refine (many_ten _ _ 1 (one_at v20 9)).mono ?_
  rintro e v21 ⟨xa2, xc2, rfl, hs, hb⟩
  replace B := BL.lo B hb
  clear hb
  have S := Lib.hid hs
  clear hs
  go_wp2_with fail
  refine (SHW.out v21 xa2 xc2 S.out).mono ?_
  rintro e v22 ⟨ya, yn, yc, rfl, hb⟩
  replace B := BL.lo B hb
  clear hb
  clear S
  go_wp2_with fail
  go_cut [6] (fun s6 wx => s6 = .int .i64 3 ∧ Hid (BL w wx))
  case first =>
    go_region_held3 (fun _ => True) (trivial)
      (first
        | (go_at_call 34; go_must ((with_reducible refine (TEN.out _).mono ?_); rintro e wA ⟨rfl, hb⟩; (with_reducible first | have PA := BL.lo (BL.dr B) hb | have PA := BL.lo (BL.dr (BL.al B _)) hb); clear hb))
        | (go_at_call 18; go_must ((with_reducible refine (B41.out _ _ _).mono ?_); rintro e wD ⟨rfl, hb⟩; (with_reducible first | have PD := BL.lo PA hb | have PD := BL.lo (BL.al PA _) hb); clear hb)))
    all_goals
      go_wp2_with fail
      go_meet
      exact ⟨rfl, PD⟩
  case rest =>
    obtain ⟨rfl, B⟩ := hcut
    generalize wc = r9 at B ⊢
    go_wp2_with fail
    refine (TEN.out r9).mono ?_
    rintro e v23 ⟨rfl, hb⟩
    replace B := BL.lo B hb
    clear hb
    go_wp2_with fail
    refine (AH0.out v23).mono ?_
    rintro e v24 ⟨rfl, hb⟩
    replace B := BL.lo B hb
    clear hb
    go_wp2_with fail
    go_cut [12] (fun s12 wx => s12 = .int .i64 3 ∧ Hid (BL w wx))
    case first =>
      go_region_held3 (fun _ => True) (trivial)
        (first
          | (go_at_call 34; go_must ((with_reducible refine (TEN.out _).mono ?_); rintro e wA ⟨rfl, hb⟩; (with_reducible first | have PA := BL.lo (BL.dr B) hb | have PA := BL.lo (BL.dr (BL.al B _)) hb); (try with_reducible have QA := Lib.hid ((sheets7dr v24).lo hb)); clear hb))
          | (go_at_call 31; go_must ((with_reducible first | refine (AH7.out _ _ _ QA.out).mono ?_ | refine (AH7.out _ _ _ (sheets7 wA)).mono ?_); rintro e wD ⟨rfl, hb⟩; (with_reducible first | have PD := BL.lo PA hb | have PD := BL.lo (BL.al PA _) hb); clear hb)))
      all_goals
        go_wp2_with fail
        go_meet
        exact ⟨rfl, PD⟩
    case rest =>
      obtain ⟨rfl, B⟩ := hcut
      generalize wc = r11 at B ⊢
      go_wp2_with fail
      refine (TEN.out r11).mono ?_
      rintro e v25 ⟨rfl, hb⟩
      replace B := BL.lo B hb
      clear hb
      have S1 := one_at v25 11
      have SH := Lib.hid (two_sheets (v25.alloc (.cells #[.int .i64 11] 3)) none (some ⟨v25.heap.size, 0, none⟩) 0 1 [] [11] 0 1 rfl rfl (own_ballsAt0 _) S1)
      clear S1
      have hsz : (v25.alloc (.cells #[.int .i64 11] 3)).heap.size = v25.heap.size + 1 := by simp
      rw [hsz] at SH
      clear hsz
      have hal := below_al v25 (.cells #[.int .i64 11] 3)
      replace B := BL.lo B hal
      clear hal
      have hal := below_al (v25.alloc (.cells #[.int .i64 11] 3)) (.cells #[.slice none 0 0, .slice (some ⟨v25.heap.size, 0, none⟩) 1 1] 24)
      replace B := BL.lo B hal
      clear hal
      go_wp2_with fail
      refine (AH1.out _ _ 2 _ 1 SH.out (tab_bl HT B)).mono ?_
      rintro e v26 ⟨rfl, hb⟩
      replace B := BL.lo B hb
      clear hb
      clear SH
      go_wp2_with fail
      refine (TEN.out v26).mono ?_
      rintro e v27 ⟨rfl, hb⟩
      replace B := BL.lo B hb
      clear hb
      go_wp2_with fail
      refine (n_many13 v27).mono ?_
      rintro e v28 ⟨xa3, xc3, rfl, hs, hb⟩
      replace B := BL.lo B hb
      clear hb
      have S := Lib.hid hs
      clear hs
      go_wp2_with fail
      refine (B13.out v28 xa3 xc3 S.out).mono ?_
      rintro e v29 ⟨rfl, hb⟩
      replace B := BL.lo B hb
      clear hb
      clear S
      go_wp2_with fail
      refine (TENL.out v29).mono ?_
      rintro e v30 ⟨rfl, hb⟩
      replace B := BL.lo B hb
      clear hb
      have S := Lib.hid (four_at (v30.alloc (.cells #[.int .i64 10, .int .i64 10, .int .i64 2, .int .i64 9] 28)) 9 9 1 0)
      have hsz : (v30.alloc (.cells #[.int .i64 10, .int .i64 10, .int .i64 2, .int .i64 9] 28)).heap.size = v30.heap.size + 1 := by simp
      rw [hsz] at S
      clear hsz
      have hal := below_al v30 (.cells #[.int .i64 10, .int .i64 10, .int .i64 2, .int .i64 9] 28)
      replace B := BL.lo B hal
      clear hal
      have hal := below_al (v30.alloc (.cells #[.int .i64 10, .int .i64 10, .int .i64 2, .int .i64 9] 28)) (.cells #[.int .i64 9, .int .i64 9, .int .i64 1, .int .i64 0] 3)
      replace B := BL.lo B hal
      clear hal
      go_wp2_with fail
      refine (NINE.out _ _ 4 S.out).mono ?_
      rintro e v31 ⟨fa9, fn9, fc9, qa9, qc9, st9, dn9, rfl, hs, hb⟩
      replace B := BL.lo B hb
      clear hb
      have S1 := Lib.hid hs
      clear hs S
      have hal := below_al v31 (.cells #[.slice fa9 fn9 fc9, .slice qa9 3 qc9, .int .i64 st9, .bool dn9] 43)
      replace B := BL.lo B hal
      replace S1 := ba_lo S1 hal
      clear hal
      have G := GK.new v31 (.slice fa9 fn9 fc9) (.slice qa9 3 qc9) st9 dn9
      obtain ⟨i0, i1, i2, i3⟩ := GK.at G
      go_wp2_with fail
      clear i0 i1 i2 i3 G
      have S2 := Lib.hid (three_at (v31.alloc (.cells #[.slice fa9 fn9 fc9, .slice qa9 3 qc9, .int .i64 st9, .bool dn9] 43)) 21 32 33)
      have hsz : (v31.alloc (.cells #[.slice fa9 fn9 fc9, .slice qa9 3 qc9, .int .i64 st9, .bool dn9] 43)).heap.size = v31.heap.size + 1 := by simp
      rw [hsz] at S2
      clear hsz
      have hal := below_al (v31.alloc (.cells #[.slice fa9 fn9 fc9, .slice qa9 3 qc9, .int .i64 st9, .bool dn9] 43)) (.cells #[.int .i64 21, .int .i64 32, .int .i64 33] 3)
      replace B := BL.lo B hal
      replace S1 := ba_lo S1 hal
      clear hal
      with_reducible refine (ints_same [21, 32, 33] 3 _ _ _ _ _ (by decide) (by omega) S1.out S2.out).mono ?_
      rintro e v32 ⟨rfl, hg⟩
      have hb := grown_belowN hg.out
      clear hg S2
      replace B := BL.lo B hb
      replace S1 := ba_lo S1 hb
      clear hb
      clear S1
      go_wp2_with fail
      refine (LW0.out v32).mono ?_
      rintro e v33 ⟨rfl, hb⟩
      replace B := BL.lo B hb
      clear hb
      go_wp2_with fail
      refine (LW1.out v33).mono ?_
      rintro e v34 ⟨rfl, hb⟩
      replace B := BL.lo B hb
      clear hb
      go_wp2_with fail
      refine (LW2.out v34).mono ?_
      rintro e v35 ⟨rfl, hb⟩
      replace B := BL.lo B hb
      clear hb
      go_wp2_with fail
      refine (WAK.out v35 (tab_bl HT B)).mono ?_
      rintro e v36 ⟨rfl, hb⟩
      replace B := BL.lo B hb
      clear hb
      have BF := Lib.hid B.out.b
      clear B
      go_wp2_with fail
      go_ret
      exact ⟨rfl, BF.out⟩

end Go.Proofs.YtmjbidnlknmcgaaDoor
