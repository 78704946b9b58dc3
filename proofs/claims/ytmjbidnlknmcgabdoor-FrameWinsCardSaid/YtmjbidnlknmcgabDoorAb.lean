/- The contract of Ahead, with its errors. -/
import Derived.Test.YtmjbidnlknmcgabDoorAa
set_option linter.unusedVariables false
set_option linter.unusedSimpArgs false
namespace Go.Proofs.YtmjbidnlknmcgabDoor
open Go.RowKit

/-- Who may win, and who is sure to. -/
def mayI (R : List (Int × Int)) (i : Nat) (p : Int × Int) : Bool := (R.take i).all (fun q => decide (q.1 ≤ p.2)) && (R.drop (i + 1)).all (fun q => decide (q.1 ≤ p.2))
def sureI (R : List (Int × Int)) (i : Nat) (p : Int × Int) : Bool := (R.take i).all (fun q => decide (q.2 < p.1)) && (R.drop (i + 1)).all (fun q => decide (q.2 < p.1))
def selL (f : List (Int × Int) → Nat → Int × Int → Bool) (R : List (Int × Int)) : Nat → List Int
  | 0 => []
  | i + 1 => selL f R i ++ (match R[i]? with | some p => if f R i p = true then [(i : Int)] else [] | none => [])

theorem selL_yes {f : List (Int × Int) → Nat → Int × Int → Bool} {R : List (Int × Int)} {i : Nat} {p : Int × Int} (hp : R[i]? = some p) (h : f R i p = true) : selL f R (i + 1) = selL f R i ++ [(i : Int)] := by
  rw [selL, hp]; simp [h]
theorem selL_no {f : List (Int × Int) → Nat → Int × Int → Bool} {R : List (Int × Int)} {i : Nat} {p : Int × Int} (hp : R[i]? = some p) (h : f R i p = false) : selL f R (i + 1) = selL f R i := by
  rw [selL, hp]; simp [h]
theorem selL_len (f : List (Int × Int) → Nat → Int × Int → Bool) (R : List (Int × Int)) : ∀ i, (selL f R i).length ≤ i
  | 0 => by simp [selL]
  | i + 1 => by
    have := selL_len f R i
    rw [selL]
    split
    · split <;> simp <;> omega
    · simp; omega

/-- What goes through the loop. -/
structure AhI (w2 W : World) (v1 v2 : Value) (n1 n2 : Nat) (L1 L2 : List Int) : Prop where
  bl : Below w2.heap.size w2 W
  o1 : W.ownsRow w2.heap.size 3 1 v1 n1 (L1.map (Value.int .i64))
  o2 : W.ownsRow w2.heap.size 3 1 v2 n2 (L2.map (Value.int .i64))
  ne : ∀ k, v1.ownBlock = some k → v2.ownBlock ≠ some k
theorem AhI.lo {w2 W W' : World} {v1 v2 : Value} {n1 n2 : Nat} {L1 L2 : List Int} (h : Hid (AhI w2 W v1 v2 n1 n2 L1 L2)) (hb : Below W.heap.size W W') : Hid (AhI w2 W' v1 v2 n1 n2 L1 L2) :=
  Lib.hid ⟨h.out.bl.trans (hb.mono h.out.bl.size), own_below h.out.o1 hb, own_below h.out.o2 hb, h.out.ne⟩
theorem AhI.app1 {w2 W W' : World} {v1 v2 v' : Value} {n1 n2 n' : Nat} {L1 L2 L' : List Int} {o : Obj} (h : Hid (AhI w2 W v1 v2 n1 n2 L1 L2)) (hg : (W.alloc o).grownBy W' v1.ownBlock) (ho : W'.ownsRow w2.heap.size 3 1 v' n' (L'.map (Value.int .i64)))
    (hl : v'.ownBlock = v1.ownBlock ∨ v'.ownBlock = some (W.alloc o).heap.size) : Hid (AhI w2 W' v' v2 n' n2 L' L2) := by
  have h1 := (AhI.lo h (below_al W o)).out
  refine Lib.hid ⟨h1.bl.grown hg h1.bl.size (fun k e => (h.out.o1.lt k e).1), ho, h1.o2.kept hg ?_, ?_⟩
  · cases hk : v2.ownBlock with
    | none => exact .inl rfl
    | some k =>
      right
      intro e
      exact h.out.ne k e.symm hk
  · intro k hk hk2
    rcases hl with hl | hl
    · rw [hl] at hk
      exact h.out.ne k hk hk2
    · rw [hl] at hk
      cases hk
      have := (h1.o2.lt _ hk2).2
      omega
theorem AhI.app2 {w2 W W' : World} {v1 v2 v' : Value} {n1 n2 n' : Nat} {L1 L2 L' : List Int} {o : Obj} (h : Hid (AhI w2 W v1 v2 n1 n2 L1 L2)) (hg : (W.alloc o).grownBy W' v2.ownBlock) (ho : W'.ownsRow w2.heap.size 3 1 v' n' (L'.map (Value.int .i64)))
    (hl : v'.ownBlock = v2.ownBlock ∨ v'.ownBlock = some (W.alloc o).heap.size) : Hid (AhI w2 W' v1 v' n1 n' L1 L') := by
  have h1 := (AhI.lo h (below_al W o)).out
  refine Lib.hid ⟨h1.bl.grown hg h1.bl.size (fun k e => (h.out.o2.lt k e).1), h1.o1.kept hg ?_, ho, ?_⟩
  · cases hk : v1.ownBlock with
    | none => exact .inl rfl
    | some k =>
      right
      exact fun e => h.out.ne k hk e.symm
  · intro k hk hk2
    rcases hl with hl | hl
    · rw [hl] at hk2
      exact h.out.ne k hk hk2
    · rw [hl] at hk2
      cases hk2
      have := (h1.o1.lt _ hk).2
      omega

theorem rng_take {w3 W : World} {g i : Nat} {R : List (Int × Int)} (h : ∀ i p, R[i]? = some p → w3.cell? ⟨g, i * 2, none⟩ = some (.int .i64 p.1) ∧ w3.cell? ⟨g, i * 2 + 1, none⟩ = some (.int .i64 p.2)) (hW : Below w3.heap.size w3 W) : RangesAt W (some ⟨g, 0, none⟩) (R.take i) := by
  intro j p hp
  rw [List.getElem?_take] at hp
  split at hp
  · obtain ⟨h1, h2⟩ := h j p hp
    refine ⟨g, 0, rfl, ?_, ?_⟩
    · rw [Nat.zero_add]; exact below_cell hW h1
    · rw [Nat.zero_add]; exact below_cell hW h2
  · cases hp
theorem rng_drop {w3 W : World} {g i : Nat} {R : List (Int × Int)} (h : ∀ i p, R[i]? = some p → w3.cell? ⟨g, i * 2, none⟩ = some (.int .i64 p.1) ∧ w3.cell? ⟨g, i * 2 + 1, none⟩ = some (.int .i64 p.2)) (hW : Below w3.heap.size w3 W) : RangesAt W (some ⟨g, i * 2, none⟩) (R.drop i) := by
  intro j p hp
  rw [List.getElem?_drop] at hp
  obtain ⟨h1, h2⟩ := h (i + j) p hp
  have e : (i + j) * 2 = i * 2 + j * 2 := by omega
  rw [e] at h1 h2
  exact ⟨g, i * 2, rfl, below_cell hW h1, below_cell hW h2⟩
theorem rng_none {W : World} {g off i : Nat} {R : List (Int × Int)} (h : R.length ≤ i) : RangesAt W (some ⟨g, off, none⟩) (R.drop i) := by
  intro j p hp
  rw [List.drop_of_length_le h] at hp
  simp at hp
theorem SK.far {W W' : World} {g : Nat} {lo hi : Int} {o : Obj} {row : Option Nat} (h : Hid (SK W g lo hi)) (hg : (W.alloc o).grownBy W' row) (hne : row ≠ some g) : Hid (SK W' g lo hi) := by
  have h1 := (SK.lo h (below_al W o)).out.blk
  exact Lib.hid ⟨(hg.block g (lt_of_block h1) (Ne.symm hne)).trans h1⟩

set_option maxRecDepth 100000 in
set_option maxHeartbeats 16000000 in
theorem ahead_good (l : Lw) (ok : l.Ok) (SS : List (Option Addr × Nat × List Int)) (a : Option Addr) (c : Nat) (w : World) (hS : SheetsAt w a SS) (hm : matchE l SS = 0) (hE : spE l SS = 0) (hT : TabOK w) :
    Calls Tryd.prog 9 #[l.val, .slice a SS.length c] w fun e w' => ∃ v1 v2, e = .returned (.tuple #[v1, v2, .int .i64 0]) ∧ w'.ownsRow w.heap.size 3 1 v1 (selL mayI (spR l SS) SS.length).length ((selL mayI (spR l SS) SS.length).map (Value.int .i64)) ∧
      w'.ownsRow w.heap.size 3 1 v2 (selL sureI (spR l SS) SS.length).length ((selL sureI (spR l SS) SS.length).map (Value.int .i64)) ∧ Below w.heap.size w w' := by
  have hn6 : SS.length ≤ 6 := by
    unfold matchE at hm
    split at hm
    · omega
    · split at hm <;> omega
  have hn0 : 0 < SS.length := by
    unfold matchE at hm
    split at hm
    · omega
    · split at hm
      · omega
      · split at hm
        · omega
        · split at hm
          · omega
          · omega
  have HS := Lib.hid hS
  have HT := Lib.hid hT
  have CHK := Lib.hid (fun w hs => checkMatch_any l SS a c w hs (by omega))
  have SPO := Lib.hid (fun w hs hT => spansOf_any l ok SS a c w hs hn6 hT)
  rw [hm] at CHK
  rw [hE] at SPO
  obtain ⟨R, hR⟩ : ∃ R, spR l SS = R := ⟨_, rfl⟩
  rw [hR] at SPO ⊢
  have hRl : R.length = SS.length := by rw [← hR, spR, List.length_map]
  have RCH := Lib.hid (fun R a c p0 lo0 hi0 w hR h hn => all_reached R a c p0 lo0 hi0 w hR h hn)
  have BTN := Lib.hid (fun R a c p0 lo0 hi0 w hR h hn => all_beaten R a c p0 lo0 hi0 w hR h hn)
  have HRL := Lib.hid hRl
  obtain ⟨n, hn⟩ : ∃ n, SS.length = n := ⟨_, rfl⟩
  have hsn : ∀ (w : World), SheetsAt w a SS → SheetsAt w a SS := fun _ h => h
  rw [hn] at CHK SPO HRL hn6 hn0 ⊢
  clear hS hT hm hE hR hRl hn hsn ok
  have A1 : Hid (BL w (w.alloc (.cells #[.int .i64 l.fr, .int .i64 l.pn, .int .i64 l.bl, .int .i64 l.tp] 34))) := BL.al (BL.start w) _
  have L1 := Lib.hid (heap_alloc_new w (.cells #[.int .i64 l.fr, .int .i64 l.pn, .int .i64 l.bl, .int .i64 l.tp] 34))
  unfold Lw.val at *
  go_enter Tryd.func9, Tryd.ntmps9
  go_wp2_with fail
  generalize World.alloc w _ = w1 at A1 L1 ⊢
  obtain ⟨k0, k1, k2, k3⟩ : w1.cell? ⟨w.heap.size, 0, none⟩ = some (.int .i64 l.fr) ∧ w1.cell? ⟨w.heap.size, 1, none⟩ = some (.int .i64 l.pn) ∧ w1.cell? ⟨w.heap.size, 2, none⟩ = some (.int .i64 l.bl) ∧ w1.cell? ⟨w.heap.size, 3, none⟩ = some (.int .i64 l.tp) := by
    have h := L1.out
    exact ⟨by simp [World.cell?, h], by simp [World.cell?, h], by simp [World.cell?, h], by simp [World.cell?, h]⟩
  go_wp2_with fail
  refine (CHK.out w1 (HS.out.lo A1.out.b)).mono ?_
  rintro e w2 ⟨rfl, hb⟩
  have A2 := BL.lo A1 hb
  have L2 := Lib.hid ((hb.block _ (lt_of_block L1.out)).trans L1.out)
  clear hb A1 L1 k0 k1 k2 k3
  obtain ⟨k0, k1, k2, k3⟩ : w2.cell? ⟨w.heap.size, 0, none⟩ = some (.int .i64 l.fr) ∧ w2.cell? ⟨w.heap.size, 1, none⟩ = some (.int .i64 l.pn) ∧ w2.cell? ⟨w.heap.size, 2, none⟩ = some (.int .i64 l.bl) ∧ w2.cell? ⟨w.heap.size, 3, none⟩ = some (.int .i64 l.tp) := by
    have h := L2.out
    exact ⟨by simp [World.cell?, h], by simp [World.cell?, h], by simp [World.cell?, h], by simp [World.cell?, h]⟩
  go_wp2_with fail
  refine (SPO.out w2 (HS.out.lo A2.out.b) (tab_bl HT A2)).mono ?_
  rintro e w3 ⟨v, rfl, how, _, hb⟩
  obtain ⟨base, how⟩ := how trivial
  obtain ⟨gs, sc, hv, hg1, hg2, hg3, hcell⟩ := own2_form how hn0
  subst hv
  have A3 := BL.lo A2 hb
  have R3 : Hid (∀ i p, R[i]? = some p → w3.cell? ⟨gs, i * 2, none⟩ = some (.int .i64 p.1) ∧ w3.cell? ⟨gs, i * 2 + 1, none⟩ = some (.int .i64 p.2)) := Lib.hid (fun i p hp => ⟨hcell _ _ (ballC_at hp).1, hcell _ _ (ballC_at hp).2⟩)
  clear hb how hcell A2 L2 k0 k1 k2 k3 CHK SPO HS hg1
  go_wp2_with fail
  go_loopg [4, 5, 32] n (fun g s4 s5 s32 wx => ∃ (i : Nat) (n1 n2 : Nat), i ≤ n ∧ g = n - i ∧ s32 = .int .i64 (i : Int) ∧ Hid ((selL mayI R i).length = n1 ∧ (selL sureI R i).length = n2) ∧ Hid (AhI w3 wx s4 s5 n1 n2 (selL mayI R i) (selL sureI R i)))
  case atStart => exact ⟨0, 0, 0, by omega, rfl, rfl, Lib.hid ⟨rfl, rfl⟩, Lib.hid ⟨Below.refl _ _, World.ownsRow_nil _ _ _ _, World.ownsRow_nil _ _ _ _, fun k e => by cases e⟩⟩
  case round =>
    obtain ⟨i, n1, n2, hi, rfl, rfl, hN, hI⟩ := hrel
    obtain ⟨va, vc, rfl⟩ := own_len hI.out.o1
    obtain ⟨ua, uc, rfl⟩ := own_len hI.out.o2
    by_cases hlt : i < n
    · have hz0 : (0 : Int) ≤ (i : Int) := by omega
      have hz1 : (i : Int) < (n : Int) := by omega
      have hz2 : (i : Int) ≤ (sc : Int) := by omega
      have hz3 : (i : Int) + 1 ≤ (sc : Int) := by omega
      have hz4 : (i : Int) + 1 ≤ (n : Int) := by omega
      have hz5 : IntKind.i64.wrap ((i : Int) + 1) = (i : Int) + 1 := IntWalk.i64_in _ (by omega)
      have hz6 : (0 : Int) ≤ (i : Int) + 1 := by omega
      obtain ⟨p, hp⟩ : ∃ p, R[i]? = some p := ⟨R[i]'(by rw [HRL.out]; exact hlt), List.getElem?_eq_getElem _⟩
      obtain ⟨lo, hi2⟩ := p
      have HP := Lib.hid hp
      have c1 : wr.cell? ⟨gs, i * 2, none⟩ = some (.int .i64 lo) := below_cell hI.out.bl (R3.out i _ hp).1
      have c2 : wr.cell? ⟨gs, i * 2 + 1, none⟩ = some (.int .i64 hi2) := below_cell hI.out.bl (R3.out i _ hp).2
      have SO := SK.new wr lo hi2
      have I1 := AhI.lo hI (below_al wr (.cells #[.int .i64 lo, .int .i64 hi2] 48))
      clear hp
      go_wp2_with fail
      obtain ⟨p10, hp10⟩ : ∃ p10, wr.heap.size = p10 := ⟨_, rfl⟩
      rw [hp10] at SO ⊢
      have HNE := Lib.hid (show (Value.slice va n1 vc).ownBlock ≠ some p10 from by rw [← hp10]; exact (own_ne2 hI.out.o1 (Nat.le_refl _)).out)
      clear hp10 c1 c2 hI
      generalize World.alloc wr _ = w4 at SO I1 ⊢
      go_cut [11, 12] (fun s11 s12 wx => ∃ (off ln cp : Nat), s11 = .slice (some ⟨gs, 0, none⟩) i sc ∧ s12 = .slice (some ⟨gs, off, none⟩) ln cp ∧ Hid (ln = n - (i + 1)) ∧ Hid (∀ W, Below w3.heap.size w3 W → RangesAt W (some ⟨gs, off, none⟩) (R.drop (i + 1))) ∧ Hid (AhI w3 wx (.slice va n1 vc) (.slice ua n2 uc) n1 n2 (selL mayI R i) (selL sureI R i)) ∧ Hid (SK wx p10 lo hi2))
      case first =>
        have I2 : Hid (AhI w3 w4.drew (.slice va n1 vc) (.slice ua n2 uc) n1 n2 (selL mayI R i) (selL sureI R i)) := AhI.lo I1 ⟨rfl, rfl, rfl, Nat.le_refl _, fun _ _ => rfl⟩
        have S2 := SK.dr SO
        have RA := Lib.hid (fun W (hW : Below w3.heap.size w3 W) => rng_drop (g := gs) (R := R) (i := i + 1) R3.out hW)
        have RZ := Lib.hid (fun (h : sc = i + 1) W (_ : Below w3.heap.size w3 W) (off : Nat) => rng_none (W := W) (g := gs) (off := off) (R := R) (i := i + 1) (by rw [HRL.out]; omega))
        clear I1 SO
        by_cases hcap : sc = i + 1
        · subst hcap
          have hq1 : (i : Int) ≤ (i : Int) + 1 := by omega
          have hq2 : (n : Int) ≤ (i : Int) + 1 := by omega
          go_wp2
          go_still_tail 8, (by kernel_rfl)
          go_wp2_with fail
          go_meet
          exact ⟨_, _, _, rfl, rfl, Lib.hid (by omega), Lib.hid (fun W hW => RZ.out trivial W hW _), I2, S2⟩
        · go_wp2
          go_still_tail 8, (by kernel_rfl)
          go_wp2_with fail
          go_meet
          exact ⟨_, _, _, rfl, rfl, Lib.hid rfl, RA, I2, S2⟩
      case rest =>
        obtain ⟨off, ln, cp, rfl, rfl, HLN, RD, I4, S4⟩ := hcut
        have RT := Lib.hid (fun W (hW : Below w3.heap.size w3 W) => rng_take (g := gs) (R := R) (i := i) R3.out hW)
        have htl : (R.take i).length = i := by rw [List.length_take, HRL.out]; omega
        have hdl : (R.drop (i + 1)).length = ln := by rw [List.length_drop, HRL.out, HLN.out]
        obtain ⟨b1, hb1⟩ : ∃ b, (R.take i).all (fun q => decide (q.1 ≤ hi2)) = b := ⟨_, rfl⟩
        obtain ⟨b2, hb2⟩ : ∃ b, (R.drop (i + 1)).all (fun q => decide (q.1 ≤ hi2)) = b := ⟨_, rfl⟩
        obtain ⟨b3, hb3⟩ : ∃ b, (R.take i).all (fun q => decide (q.2 < lo)) = b := ⟨_, rfl⟩
        obtain ⟨b4, hb4⟩ : ∃ b, (R.drop (i + 1)).all (fun q => decide (q.2 < lo)) = b := ⟨_, rfl⟩
        have HB := Lib.hid (And.intro hb1 (And.intro hb2 (And.intro hb3 hb4)))
        have C1 := Lib.hid (fun W h hs => RCH.out (R.take i) (some ⟨gs, 0, none⟩) sc p10 lo hi2 W h hs (by have := HLN.out; omega))
        have C2 := Lib.hid (fun W h hs => RCH.out (R.drop (i + 1)) (some ⟨gs, off, none⟩) cp p10 lo hi2 W h hs (by have := HLN.out; omega))
        have C3 := Lib.hid (fun W h hs => BTN.out (R.take i) (some ⟨gs, 0, none⟩) sc p10 lo hi2 W h hs (by have := HLN.out; omega))
        have C4 := Lib.hid (fun W h hs => BTN.out (R.drop (i + 1)) (some ⟨gs, off, none⟩) cp p10 lo hi2 W h hs (by have := HLN.out; omega))
        rw [htl, hb1] at C1
        rw [hdl, hb2] at C2
        rw [htl, hb3] at C3
        rw [hdl, hb4] at C4
        have hN1 : n1 ≤ 6 := by have h1 := selL_len mayI R i; rw [hN.out.1] at h1; omega
        have hN2 : n2 ≤ 6 := by have h1 := selL_len sureI R i; rw [hN.out.2] at h1; omega
        obtain ⟨i3, hi3, hy0, hy1, hy2⟩ := info_parts info3
        have HG10 := Lib.hid (lt_of_block S4.out.blk)
        clear htl hdl hb1 hb2 hb3 hb4 RCH BTN
        generalize wc = w4' at RD I4 S4 HG10 ⊢
        go_wp2_with fail
        refine (C1.out w4' (RT.out w4' I4.out.bl) S4).mono ?_
        rintro e w5 ⟨rfl, hb⟩
        have I5 := AhI.lo I4 hb
        have S5 := SK.lo S4 hb
        clear hb I4 S4
        rcases hc1 : b1 with _ | _
        · have y1 := selL_no (f := mayI) HP.out (by rw [mayI, HB.out.1, hc1]; rfl)
          have I6 := I5
          have S6 := S5
          clear I5 S5
          go_wp2_with fail
          refine (C3.out w5 (RT.out w5 I6.out.bl) S6).mono ?_
          rintro e w7 ⟨rfl, hb⟩
          have I7 := AhI.lo I6 hb
          have S7 := SK.lo S6 hb
          clear hb I6 S6
          rcases hc3 : b3 with _ | _
          · have y2 := selL_no (f := sureI) HP.out (by rw [sureI, HB.out.2.2.1, hc3]; rfl)
            go_wp2_with fail
            go_roundg (n - (i + 1))
            case measure => omega
            case rel =>
              refine ⟨i + 1, n1, n2, by omega, rfl, by simp, Lib.hid ⟨?_, ?_⟩, ?_⟩
              · rw [y1]; exact hN.out.1
              · rw [y2]; exact hN.out.2
              · rw [y1, y2]; exact I7
          · go_wp2_with fail
            refine (C4.out w7 (RD.out w7 I7.out.bl) S7).mono ?_
            rintro e w8 ⟨rfl, hb⟩
            have I8 := AhI.lo I7 hb
            clear hb I7 S7
            rcases hc4 : b4 with _ | _
            · have y2 := selL_no (f := sureI) HP.out (by rw [sureI, HB.out.2.2.1, HB.out.2.2.2, hc3, hc4]; rfl)
              go_wp2_with fail
              go_roundg (n - (i + 1))
              case measure => omega
              case rel =>
                refine ⟨i + 1, n1, n2, by omega, rfl, by simp, Lib.hid ⟨?_, ?_⟩, ?_⟩
                · rw [y1]; exact hN.out.1
                · rw [y2]; exact hN.out.2
                · rw [y1, y2]; exact I8
            · have y2 := selL_yes (f := sureI) HP.out (by rw [sureI, HB.out.2.2.1, HB.out.2.2.2, hc3, hc4]; rfl)
              go_wp2_with (at_builtin; go_must (refine wpList_append_own_at _ rfl _ _ 28 rfl w3.heap.size 3 i3 (.int .i64 0) 1 8 Tryd.underlying28 hi3 hy0 hy1 hy2 rfl (by decide) _ n2 _ rfl (own_al I8.out.o2 _) ⟨w8.heap.size, 0, none⟩ 1 1 [.int .i64 (i : Int)] rfl rfl (World.news_of_block (heap_alloc_new w8 _)) (by simp [Value.oneCell']) (by unfold maxLen; omega) (by omega) (Nat.le_trans I8.out.bl.size (below_al w8 _).size) ?_); intro v' w9 hown' hgrow hnil hloc; obtain ⟨zo2a, zo2c, rfl⟩ := own_len hown'; have I9 := AhI.app2 (L' := selL sureI R i ++ [(i : Int)]) I8 hgrow (by rw [List.map_append]; exact hown') hloc; clear hown' hgrow hnil hloc)
              go_roundg (n - (i + 1))
              case measure => omega
              case rel =>
                refine ⟨i + 1, n1, (n2 + 1), by omega, rfl, by simp, Lib.hid ⟨?_, ?_⟩, ?_⟩
                · rw [y1]; exact hN.out.1
                · rw [y2]; rw [List.length_append, hN.out.2]; rfl
                · rw [y1, y2]; exact I9
        · go_wp2_with fail
          refine (C2.out w5 (RD.out w5 I5.out.bl) S5).mono ?_
          rintro e w51 ⟨rfl, hb⟩
          replace I5 := AhI.lo I5 hb
          replace S5 := SK.lo S5 hb
          clear hb
          rcases hc2 : b2 with _ | _
          · have y1 := selL_no (f := mayI) HP.out (by rw [mayI, HB.out.1, HB.out.2.1, hc1, hc2]; rfl)
            have I6 := I5
            have S6 := S5
            clear I5 S5
            go_wp2_with fail
            refine (C3.out w51 (RT.out w51 I6.out.bl) S6).mono ?_
            rintro e w7 ⟨rfl, hb⟩
            have I7 := AhI.lo I6 hb
            have S7 := SK.lo S6 hb
            clear hb I6 S6
            rcases hc3 : b3 with _ | _
            · have y2 := selL_no (f := sureI) HP.out (by rw [sureI, HB.out.2.2.1, hc3]; rfl)
              go_wp2_with fail
              go_roundg (n - (i + 1))
              case measure => omega
              case rel =>
                refine ⟨i + 1, n1, n2, by omega, rfl, by simp, Lib.hid ⟨?_, ?_⟩, ?_⟩
                · rw [y1]; exact hN.out.1
                · rw [y2]; exact hN.out.2
                · rw [y1, y2]; exact I7
            · go_wp2_with fail
              refine (C4.out w7 (RD.out w7 I7.out.bl) S7).mono ?_
              rintro e w8 ⟨rfl, hb⟩
              have I8 := AhI.lo I7 hb
              clear hb I7 S7
              rcases hc4 : b4 with _ | _
              · have y2 := selL_no (f := sureI) HP.out (by rw [sureI, HB.out.2.2.1, HB.out.2.2.2, hc3, hc4]; rfl)
                go_wp2_with fail
                go_roundg (n - (i + 1))
                case measure => omega
                case rel =>
                  refine ⟨i + 1, n1, n2, by omega, rfl, by simp, Lib.hid ⟨?_, ?_⟩, ?_⟩
                  · rw [y1]; exact hN.out.1
                  · rw [y2]; exact hN.out.2
                  · rw [y1, y2]; exact I8
              · have y2 := selL_yes (f := sureI) HP.out (by rw [sureI, HB.out.2.2.1, HB.out.2.2.2, hc3, hc4]; rfl)
                go_wp2_with (at_builtin; go_must (refine wpList_append_own_at _ rfl _ _ 28 rfl w3.heap.size 3 i3 (.int .i64 0) 1 8 Tryd.underlying28 hi3 hy0 hy1 hy2 rfl (by decide) _ n2 _ rfl (own_al I8.out.o2 _) ⟨w8.heap.size, 0, none⟩ 1 1 [.int .i64 (i : Int)] rfl rfl (World.news_of_block (heap_alloc_new w8 _)) (by simp [Value.oneCell']) (by unfold maxLen; omega) (by omega) (Nat.le_trans I8.out.bl.size (below_al w8 _).size) ?_); intro v' w9 hown' hgrow hnil hloc; obtain ⟨zo2a, zo2c, rfl⟩ := own_len hown'; have I9 := AhI.app2 (L' := selL sureI R i ++ [(i : Int)]) I8 hgrow (by rw [List.map_append]; exact hown') hloc; clear hown' hgrow hnil hloc)
                go_roundg (n - (i + 1))
                case measure => omega
                case rel =>
                  refine ⟨i + 1, n1, (n2 + 1), by omega, rfl, by simp, Lib.hid ⟨?_, ?_⟩, ?_⟩
                  · rw [y1]; exact hN.out.1
                  · rw [y2]; rw [List.length_append, hN.out.2]; rfl
                  · rw [y1, y2]; exact I9
          · have y1 := selL_yes (f := mayI) HP.out (by rw [mayI, HB.out.1, HB.out.2.1, hc1, hc2]; rfl)
            go_wp2_with (at_builtin; go_must (refine wpList_append_own_at _ rfl _ _ 28 rfl w3.heap.size 3 i3 (.int .i64 0) 1 8 Tryd.underlying28 hi3 hy0 hy1 hy2 rfl (by decide) _ n1 _ rfl (own_al I5.out.o1 _) ⟨w51.heap.size, 0, none⟩ 1 1 [.int .i64 (i : Int)] rfl rfl (World.news_of_block (heap_alloc_new w51 _)) (by simp [Value.oneCell']) (by unfold maxLen; omega) (by omega) (Nat.le_trans I5.out.bl.size (below_al w51 _).size) ?_); intro v' w6 hown' hgrow hnil hloc; obtain ⟨zo1a, zo1c, rfl⟩ := own_len hown'; have I6 := AhI.app1 (L' := selL mayI R i ++ [(i : Int)]) I5 hgrow (by rw [List.map_append]; exact hown') hloc; have S6 := SK.far S5 hgrow HNE.out; clear hown' hgrow hnil hloc)
            refine (C3.out w6 (RT.out w6 I6.out.bl) S6).mono ?_
            rintro e w7 ⟨rfl, hb⟩
            have I7 := AhI.lo I6 hb
            have S7 := SK.lo S6 hb
            clear hb I6 S6
            rcases hc3 : b3 with _ | _
            · have y2 := selL_no (f := sureI) HP.out (by rw [sureI, HB.out.2.2.1, hc3]; rfl)
              go_wp2_with fail
              go_roundg (n - (i + 1))
              case measure => omega
              case rel =>
                refine ⟨i + 1, (n1 + 1), n2, by omega, rfl, by simp, Lib.hid ⟨?_, ?_⟩, ?_⟩
                · rw [y1]; rw [List.length_append, hN.out.1]; rfl
                · rw [y2]; exact hN.out.2
                · rw [y1, y2]; exact I7
            · go_wp2_with fail
              refine (C4.out w7 (RD.out w7 I7.out.bl) S7).mono ?_
              rintro e w8 ⟨rfl, hb⟩
              have I8 := AhI.lo I7 hb
              clear hb I7 S7
              rcases hc4 : b4 with _ | _
              · have y2 := selL_no (f := sureI) HP.out (by rw [sureI, HB.out.2.2.1, HB.out.2.2.2, hc3, hc4]; rfl)
                go_wp2_with fail
                go_roundg (n - (i + 1))
                case measure => omega
                case rel =>
                  refine ⟨i + 1, (n1 + 1), n2, by omega, rfl, by simp, Lib.hid ⟨?_, ?_⟩, ?_⟩
                  · rw [y1]; rw [List.length_append, hN.out.1]; rfl
                  · rw [y2]; exact hN.out.2
                  · rw [y1, y2]; exact I8
              · have y2 := selL_yes (f := sureI) HP.out (by rw [sureI, HB.out.2.2.1, HB.out.2.2.2, hc3, hc4]; rfl)
                go_wp2_with (at_builtin; go_must (refine wpList_append_own_at _ rfl _ _ 28 rfl w3.heap.size 3 i3 (.int .i64 0) 1 8 Tryd.underlying28 hi3 hy0 hy1 hy2 rfl (by decide) _ n2 _ rfl (own_al I8.out.o2 _) ⟨w8.heap.size, 0, none⟩ 1 1 [.int .i64 (i : Int)] rfl rfl (World.news_of_block (heap_alloc_new w8 _)) (by simp [Value.oneCell']) (by unfold maxLen; omega) (by omega) (Nat.le_trans I8.out.bl.size (below_al w8 _).size) ?_); intro v' w9 hown' hgrow hnil hloc; obtain ⟨zo2a, zo2c, rfl⟩ := own_len hown'; have I9 := AhI.app2 (L' := selL sureI R i ++ [(i : Int)]) I8 hgrow (by rw [List.map_append]; exact hown') hloc; clear hown' hgrow hnil hloc)
                go_roundg (n - (i + 1))
                case measure => omega
                case rel =>
                  refine ⟨i + 1, (n1 + 1), (n2 + 1), by omega, rfl, by simp, Lib.hid ⟨?_, ?_⟩, ?_⟩
                  · rw [y1]; rw [List.length_append, hN.out.1]; rfl
                  · rw [y2]; rw [List.length_append, hN.out.2]; rfl
                  · rw [y1, y2]; exact I9
    · have hin : i = n := by omega
      have HIN := Lib.hid hin
      have hz1 : ¬ (i : Int) < (n : Int) := by omega
      clear hlt hin
      go_wp2_with fail
      go_ret3
      have e1 := hN.out.1
      have e2 := hN.out.2
      have h1 := hI.out.o1
      have h2 := hI.out.o2
      rw [HIN.out] at e1 e2 h1 h2
      refine ⟨.slice va n1 vc, .slice ua n2 uc, rfl, ?_, ?_, A3.out.b.trans (hI.out.bl.mono A3.out.b.size)⟩
      · rw [e1]; exact own_lower h1 A3.out.b.size
      · rw [e2]; exact own_lower h2 A3.out.b.size


end Go.Proofs.YtmjbidnlknmcgabDoor

namespace Go.Proofs.YtmjbidnlknmcgabDoor
open Go.RowKit

set_option maxRecDepth 100000 in
set_option maxHeartbeats 8000000 in
theorem ahead_err1 (l : Lw) (SS : List (Option Addr × Nat × List Int)) (a : Option Addr) (c : Nat) (w : World) (m : Int) (hS : SheetsAt w a SS) (hn : SS.length ≤ 1000) (hm : matchE l SS = m) (hm0 : m ≠ 0) :
    Calls Tryd.prog 9 #[l.val, .slice a SS.length c] w fun e w' => e = .returned (.tuple #[.slice none 0 0, .slice none 0 0, .int .i64 m]) ∧ Below w.heap.size w w' := by
  have HS := Lib.hid hS
  have CHK := Lib.hid (fun w hs => checkMatch_any l SS a c w hs hn)
  rw [hm] at CHK
  have hb : (m == 0) = false := by simpa using hm0
  clear hS hm hm0 hn
  have A1 : Hid (BL w (w.alloc (.cells #[.int .i64 l.fr, .int .i64 l.pn, .int .i64 l.bl, .int .i64 l.tp] 34))) := BL.al (BL.start w) _
  have L1 := Lib.hid (heap_alloc_new w (.cells #[.int .i64 l.fr, .int .i64 l.pn, .int .i64 l.bl, .int .i64 l.tp] 34))
  unfold Lw.val at *
  go_enter Tryd.func9, Tryd.ntmps9
  go_wp2_with fail
  generalize World.alloc w _ = w1 at A1 L1 ⊢
  obtain ⟨k0, k1, k2, k3⟩ : w1.cell? ⟨w.heap.size, 0, none⟩ = some (.int .i64 l.fr) ∧ w1.cell? ⟨w.heap.size, 1, none⟩ = some (.int .i64 l.pn) ∧ w1.cell? ⟨w.heap.size, 2, none⟩ = some (.int .i64 l.bl) ∧ w1.cell? ⟨w.heap.size, 3, none⟩ = some (.int .i64 l.tp) := by
    have h := L1.out
    exact ⟨by simp [World.cell?, h], by simp [World.cell?, h], by simp [World.cell?, h], by simp [World.cell?, h]⟩
  go_wp2_with fail
  refine (CHK.out w1 (HS.out.lo A1.out.b)).mono ?_
  rintro e w2 ⟨rfl, hb2⟩
  have A2 := BL.lo A1 hb2
  clear hb2 A1 L1 k0 k1 k2 k3
  go_wp2_with fail
  go_ret3
  exact ⟨rfl, A2.out.b⟩

set_option maxRecDepth 100000 in
set_option maxHeartbeats 8000000 in
theorem ahead_err2 (l : Lw) (ok : l.Ok) (SS : List (Option Addr × Nat × List Int)) (a : Option Addr) (c : Nat) (w : World) (E : Int) (hS : SheetsAt w a SS) (hn : SS.length ≤ 6) (hm : matchE l SS = 0) (hE : spE l SS = E) (hE0 : E ≠ 0) (hT : TabOK w) :
    Calls Tryd.prog 9 #[l.val, .slice a SS.length c] w fun e w' => e = .returned (.tuple #[.slice none 0 0, .slice none 0 0, .int .i64 E]) ∧ Below w.heap.size w w' := by
  have HS := Lib.hid hS
  have HT := Lib.hid hT
  have CHK := Lib.hid (fun w hs => checkMatch_any l SS a c w hs (by omega))
  have SPO := Lib.hid (fun w hs hT => spansOf_any l ok SS a c w hs hn hT)
  rw [hm] at CHK
  rw [hE] at SPO
  have hb : (E == 0) = false := by simpa using hE0
  have HE0 := Lib.hid hE0
  clear hS hT hm hE hE0 hn ok
  have A1 : Hid (BL w (w.alloc (.cells #[.int .i64 l.fr, .int .i64 l.pn, .int .i64 l.bl, .int .i64 l.tp] 34))) := BL.al (BL.start w) _
  have L1 := Lib.hid (heap_alloc_new w (.cells #[.int .i64 l.fr, .int .i64 l.pn, .int .i64 l.bl, .int .i64 l.tp] 34))
  unfold Lw.val at *
  go_enter Tryd.func9, Tryd.ntmps9
  go_wp2_with fail
  generalize World.alloc w _ = w1 at A1 L1 ⊢
  obtain ⟨k0, k1, k2, k3⟩ : w1.cell? ⟨w.heap.size, 0, none⟩ = some (.int .i64 l.fr) ∧ w1.cell? ⟨w.heap.size, 1, none⟩ = some (.int .i64 l.pn) ∧ w1.cell? ⟨w.heap.size, 2, none⟩ = some (.int .i64 l.bl) ∧ w1.cell? ⟨w.heap.size, 3, none⟩ = some (.int .i64 l.tp) := by
    have h := L1.out
    exact ⟨by simp [World.cell?, h], by simp [World.cell?, h], by simp [World.cell?, h], by simp [World.cell?, h]⟩
  go_wp2_with fail
  refine (CHK.out w1 (HS.out.lo A1.out.b)).mono ?_
  rintro e w2 ⟨rfl, hb2⟩
  have A2 := BL.lo A1 hb2
  have L2 := Lib.hid ((hb2.block _ (lt_of_block L1.out)).trans L1.out)
  clear hb2 A1 L1 k0 k1 k2 k3
  obtain ⟨k0, k1, k2, k3⟩ : w2.cell? ⟨w.heap.size, 0, none⟩ = some (.int .i64 l.fr) ∧ w2.cell? ⟨w.heap.size, 1, none⟩ = some (.int .i64 l.pn) ∧ w2.cell? ⟨w.heap.size, 2, none⟩ = some (.int .i64 l.bl) ∧ w2.cell? ⟨w.heap.size, 3, none⟩ = some (.int .i64 l.tp) := by
    have h := L2.out
    exact ⟨by simp [World.cell?, h], by simp [World.cell?, h], by simp [World.cell?, h], by simp [World.cell?, h]⟩
  go_wp2_with fail
  refine (SPO.out w2 (HS.out.lo A2.out.b) (tab_bl HT A2)).mono ?_
  rintro e w3 ⟨v, rfl, _, hv, hb2⟩
  obtain rfl := hv HE0.out
  have A3 := BL.lo A2 hb2
  clear hb2 A2 L2 k0 k1 k2 k3
  go_wp2_with fail
  go_ret3
  exact ⟨rfl, A3.out.b⟩

set_option maxRecDepth 100000 in
set_option maxHeartbeats 2000000 in
theorem many_none (ball : Int) (times : Nat) (w : World) (ht : times ≤ 100) :
    Calls Tryd.prog 18 #[.int .i64 ball, .int .i64 (times : Int), .slice none 0 0] w fun e w' => ∃ v, e = .returned v ∧
      w'.ownsRow w.heap.size 3 1 v times ((List.replicate times ball).map (Value.int .i64)) ∧ Below w.heap.size w w' := by
  obtain ⟨i3, hi3, hy0, hy1, hy2⟩ := info_parts info3
  go_enter Tryd.func18, Tryd.ntmps18
  go_wp2_with fail
  go_loopw [7, 8] (fun v i wr => ∃ k : Nat, k ≤ times ∧ i = .int .i64 k ∧ Hid (wr.ownsRow w.heap.size 3 1 v k ((List.replicate k ball).map (Value.int .i64))) ∧ Hid (Below w.heap.size w wr)) (fun _ i _ => times - (intOf i).toNat)
  case atStart => exact ⟨0, by omega, rfl, Lib.hid (World.ownsRow_nil _ _ _ _), Lib.hid (Below.refl _ _)⟩
  case round =>
    obtain ⟨k, hk, rfl, how, hB⟩ := hrel
    by_cases hlt : k < times
    · have hlt1 : (k : Int) < (times : Int) := by omega
      have e2 : IntKind.i64.wrap ((k : Int) + 1) = (k : Int) + 1 := IntWalk.i64_in _ (by omega)
      have hsz := hB.out.size
      have how0 := how.out
      go_wp2_with (at_builtin; refine wpList_append_own_at _ rfl _ _ 28 rfl w.heap.size 3 i3 (.int .i64 0) 1 8 Tryd.underlying28 hi3 hy0 hy1 hy2 rfl (by decide) _ _ _ rfl (how0.alloc _) ⟨wr.heap.size, 0, none⟩ 1 1 [.int .i64 ball] rfl rfl (cell_one_new _ _ _) (by simp [Value.oneCell']) (by unfold maxLen; omega) (by omega) (by simp; omega) ?_; intro v' w1 hown' hgrow hnil hloc; have ho1 := Lib.hid hown'; have hB1 := Lib.hid (below_own (hB.out.alloc hsz _) (how0.alloc _) hgrow); clear hown' hgrow hnil hloc)
      refine ⟨⟨k + 1, by omega, by simp, Lib.hid ?_, hB1⟩, by simp [intOf]; omega⟩
      have h := ho1.out
      rw [List.replicate_succ', List.map_append]
      exact h
    · have hlt1 : ¬ (k : Int) < (times : Int) := by omega
      have hke : k = times := by omega
      subst hke
      have hsz := hB.out.size
      have how0 := how.out
      go_wp2_with (at_builtin; refine wpList_append_none _ rfl _ _ 28 rfl w.heap.size 3 i3 1 Tryd.underlying28 hi3 _ _ _ rfl how0 rfl ?_)
      go_returns
      exact ⟨_, rfl, by have h := how.out; rw [List.map_replicate] at h; exact h, hB.out⟩

def bsA : List Int := [10, 10, 5, 5]
def bsB : List Int := List.replicate 10 10 ++ [9, 1]
def bsC : List Int := List.replicate 11 10
def bsD : List Int := List.replicate 13 10
def nineL : Lw := ⟨10, 10, 2, 9⟩
def bsE : List Int := [9, 9, 1, 0]
theorem vA : errS tenL 4 = 0 ∧ (fol tenL (rec0 tenL) bsA).2 = 4 := by decide +kernel
theorem vN : rdE tenL eveL = 0 ∧ rdN tenL eveL = 4 ∧ rdM tenL eveL = [20, 39, 48] ∧ rdS tenL eveL = 6 ∧ rdD tenL eveL = false ∧ rdF tenL eveL = [[10], [7, 3], [9, -1], [4]] := by decide +kernel
theorem v74 : rdE tenL [7, 4] = 10 := by decide +kernel
theorem vSp : (recS tenL manyL).tot = 288 ∧ bestV tenL (recS tenL manyL).s = 1 := by decide +kernel
theorem v290 : shE tenL manyL 290 = 9 := by decide +kernel
theorem vB : rdE tenL bsB = 0 ∧ (recS tenL bsB).tot = 289 ∧ bestV tenL (recS tenL bsB).s = 0 := by decide +kernel
theorem vC : rdE tenL bsC = 0 ∧ (recS tenL bsC).tot = 290 ∧ bestV tenL (recS tenL bsC).s = 10 := by decide +kernel
theorem vD : errS tenL 13 = 0 ∧ (fol tenL (rec0 tenL) bsD).2 = 12 := by decide +kernel
theorem vE : rdE nineL bsE = 0 ∧ rdM nineL bsE = [21, 32, 33] := by decide +kernel
theorem v11 : rdE tenL [11] = 10 ∧ rdE tenL [] = 0 := by decide +kernel
theorem v41 : errS tenL 41 = 3 := by decide +kernel

end Go.Proofs.YtmjbidnlknmcgabDoor
