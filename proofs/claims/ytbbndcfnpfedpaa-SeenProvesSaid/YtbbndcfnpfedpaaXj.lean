/- The walk of SeenProves. -/
import Derived.Test.YtbbndcfnpfedpaaXi
import Derived.Test.YtbbndcfnpfedpaaVf
set_option linter.unusedVariables false
set_option linter.unusedSimpArgs false
namespace Go.Proofs.Ytbbndcfnpfedpaa
open Go.RowKit Go.Shelf Go.Maps

attribute [local go_sem] Oper.semAt_some

theorem same_prov (l : Lan) (a : Option Addr) (c : Nat) (ts : List Int) (G : List (List Int)) : provB { l with wa := a, wc := c } ts G = provB l ts G := rfl
theorem isg_rows {fs : Int} {G : List (List Int)} (h : isgB fs G = true) : (G.length : Int) = fs ∧ ∀ row ∈ G, row.length ≤ 1000 ∧ ∀ x ∈ row, 0 ≤ x ∧ x ≤ 10 := by
  unfold isgB at h
  obtain ⟨h1, h2⟩ := Bool.and_eq_true_iff.1 h
  refine ⟨of_decide_eq_true h1, fun row hr => ?_⟩
  obtain ⟨f, hf⟩ := List.mem_iff_getElem?.1 hr
  have hfl : f < G.length := (List.getElem?_eq_some_iff.1 hf).1
  unfold isgTo at h2
  have := List.all_eq_true.1 h2 f (List.mem_range.2 hfl)
  rw [List.getD_eq_getElem?_getD, hf, Option.getD_some] at this
  obtain ⟨⟨⟨p, q⟩, b⟩, hrv⟩ : ∃ rv, rollV row = rv := ⟨_, rfl⟩
  rw [hrv] at this
  simp only at this
  subst this
  obtain ⟨_, _, r1, r2⟩ := roll_behind hrv
  exact ⟨by omega, r2⟩
theorem fit_words {l : Lan} {G : List (List Int)} (hF : faultW l = 0) (hn : (G.length : Int) = l.fs) : ∀ x ∈ l.ws, ∃ f b : Nat, x.fr = (f : Int) ∧ x.ba = (b : Int) ∧ b ≤ 1 ∧ f < G.length := fun x hx => by
  have := fault_w hF x hx
  exact ⟨x.fr.toNat, x.ba.toNat, by omega, by omega, by omega, by omega⟩

set_option maxRecDepth 100000 in
set_option maxHeartbeats 8000000 in
theorem seenProves_any (l : Lan) (ts : List Int) (ta : Option Addr) (tc : Nat) (G : List (List Int)) (ga : Option Addr) (gc : Nat) (w : World) (hL : WdsAt w l.wa l.ws) (_ : (l.ws.length : Int) ≤ 9223372036854775807) (hX : IntsAt w ta ts) (hnl : ta = none → ts = [] ∧ tc = 0) (hG : GAz w ga G) :
    Calls Try.prog 7 #[l.val, .slice ta ts.length tc, .slice ga G.length gc] w fun e w' => e = .returned (.bool true) ∧ Below w.heap.size w w' := by
  have TH := Lib.hid (fun W => thin_any l ta ts.length tc W)
  have WK := Lib.hid (fun W => wakes_any W)
  have X := Lib.hid (BX.mk' l w)
  have I1 := Lib.hid (hX.lo (below_al w (.cells #[.int .i64 l.fs, .slice l.wa l.ws.length l.wc] 24)))
  have N1 := Lib.hid hnl
  by_cases hT : (decide (l.ws.length ≤ 35) && decide (ts.length ≤ 8)) = true
  · have hT2 : l.ws.length ≤ 35 ∧ ts.length ≤ 8 := by simpa using hT
    rw [hT] at TH
    have hw1000 : l.ws.length ≤ 1000 := by omega
    have ht1000 : ts.length ≤ 1000 := by omega
    have LN := Lib.hid (fun W (hb : Below w.heap.size w W) => lawLane_any l W (hL.lo hb) hw1000)
    have LI1 := Lib.hid (fun a c W (hX : IntsAt W a ts) (h0 : a = none → ts = [] ∧ c = 0) => lawlist_any ts a c W hX h0 ht1000)
    have AK := Lib.hid (fun W (hb : Below w.heap.size w W) => asked_any l ts ta tc W (hL.lo hb) hw1000 (hX.lo hb) ht1000)
    have HGZ := Lib.hid hG
    have XTS := Lib.hid hX
    obtain ⟨n, hnn⟩ : ∃ n, Hid (n = G.length) := ⟨_, Lib.hid rfl⟩
    have IG := Lib.hid (fun (h : G.length ≤ 8) W (hb : Below w.heap.size w W) => isGame_ref l G ga gc W (hG.lo hb).at (by omega))
    have FT := Lib.hid (fun (h : G.length ≤ 8) (hc : chkE l ts = 0) (hi : isgB l.fs G = true) W (hb : Below w.heap.size w W) => fits_ref l ts G ta ga tc gc W (hL.lo hb) (hX.lo hb) (hG.lo hb).at hw1000 ht1000 (by omega) (fit_words (chkE_zero hc).1 (isg_rows hi).1) (isg_rows hi).2)
    have RW := Lib.hid (fun (h : G.length ≤ 8) (hr : ∀ row ∈ G, row.length ≤ 5) W (hb : Below w.heap.size w W) => rows_any G ga gc W (hG.lo hb) (by omega) (fun row hm => by have := hr row hm; omega))
    have PG := Lib.hid (fun (h : G.length ≤ 8) (a a2 a5 : Option Addr) (c c2 c5 : Nat) W (hW : WdsAt W a l.ws) (hX : IntsAt W a2 ts) (hR : GAt W a5 G) => proveGame_any { l with wa := a, wc := c } ts G a2 a5 c2 c5 W hW hX hR hw1000 ht1000 (by omega))
    simp only [same_prov l _ _ ts G] at PG
    have HM := Lib.hid (fun h => prove_math (l := l) (ts := ts) (G := G) h)
    have HNO := Lib.hid (show chkE l ts ≠ 0 → provB l ts G = false from fun h => by unfold provB; rw [decide_eq_false h]; rfl)
    have HR0 := Lib.hid (show ∀ row ∈ G.take 0, row.length ≤ 5 from fun row h => by simp at h)
    rw [← hnn.out] at IG FT RW PG ⊢
    unfold NewLan at LN
    unfold Lan.val at *
    clear hL hX hnl hT hT2 hw1000 ht1000 hG
    generalize provB l ts G = PB at *
    generalize isgB l.fs G = GB at *
    generalize fitsR l.ws ts G = FB at *
    generalize chkE l ts = E at *
    go_enter Try.func7, Try.ntmps7
    go_wp2_with fail
    generalize w.alloc _ = W0 at X I1 ⊢
    have k0 := X.out.b.cell 0 (show _ = some (Value.int .i64 l.fs) from rfl)
    have k1 := X.out.b.cell 1 (show _ = some (Value.slice l.wa l.ws.length l.wc) from rfl)
    go_wp2_with fail
    refine (TH.out _).mono ?_
    rintro e w2 ⟨rfl, hb⟩
    replace X := Lib.hid (X.out.lo hb)
    replace I1 := Lib.hid (I1.out.lo hb)
    clear hb k0 k1 TH
    by_cases h8 : n ≤ 8
    · have h8b : ¬ ((8 : Int) < (n : Int)) := by omega
      have h8c : decide ((8 : Int) < (n : Int)) = false := decide_eq_false h8b
      have IG2 := Lib.hid (IG.out h8)
      have FT2 := Lib.hid (FT.out h8)
      have RW2 := Lib.hid (RW.out h8)
      have PG2 := Lib.hid (PG.out h8)
      have H8 := Lib.hid h8
      clear IG FT RW PG h8
      go_wp2_with fail
      clear h8b h8c
      go_loopg [7] n (fun g s7 wx => ∃ i : Nat, i ≤ n ∧ g = n - i ∧ s7 = .int .i64 (i : Int) ∧ Hid (∀ row ∈ G.take i, row.length ≤ 5) ∧ Hid (BX l w wx))
      case atStart => exact ⟨0, by omega, by omega, rfl, HR0, X⟩
      case round =>
        obtain ⟨i, hi, rfl, rfl, hR, hX⟩ := hrel
        clear X I1
        by_cases hlt : i < n
        · have hz1 : (i : Int) < (n : Int) := by omega
          have hz0 : (0 : Int) ≤ (i : Int) := by omega
          have e2 : IntKind.i64.wrap ((i : Int) + 1) = (i : Int) + 1 := IntWalk.i64_in _ (by have := H8.out; omega)
          have HI := Lib.hid hlt
          obtain ⟨row, hrow⟩ : ∃ row, G[i]? = some row := ⟨G[i]'(by have := hnn.out; omega), List.getElem?_eq_getElem _⟩
          obtain ⟨g, o, a', c', rfl, q1, _, _⟩ := HGZ.out i row hrow
          have q1 := cell_lo hX.out.bl q1
          have HTK := Lib.hid (take_next hrow)
          by_cases h5 : row.length ≤ 5
          · have h5b : ¬ ((5 : Int) < (row.length : Int)) := by omega
            have h5c : decide ((5 : Int) < (row.length : Int)) = false := decide_eq_false h5b
            have HN := Lib.hid (show ∀ r ∈ G.take (i + 1), r.length ≤ 5 from fun r hr => by
              rw [HTK.out] at hr
              rcases List.mem_append.1 hr with h | h
              · exact hR.out r h
              · obtain rfl : r = row := by simpa using h
                exact h5)
            clear hlt hi hrow h5
            generalize row.length = m at *
            go_wp2_with fail
            go_roundg (n - (i + 1))
            case measure => have := HI.out; omega
            case rel => exact ⟨i + 1, by have := HI.out; omega, rfl, by simp, HN, hX⟩
          · have h5b : (5 : Int) < (row.length : Int) := by omega
            have h5c : decide ((5 : Int) < (row.length : Int)) = true := decide_eq_true h5b
            clear hlt hi hrow h5
            generalize row.length = m at *
            go_wp2_with fail
            refine (WK.out _).mono ?_
            rintro e w98 ⟨rfl, hb⟩
            have X9 := Lib.hid (hX.out.lo hb)
            clear hb q1
            go_wp2_with fail
            go_returns
            exact ⟨rfl, X9.out.bl⟩
        · have hz1 : ¬ (i : Int) < (n : Int) := by omega
          have HRR := Lib.hid (show ∀ row ∈ G, row.length ≤ 5 by have := hR.out; rwa [List.take_of_length_le (by have := hnn.out; omega)] at this)
          have RW3 := Lib.hid (RW2.out HRR.out)
          have X := hX
          clear hlt hi hR hX RW2
          have k0 := X.out.b.cell 0 (show _ = some (Value.int .i64 l.fs) from rfl)
          have k1 := X.out.b.cell 1 (show _ = some (Value.slice l.wa l.ws.length l.wc) from rfl)
          go_wp2_with fail
          refine (AK.out _ X.out.bl).mono ?_
          rintro e w3 ⟨rfl, hb⟩
          replace X := Lib.hid (X.out.lo hb)
          clear hb k0 k1 AK
          have k0 := X.out.b.cell 0 (show _ = some (Value.int .i64 l.fs) from rfl)
          have k1 := X.out.b.cell 1 (show _ = some (Value.slice l.wa l.ws.length l.wc) from rfl)
          by_cases hE : E = 0
          · subst hE
            have HM2 := Lib.hid (HM.out (by first | rfl | trivial))
            have FT3 := Lib.hid (FT2.out (by first | rfl | trivial))
            clear HM HNO FT2
            go_wp2_with fail
            refine (IG2.out _ X.out.bl).mono ?_
            rintro e w4 ⟨rfl, hb⟩
            replace X := Lib.hid (X.out.lo hb)
            clear hb k0 k1 IG2
            cases GB
            · have HP : Hid (PB = false) := Lib.hid (by rw [HM2.out]; rfl)
              clear HM2 FT3
              have k0 := X.out.b.cell 0 (show _ = some (Value.int .i64 l.fs) from rfl)
              have k1 := X.out.b.cell 1 (show _ = some (Value.slice l.wa l.ws.length l.wc) from rfl)
              go_wp2_with fail
              refine (LN.out _ X.out.bl).mono ?_
              rintro e w11 ⟨a3, c3, rfl, hW3, hg3, hb⟩
              replace X := Lib.hid (X.out.lo hb)
              have W3 := Lib.hid hW3
              have G3 := Lib.hid hg3
              clear hW3 hg3 hb k0 k1
              have IX := Lib.hid (XTS.out.lo X.out.bl)
              go_wp2_with fail
              refine (LI1.out _ _ _ IX.out N1.out).mono ?_
              rintro e w12 ⟨v4, rfl, ho, hb⟩
              obtain ⟨a4, c4, rfl⟩ := own_len ho
              have I4 := Lib.hid (own_intsAt ho).1
              replace X := Lib.hid (X.out.lo hb)
              have W4 := Lib.hid (W3.out.lo hb)
              clear ho hb W3 G3 IX
              go_wp2_with fail
              refine (RW3.out _ X.out.bl).mono ?_
              rintro e w13 ⟨a5, c5, rfl, hR5, hb⟩
              replace X := Lib.hid (X.out.lo hb)
              have W5 := Lib.hid (W4.out.lo hb)
              have I5 := Lib.hid (I4.out.lo hb)
              have P5 := Lib.hid (PG2.out a3 a4 a5 c3 c4 c5 _ W5.out I5.out hR5)
              clear hR5 hb W4 I4 W5 I5
              go_wp2_with fail
              refine P5.out.mono ?_
              rintro e w14 ⟨rfl, hb⟩
              replace X := Lib.hid (X.out.lo hb)
              clear hb P5
              have hq := HP.out
              subst hq
              go_wp2_with fail
              refine (WK.out _).mono ?_
              rintro e w15 ⟨rfl, hb⟩
              have X9 := Lib.hid (X.out.lo hb)
              clear hb
              go_wp2_with fail
              go_returns
              exact ⟨rfl, X9.out.bl⟩
            · have HP : Hid (PB = FB) := Lib.hid (by rw [HM2.out]; rfl)
              have FT4 := Lib.hid (FT3.out (by first | rfl | trivial))
              clear HM2 FT3
              have k0 := X.out.b.cell 0 (show _ = some (Value.int .i64 l.fs) from rfl)
              have k1 := X.out.b.cell 1 (show _ = some (Value.slice l.wa l.ws.length l.wc) from rfl)
              go_wp2_with fail
              refine (FT4.out _ X.out.bl).mono ?_
              rintro e w5 ⟨rfl, hb⟩
              replace X := Lib.hid (X.out.lo hb)
              clear hb k0 k1 FT4
              have k0 := X.out.b.cell 0 (show _ = some (Value.int .i64 l.fs) from rfl)
              have k1 := X.out.b.cell 1 (show _ = some (Value.slice l.wa l.ws.length l.wc) from rfl)
              go_wp2_with fail
              refine (LN.out _ X.out.bl).mono ?_
              rintro e w11 ⟨a3, c3, rfl, hW3, hg3, hb⟩
              replace X := Lib.hid (X.out.lo hb)
              have W3 := Lib.hid hW3
              have G3 := Lib.hid hg3
              clear hW3 hg3 hb k0 k1
              have IX := Lib.hid (XTS.out.lo X.out.bl)
              go_wp2_with fail
              refine (LI1.out _ _ _ IX.out N1.out).mono ?_
              rintro e w12 ⟨v4, rfl, ho, hb⟩
              obtain ⟨a4, c4, rfl⟩ := own_len ho
              have I4 := Lib.hid (own_intsAt ho).1
              replace X := Lib.hid (X.out.lo hb)
              have W4 := Lib.hid (W3.out.lo hb)
              clear ho hb W3 G3 IX
              go_wp2_with fail
              refine (RW3.out _ X.out.bl).mono ?_
              rintro e w13 ⟨a5, c5, rfl, hR5, hb⟩
              replace X := Lib.hid (X.out.lo hb)
              have W5 := Lib.hid (W4.out.lo hb)
              have I5 := Lib.hid (I4.out.lo hb)
              have P5 := Lib.hid (PG2.out a3 a4 a5 c3 c4 c5 _ W5.out I5.out hR5)
              clear hR5 hb W4 I4 W5 I5
              go_wp2_with fail
              refine P5.out.mono ?_
              rintro e w14 ⟨rfl, hb⟩
              replace X := Lib.hid (X.out.lo hb)
              clear hb P5
              have hq := HP.out
              subst hq
              have hbb : (PB == PB) = true := by simp
              go_wp2_with fail
              refine (WK.out _).mono ?_
              rintro e w15 ⟨rfl, hb⟩
              have X9 := Lib.hid (X.out.lo hb)
              clear hb
              go_wp2_with fail
              go_returns
              exact ⟨rfl, X9.out.bl⟩
          · have hE2 : (E == 0) = false := by simpa using hE
            have HP := Lib.hid (HNO.out hE)
            clear hE HNO HM FT2 IG2
            have k0 := X.out.b.cell 0 (show _ = some (Value.int .i64 l.fs) from rfl)
            have k1 := X.out.b.cell 1 (show _ = some (Value.slice l.wa l.ws.length l.wc) from rfl)
            go_wp2_with fail
            refine (LN.out _ X.out.bl).mono ?_
            rintro e w11 ⟨a3, c3, rfl, hW3, hg3, hb⟩
            replace X := Lib.hid (X.out.lo hb)
            have W3 := Lib.hid hW3
            have G3 := Lib.hid hg3
            clear hW3 hg3 hb k0 k1
            have IX := Lib.hid (XTS.out.lo X.out.bl)
            go_wp2_with fail
            refine (LI1.out _ _ _ IX.out N1.out).mono ?_
            rintro e w12 ⟨v4, rfl, ho, hb⟩
            obtain ⟨a4, c4, rfl⟩ := own_len ho
            have I4 := Lib.hid (own_intsAt ho).1
            replace X := Lib.hid (X.out.lo hb)
            have W4 := Lib.hid (W3.out.lo hb)
            clear ho hb W3 G3 IX
            go_wp2_with fail
            refine (RW3.out _ X.out.bl).mono ?_
            rintro e w13 ⟨a5, c5, rfl, hR5, hb⟩
            replace X := Lib.hid (X.out.lo hb)
            have W5 := Lib.hid (W4.out.lo hb)
            have I5 := Lib.hid (I4.out.lo hb)
            have P5 := Lib.hid (PG2.out a3 a4 a5 c3 c4 c5 _ W5.out I5.out hR5)
            clear hR5 hb W4 I4 W5 I5
            go_wp2_with fail
            refine P5.out.mono ?_
            rintro e w14 ⟨rfl, hb⟩
            replace X := Lib.hid (X.out.lo hb)
            clear hb P5
            have hq := HP.out
            subst hq
            go_wp2_with fail
            refine (WK.out _).mono ?_
            rintro e w15 ⟨rfl, hb⟩
            have X9 := Lib.hid (X.out.lo hb)
            clear hb
            go_wp2_with fail
            go_returns
            exact ⟨rfl, X9.out.bl⟩
    · have h8b : (8 : Int) < (n : Int) := by omega
      have h8c : decide ((8 : Int) < (n : Int)) = true := decide_eq_true h8b
      clear h8
      go_wp2_with fail
      refine (WK.out _).mono ?_
      rintro e w98 ⟨rfl, hb⟩
      have X9 := Lib.hid (X.out.lo hb)
      clear hb
      go_wp2_with fail
      go_returns
      exact ⟨rfl, X9.out.bl⟩
  · have hT2 : (decide (l.ws.length ≤ 35) && decide (ts.length ≤ 8)) = false := by simpa using hT
    rw [hT2] at TH
    unfold Lan.val at *
    clear hL hX hnl hT hT2 hG
    go_enter Try.func7, Try.ntmps7
    go_wp2_with fail
    generalize w.alloc _ = W0 at X I1 ⊢
    have k0 := X.out.b.cell 0 (show _ = some (Value.int .i64 l.fs) from rfl)
    have k1 := X.out.b.cell 1 (show _ = some (Value.slice l.wa l.ws.length l.wc) from rfl)
    go_wp2_with fail
    refine (TH.out _).mono ?_
    rintro e w1 ⟨rfl, hb⟩
    replace X := Lib.hid (X.out.lo hb)
    clear hb k0 k1 TH I1
    go_wp2_with fail
    refine (WK.out _).mono ?_
    rintro e w2 ⟨rfl, hb⟩
    replace X := Lib.hid (X.out.lo hb)
    clear hb
    go_wp2_with fail
    go_returns
    exact ⟨rfl, X.out.bl⟩

end Go.Proofs.Ytbbndcfnpfedpaa
