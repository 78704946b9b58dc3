/- FrameShows: for any law, any sheet and any final count, the ending that the program shows is one (balls from 0 on, at most 40 of them) by which the game has that final count, where the reference knows an ending with it, or the error is as the reference says. Its conditions: none on the input (sheets of more than 45 balls are let by, as the statement does); the library's table deBruijn64tab reads as its own text lays it (the card ties it). -/
import Derived.Test.YtmjbidnlknmcgaaDoorRk3
import Derived.Test.YtmjbidnlknmcgaaDoorTk
import Derived.Test.YtmjbidnlknmcgaaDoorTi
set_option linter.unusedVariables false
set_option linter.unusedSimpArgs false
namespace Go.Proofs.YtmjbidnlknmcgaaDoor
open Go.RowKit

/-- Here an 'append' comes up, under a guard or not. -/
theorem append_hereG {P : Program} {ops : Array Oper} {d : Option Tmp} {s x : Operand} {t ty : TypeId} {p : String} {af : Array Edge} {gd : Option (Nat × Bool)} {a : Act} {w : World} {K : Act → World → Prop} {Q : Exit → Act → World → Prop} {E : Prop}
    (h : if Region.wanted { dst := d, op := .call { callee := .builtin .append, args := #[s, x], argTypes := #[t, t] }, type := ty, pos := p, after := af, guard := gd } (yielded ops a.tmps) = true then Oper.wp P { dst := d, op := .call { callee := .builtin .append, args := #[s, x], argTypes := #[t, t] }, type := ty, pos := p, after := af, guard := gd } a w K Q else E) :
    if Region.wanted { dst := d, op := .call { callee := .builtin .append, args := #[s, x], argTypes := #[t, t] }, type := ty, pos := p, after := af, guard := gd } (yielded ops a.tmps) = true then Oper.wp P { dst := d, op := .call { callee := .builtin .append, args := #[s, x], argTypes := #[t, t] }, type := ty, pos := p, after := af, guard := gd } a w K Q else E := h

set_option maxRecDepth 100000 in
set_option maxHeartbeats 16000000 in
theorem shows_any (l : Lw) (bs : List Int) (a : Option Addr) (c : Nat) (final : Int) (w : World) (hs : SheetAt w a c bs) (hc : bs.length ≤ c) (hT : TabOK w) :
    Calls Tryd.prog 6 #[l.val, .slice a bs.length c, .int .i64 final] w fun e w' => e = .returned (.bool true) ∧ Below w.heap.size w w' := by
  have HT := Lib.hid hT
  have HS := Lib.hid hs
  have WAK := Lib.hid wakes_any
  clear hT hs
  by_cases hn : bs.length ≤ 45
  · have LAW := Lib.hid (law_any l)
    have LST := Lib.hid (fun w h => list_any bs a c w h (by omega))
    have FLT := Lib.hid (fun w h => fault_any l bs a c w h hn)
    have hgt : ¬ (45 : Int) < (bs.length : Int) := by omega
    by_cases he : rdE l bs = 0
    · have SHG := Lib.hid (fun a c w hs => sh_good l bs a c final w hs he)
      have FIN := Lib.hid (fun w hs => finals_ref l bs a c w hs hc he)
      have HMEM := Lib.hid (fun L hL => fin_mem (n := final) (L := L) he hL)
      rw [he] at FLT
      have hlen : bs.length ≤ 40 := (errS_zero (rdE_zero he).1).2
      cases hbit : hasB (finN l bs) final
      · have e1 : shE l bs final = 9 := by simp [shE, hbit]
        have e2 : shL l bs final = [] := by simp [shL, hbit]
        rw [e1, e2] at SHG
        rw [hbit] at HMEM
        simp only [List.length_nil, Bool.false_eq_true, iff_false] at SHG HMEM
        generalize Rs l (recS l bs).s = N at FIN HMEM
        generalize (recS l bs).tot = X at FIN HMEM
        obtain ⟨n, hnn⟩ : ∃ n, bs.length = n := ⟨_, rfl⟩
        rw [hnn] at LST FLT SHG FIN hgt hlen hc ⊢
        clear he hn hnn hbit e1 e2
        unfold Lw.val at *
        go_enter Tryd.func6, Tryd.ntmps6
        go_wp2_with fail
        have A1 := WL.start w l
        generalize World.alloc w _ = w1 at A1 ⊢
        obtain ⟨k0, k1, k2, k3⟩ := WL.at A1
        go_wp2_with fail
        refine (LAW.out w1).mono ?_
        rintro e w2 ⟨rfl, hb⟩
        have A2 := WL.lo A1 hb
        clear hb A1 k0 k1 k2 k3
        go_wp2_with fail
        refine (LST.out w2 (HS.out.lo A2.out.bl)).mono ?_
        rintro e w5 ⟨v, rfl, ho, hb⟩
        obtain ⟨va, vc, rfl⟩ := own_len ho
        have A5 := WL.lo A2 hb
        have S5 := Lib.hid (own_ballsAt ho)
        clear hb ho A2

        go_wp2_with fail
        refine (SHG.out va vc w5 S5.out).mono ?_
        rintro e w6 ⟨v, rfl, ⟨bb, ho, hbb⟩, hb⟩
        obtain ⟨ea, ec, rfl⟩ := own_len ho
        have A6 := WL.lo A5 hb
        have E6 := Lib.hid ho
        clear hb ho hbb A5 S5
        obtain ⟨k0, k1, k2, k3⟩ := WL.at A6
        go_wp2_with fail
        refine (FLT.out w6 (HS.out.1.lo A6.out.bl)).mono ?_
        rintro e w9 ⟨rfl, hb⟩
        have A9 := WL.lo A6 hb
        have E9 := Lib.hid (own_below E6.out hb)
        clear hb A6 E6 k0 k1 k2 k3
        obtain ⟨k0, k1, k2, k3⟩ := WL.at A9
        go_wp2_with fail
        refine (FIN.out w9 (HS.out.1.lo A9.out.bl)).mono ?_
        rintro e w10 ⟨v, L, rfl, hT, ho, hb⟩
        have A10 := WL.lo A9 hb
        have E10 := Lib.hid (own_below E9.out hb)
        have HFM := Lib.hid (HMEM.out L hT.out)
        have hm1 : (selB N X L).length ≤ 1000 := by have h1 := selB_len N X L; have h2 := hT.out.le; omega
        obtain ⟨F, hF⟩ : ∃ F, selB N X L = F := ⟨_, rfl⟩
        rw [hF] at ho HFM hm1
        obtain ⟨m, hm⟩ : ∃ m, F.length = m := ⟨_, rfl⟩
        rw [hm] at ho hm1
        obtain ⟨fa, fc, rfl⟩ := own_len ho
        have S10 := Lib.hid (own_ballsAt ho)
        have HM := Lib.hid hm
        clear hT hb ho hF hm A9 E9 k0 k1 k2 k3 HMEM FIN
        go_wp2_with fail
        go_loopg [9, 11] m (fun g s9 s11 wx => ∃ (i : Nat) (wt : Int), i ≤ m ∧ g = m - i ∧ s11 = .int .i64 (i : Int) ∧ s9 = .int .i64 wt ∧ Hid (wt = if final ∈ F.take i then 0 else 9) ∧ w10 = wx)
        case atStart => exact ⟨0, 9, by omega, rfl, rfl, rfl, Lib.hid (by simp), rfl⟩
        case round =>
          obtain ⟨i, wt, hi, rfl, rfl, rfl, hW, rfl⟩ := hrel
          by_cases him : i < m
          · have hi0 : (0 : Int) ≤ (i : Int) := by omega
            have hi1 : (i : Int) < (m : Int) := by omega
            have hw1 : IntKind.i64.wrap ((i : Int) + 1) = (i : Int) + 1 := IntWalk.i64_in _ (by omega)
            obtain ⟨f, hf⟩ : ∃ f, F[i]? = some f := ⟨F[i]'(by rw [HM.out]; exact him), List.getElem?_eq_getElem _⟩
            obtain ⟨g, o, rfl, hcell⟩ := S10.out i f hf
            have htk : F.take (i + 1) = F.take i ++ [f] := by rw [List.take_add_one, hf]; rfl
            have HTK := Lib.hid htk
            clear hf htk
            by_cases hq : f = final
            · have hqb : (f == final) = true := by simpa using hq
              have HQ := Lib.hid hq
              clear hq
              go_wp2_with fail
              go_roundg (m - (i + 1))
              case measure => omega
              case rel => exact ⟨i + 1, 0, by omega, rfl, by simp, rfl, Lib.hid (by rw [HTK.out, if_pos (by simp [HQ.out])]), rfl⟩
            · have hqb : (f == final) = false := by simpa using hq
              have HQ := Lib.hid hq
              clear hq
              go_wp2_with fail
              go_roundg (m - (i + 1))
              case measure => omega
              case rel => exact ⟨i + 1, wt, by omega, rfl, by simp, rfl, Lib.hid (by
                rw [HTK.out, hW.out]
                have h1 : final ∈ F.take i ++ [f] ↔ final ∈ F.take i := by
                  rw [List.mem_append]
                  constructor
                  · rintro (h | h)
                    · exact h
                    · simp at h; exact absurd h.symm HQ.out
                  · exact Or.inl
                simp only [h1]), rfl⟩
          · have hie : i = m := by omega
            subst hie
            have hi1 : ¬ (i : Int) < (i : Int) := by omega
            have hwt := hW.out
            rw [← HM.out, List.take_length] at hwt

            rw [if_neg HFM.out] at hwt
            subst hwt
            clear hW HFM S10
            go_wp2_with fail
            refine (WAK.out _ (HT.out.below A10.out.bl HT.out.pos)).mono ?_
            rintro e wC ⟨rfl, hb⟩
            have BF := Lib.hid (A10.out.bl.trans (hb.mono A10.out.bl.size))
            clear hb
            go_wp2_with fail
            go_ret
            exact ⟨rfl, BF.out⟩
      · have e1 : shE l bs final = 0 := by simp [shE, hbit]
        have hsh := sh_yes he hbit
        obtain ⟨sx, hFO, hsf⟩ := hsh.fo
        have hrd := hFO.rd (recS_ok he).1
        have FN0 := fun (za : Option Addr) (zc : Nat) (W : World) hs => final_ref l (bs ++ shL l bs final) za zc W hs hrd (by
          have h1 := hFO.s
          have h2 : (recS l (bs ++ shL l bs final)).s = sx := h1
          rw [h2]; exact hsf)
        rw [hsh.tot] at FN0
        have hnn0 := shL_nn (l := l) (bs := bs) (n := final)
        have hme := hsh.len
        rw [e1] at SHG
        rw [hbit] at HMEM
        simp only [iff_true] at HMEM
        generalize shL l bs final = E at SHG FN0 hnn0 hme
        generalize Rs l (recS l bs).s = N at FIN HMEM
        generalize (recS l bs).tot = X at FIN HMEM
        obtain ⟨n, hnn⟩ : ∃ n, bs.length = n := ⟨_, rfl⟩
        obtain ⟨me, hel⟩ : ∃ me, E.length = me := ⟨_, rfl⟩
        rw [List.length_append, hnn, hel] at FN0
        rw [hnn] at LST FLT SHG FIN hgt hlen hc ⊢
        rw [hel] at SHG hme
        have HEL := Lib.hid hel
        have HNN := Lib.hid hnn0
        have FN := Lib.hid FN0
        have hme40 : (me : Int) ≤ 40 := by omega
        clear he hn hnn hbit e1 hsh hFO hsf hrd hel hnn0 FN0
        unfold Lw.val at *
        go_enter Tryd.func6, Tryd.ntmps6
        go_wp2_with fail
        have A1 := WL.start w l
        generalize World.alloc w _ = w1 at A1 ⊢
        obtain ⟨k0, k1, k2, k3⟩ := WL.at A1
        go_wp2_with fail
        refine (LAW.out w1).mono ?_
        rintro e w2 ⟨rfl, hb⟩
        have A2 := WL.lo A1 hb
        clear hb A1 k0 k1 k2 k3
        go_wp2_with fail
        refine (LST.out w2 (HS.out.lo A2.out.bl)).mono ?_
        rintro e w5 ⟨v, rfl, ho, hb⟩
        obtain ⟨va, vc, rfl⟩ := own_len ho
        have A5 := WL.lo A2 hb
        have S5 := Lib.hid (own_ballsAt ho)
        clear hb ho A2

        go_wp2_with fail
        refine (SHG.out va vc w5 S5.out).mono ?_
        rintro e w6 ⟨v, rfl, ⟨bb, ho, hbb⟩, hb⟩
        obtain ⟨ea, ec, rfl⟩ := own_len ho
        have A6 := WL.lo A5 hb
        have E6 := Lib.hid ho
        clear hb ho hbb A5 S5
        obtain ⟨k0, k1, k2, k3⟩ := WL.at A6
        go_wp2_with fail
        refine (FLT.out w6 (HS.out.1.lo A6.out.bl)).mono ?_
        rintro e w9 ⟨rfl, hb⟩
        have A9 := WL.lo A6 hb
        have E9 := Lib.hid (own_below E6.out hb)
        clear hb A6 E6 k0 k1 k2 k3
        obtain ⟨k0, k1, k2, k3⟩ := WL.at A9
        go_wp2_with fail
        refine (FIN.out w9 (HS.out.1.lo A9.out.bl)).mono ?_
        rintro e w10 ⟨v, L, rfl, hT, ho, hb⟩
        have A10 := WL.lo A9 hb
        have E10 := Lib.hid (own_below E9.out hb)
        have HFM := Lib.hid (HMEM.out L hT.out)
        have hm1 : (selB N X L).length ≤ 1000 := by have h1 := selB_len N X L; have h2 := hT.out.le; omega
        obtain ⟨F, hF⟩ : ∃ F, selB N X L = F := ⟨_, rfl⟩
        rw [hF] at ho HFM hm1
        obtain ⟨m, hm⟩ : ∃ m, F.length = m := ⟨_, rfl⟩
        rw [hm] at ho hm1
        obtain ⟨fa, fc, rfl⟩ := own_len ho
        have S10 := Lib.hid (own_ballsAt ho)
        have HM := Lib.hid hm
        clear hT hb ho hF hm A9 E9 k0 k1 k2 k3 HMEM FIN
        go_wp2_with fail
        go_loopg [9, 11] m (fun g s9 s11 wx => ∃ (i : Nat) (wt : Int), i ≤ m ∧ g = m - i ∧ s11 = .int .i64 (i : Int) ∧ s9 = .int .i64 wt ∧ Hid (wt = if final ∈ F.take i then 0 else 9) ∧ w10 = wx)
        case atStart => exact ⟨0, 9, by omega, rfl, rfl, rfl, Lib.hid (by simp), rfl⟩
        case round =>
          obtain ⟨i, wt, hi, rfl, rfl, rfl, hW, rfl⟩ := hrel
          by_cases him : i < m
          · have hi0 : (0 : Int) ≤ (i : Int) := by omega
            have hi1 : (i : Int) < (m : Int) := by omega
            have hw1 : IntKind.i64.wrap ((i : Int) + 1) = (i : Int) + 1 := IntWalk.i64_in _ (by omega)
            obtain ⟨f, hf⟩ : ∃ f, F[i]? = some f := ⟨F[i]'(by rw [HM.out]; exact him), List.getElem?_eq_getElem _⟩
            obtain ⟨g, o, rfl, hcell⟩ := S10.out i f hf
            have htk : F.take (i + 1) = F.take i ++ [f] := by rw [List.take_add_one, hf]; rfl
            have HTK := Lib.hid htk
            clear hf htk
            by_cases hq : f = final
            · have hqb : (f == final) = true := by simpa using hq
              have HQ := Lib.hid hq
              clear hq
              go_wp2_with fail
              go_roundg (m - (i + 1))
              case measure => omega
              case rel => exact ⟨i + 1, 0, by omega, rfl, by simp, rfl, Lib.hid (by rw [HTK.out, if_pos (by simp [HQ.out])]), rfl⟩
            · have hqb : (f == final) = false := by simpa using hq
              have HQ := Lib.hid hq
              clear hq
              go_wp2_with fail
              go_roundg (m - (i + 1))
              case measure => omega
              case rel => exact ⟨i + 1, wt, by omega, rfl, by simp, rfl, Lib.hid (by
                rw [HTK.out, hW.out]
                have h1 : final ∈ F.take i ++ [f] ↔ final ∈ F.take i := by
                  rw [List.mem_append]
                  constructor
                  · rintro (h | h)
                    · exact h
                    · simp at h; exact absurd h.symm HQ.out
                  · exact Or.inl
                simp only [h1]), rfl⟩
          · have hie : i = m := by omega
            subst hie
            have hi1 : ¬ (i : Int) < (i : Int) := by omega
            have hwt := hW.out
            rw [← HM.out, List.take_length] at hwt

            rw [if_pos HFM.out] at hwt
            subst hwt
            clear hW HFM S10
            go_wp2_with fail
            have SE := Lib.hid (own_ballsAt E10.out)
            go_loopg [12] me (fun g s12 wx => ∃ (j : Nat), j ≤ me ∧ g = me - j ∧ s12 = .int .i64 (j : Int) ∧ w10 = wx)
            case atStart => exact ⟨0, by omega, rfl, rfl, rfl⟩
            case round =>
              obtain ⟨j, hj, rfl, rfl, rfl⟩ := hrel
              by_cases hjm : j < me
              · have hj0 : (0 : Int) ≤ (j : Int) := by omega
                have hj1 : (j : Int) < (me : Int) := by omega
                have hw1 : IntKind.i64.wrap ((j : Int) + 1) = (j : Int) + 1 := IntWalk.i64_in _ (by omega)
                obtain ⟨f, hf⟩ : ∃ f, E[j]? = some f := ⟨E[j]'(by rw [HEL.out]; exact hjm), List.getElem?_eq_getElem _⟩
                have hnn := HNN.out f (List.mem_of_getElem? hf)
                have hnn2 : ¬ f < 0 := by omega
                obtain ⟨g, o, rfl, hcell⟩ := SE.out j f hf
                clear hf
                go_wp2_with fail
                go_roundg (me - (j + 1))
                case measure => omega
                case rel => exact ⟨j + 1, by omega, rfl, by simp, rfl⟩
              · have hje : j = me := by omega
                subst hje
                have hj1 : ¬ (j : Int) < (j : Int) := by omega
                have SP : Hid (∀ W, Hid (BL w10 W) → (W.cell? ⟨w.heap.size, 0, none⟩ = some (.int .i64 l.fr) ∧ W.cell? ⟨w.heap.size, 1, none⟩ = some (.int .i64 l.pn) ∧ W.cell? ⟨w.heap.size, 2, none⟩ = some (.int .i64 l.bl) ∧ W.cell? ⟨w.heap.size, 3, none⟩ = some (.int .i64 l.tp))) := Lib.hid (fun W h => BL.law h A10)
                have LN := Lib.hid (fun W (h : Hid (BL w10 W)) => LST.out W (HS.out.lo (A10.out.bl.trans (h.out.b.mono A10.out.bl.size))))
                have WK := Lib.hid (fun W (h : Hid (BL w10 W)) => WAK.out W (HT.out.below (A10.out.bl.trans (h.out.b.mono A10.out.bl.size)) HT.out.pos))
                have hfe : (final == final) = true := by simp
                obtain ⟨i3, hi3, hy0, hy1, hy2⟩ := info_parts info3
                clear LST WAK HS HT SE HNN hi
                go_upto_region 20 with fail
                go_cut [6] (fun s6 wx => s6 = .bool true ∧ Hid (BL w10 wx))
                case first =>
                  clear A10
                  go_region_held3 (fun W => W.cell? ⟨w.heap.size, 0, none⟩ = some (.int .i64 l.fr) ∧ W.cell? ⟨w.heap.size, 1, none⟩ = some (.int .i64 l.pn) ∧ W.cell? ⟨w.heap.size, 2, none⟩ = some (.int .i64 l.bl) ∧ W.cell? ⟨w.heap.size, 3, none⟩ = some (.int .i64 l.tp))
                    (with_reducible first | exact SP.out _ (BL.dr (BL.start w10)) | exact SP.out _ PA | exact SP.out _ PB | exact SP.out _ PC | exact SP.out _ PD)
                    (first
                      | (go_at_call 19; (with_reducible refine (LN.out _ (BL.dr (BL.start w10))).mono ?_); rintro e wA ⟨v, rfl, ho, hb⟩; have hln := own_len ho; obtain ⟨xa, xc, rfl⟩ := hln; have PA := BL.lo (BL.dr (BL.start w10)) hb; have OA := Lib.hid ho; have EA := Lib.hid (own_below E10.out PA.out.b); have hbs := Lib.hid hb.size; clear hb ho)
                      | (go_at_call 30; (with_reducible refine (FN.out _ _ _ SB.out).mono ?_); rintro e wC ⟨rfl, hb⟩; have PC := BL.lo PB hb; clear hb)
                      | (go_at_call 15; (with_reducible refine (WK.out _ PC).mono ?_); rintro e wD ⟨rfl, hb⟩; have PD := BL.lo PC hb; clear hb)
                      | ((with_reducible refine append_hereG ?_); refine step_append_met _ (by rfl) _ _ 24 (by rfl) _ 3 i3 (.int .i64 0) 1 8 Tryd.underlying24 hi3 hy0 hy1 hy2 rfl (by decide) _ n _ (by rfl) OA.out ea j ec (E.map (Value.int .i64)) (by rfl) (own_nilB EA.out) (by simp [HEL.out]) (own_newsB EA.out) (by simp [Value.oneCell']) (by unfold maxLen; omega) (by omega) hbs.out ?_; intro v' wB hown hgrow; have PB := BL.grow PA OA.out (Nat.le_refl _) hgrow; have hln := own_len hown; obtain ⟨za, zc, rfl⟩ := hln; have SB := Lib.hid (own_ballsAt (xs := bs ++ E) (by rw [List.map_append]; exact hown)); clear hown hgrow))
                  all_goals
                    go_wp2_with fail
                    go_meet
                    with_reducible exact ⟨rfl, PD⟩
                case rest =>
                  obtain ⟨rfl, PD⟩ := hcut
                  have BF := Lib.hid (A10.out.bl.trans (PD.out.b.mono A10.out.bl.size))
                  clear SP LN WK
                  go_wp2_with fail
                  go_ret
                  exact ⟨rfl, BF.out⟩
    · have SHB := Lib.hid (fun a c w hs => sh_bad l bs a c final w hs he)
      obtain ⟨E, hE⟩ : ∃ E, rdE l bs = E := ⟨_, rfl⟩
      rw [hE] at FLT SHB he
      have he1 : (E == 0) = false := by simpa using he
      have he2 : (E != 0) = true := by simpa using he
      have he3 : (E == E) = true := by simp
      obtain ⟨n, hnn⟩ : ∃ n, bs.length = n := ⟨_, rfl⟩
      rw [hnn] at LST FLT SHB hgt ⊢
      clear hE hn hnn hc
      unfold Lw.val at *
      go_enter Tryd.func6, Tryd.ntmps6
      go_wp2_with fail
      have A1 := WL.start w l
      generalize World.alloc w _ = w1 at A1 ⊢
      obtain ⟨k0, k1, k2, k3⟩ := WL.at A1
      go_wp2_with fail
      refine (LAW.out w1).mono ?_
      rintro e w2 ⟨rfl, hb⟩
      have A2 := WL.lo A1 hb
      clear hb A1 k0 k1 k2 k3
      go_wp2_with fail
      refine (LST.out w2 (HS.out.lo A2.out.bl)).mono ?_
      rintro e w5 ⟨v, rfl, ho, hb⟩
      obtain ⟨va, vc, rfl⟩ := own_len ho
      have A5 := WL.lo A2 hb
      have S5 := Lib.hid (own_ballsAt ho)
      clear hb ho A2

      go_wp2_with fail
      refine (SHB.out va vc w5 S5.out).mono ?_
      rintro e w6 ⟨rfl, hb⟩
      have A6 := WL.lo A5 hb
      clear hb A5 S5
      obtain ⟨k0, k1, k2, k3⟩ := WL.at A6
      go_wp2_with fail
      refine (FLT.out w6 (HS.out.1.lo A6.out.bl)).mono ?_
      rintro e w9 ⟨rfl, hb⟩
      have A9 := WL.lo A6 hb
      clear hb A6 k0 k1 k2 k3
      go_wp2_with fail
      refine (WAK.out _ (HT.out.below A9.out.bl HT.out.pos)).mono ?_
      rintro e wC ⟨rfl, hb⟩
      have BF := Lib.hid (A9.out.bl.trans (hb.mono A9.out.bl.size))
      clear hb
      go_wp2_with fail
      go_ret
      exact ⟨rfl, BF.out⟩
  · have hgt : (45 : Int) < (bs.length : Int) := by omega
    unfold Lw.val
    go_enter Tryd.func6, Tryd.ntmps6
    go_wp2_with fail
    have A1 := WL.start w l
    generalize World.alloc w _ = w1 at A1 ⊢
    go_wp2_with fail
    refine (WAK.out _ (HT.out.below A1.out.bl HT.out.pos)).mono ?_
    rintro e w2 ⟨rfl, hb⟩
    have BF := Lib.hid (A1.out.bl.trans (hb.mono A1.out.bl.size))
    clear hb
    go_wp2_with fail
    go_ret
    exact ⟨rfl, BF.out⟩

end Go.Proofs.YtmjbidnlknmcgaaDoor

namespace Go.Proofs.YtmjbidnlknmcgaaDoor
open Go.ChangeShapes Go.WideShapes Go.ChangeAt Go.WideMaps Go.WideElems Go.RowKit Go.Joins

set_option maxRecDepth 100000 in
theorem frameShows_lifted (os : Os) (started : os.Started) (H : Type) (enc : TypeId × Value → H) :
    ReturnsInHanded {} Tryd.checked os 6 .any (fun w args => (Rows.frameShowsSpec.pre enc Tryd.prog Tryd.f6 [] false w args ∧ laidMetH Tryd.prog laidL w) ∧ sizedMet enc Tryd.prog Tryd.f6 (OpenSpec.ofChange Rows.frameShowsSpec) false w args)
      (Rows.frameShowsSpec.post enc Tryd.prog Tryd.f6 false true false false) := by
  refine returnsInHanded_of_change_and (C := Tryd.checked) (X := fun w _ => laidMetH Tryd.prog laidL w) (fun _ _ _ hh h => h.of_heap hh) own started (by kernel_rfl) Tryd.func6
    (ChangeSpec.witness_shaped (enc := enc) (C := Tryd.checked) (os := os) (X := fun w _ => laidMetH Tryd.prog laidL w) false (World.doorLaid Tryd.prog 400 os) #[.agg #[.int .i64 0, .int .i64 0, .int .i64 0, .int .i64 0], .slice none 0 0, .int .i64 0] 8 rfl (World.shaped_of_RefB (by kernel_rfl) (by kernel_rfl)) (by kernel_rfl) (by kernel_rfl) (by kernel_rfl) (door_met os _)) ?_
  intro W base args ds gs before hval0 hW _ _ hL _
  have hval : ∀ (j : Nat) t v, Tryd.f6.params[j]? = some t → args[j]? = some v → Value.okWide Tryd.prog W .any base t v := hval0
  have hW' := hW
  obtain ⟨p, q, hA0, hV, rfl, hfz, hnd⟩ := hW
  have hA : DataW.TrodAll enc Tryd.prog W 0 (fun _ => true) true Tryd.f6.params.toList args.toList ds p := hA0
  rw [Tryd.params6] at hA hval
  obtain ⟨v0, v1, v2, d0, d1, d2, p0, p1, p2, rfl, rfl, rfl, h0, h1, h2⟩ := trodAll_three hA
  obtain ⟨rfl, rfl⟩ := trodVars_none hV
  have hT := tab_of_laid hL
  obtain ⟨l, rfl⟩ := law_open (hval 0 23 v0 rfl rfl) h0
  obtain ⟨a, c, bs, rfl, hS, hcap⟩ := sheet_open2 (hval 1 24 v1 rfl rfl) h1
  obtain ⟨m, rfl, rfl, rfl, hm⟩ := open_int Tryd.underlying3 (hval 2 3 v2 rfl rfl) h2
  have hlt : ∀ x ∈ (p0 ++ p1 ++ []) ++ [], x.block < W.heap.size := fun x hx => by simpa using hW'.lt x hx
  refine (shows_any l bs a c m W hS hcap hT).mono fun e W' ⟨he, hB⟩ => ?_
  subst he
  have e1 : Rows.frameShowsSpec.fn H ([d0, d1, .lit (.int .i64 m)] ++ []) = { results := [.lit (.bool true)], args := [d0, d1, .lit (.int .i64 m)] } := by simp [Rows.frameShowsSpec]
  refine ⟨_, rfl, _, _, _, [], p0 ++ (p1 ++ []), [], by simpa using hW', ?_, ?_, ?_, hB.frame _, fun h => by cases h⟩
  · rw [e1]; exact trodAll_mk1 (shut_bool Tryd.underlying4 true)
  · rw [e1]
    exact trodAll_mk3 (Below.trod laidOut (by kernel_rfl) (of_decide_eq_true (by kernel_rfl)) h0 hB (fun x hx => hlt x (by simp [hx]))) (Below.trod laidOut (by kernel_rfl) (of_decide_eq_true (by kernel_rfl)) h1 hB (fun x hx => hlt x (by simp [hx]))) (shut_int (by kernel_rfl) hm)
  · rw [e1]; rfl

theorem frameShows_holds : Rows.FrameShowsSaid :=
  OpenClaim.holds_of_wide 6 Tryd.f6 rfl rfl rfl rfl rfl rfl rfl ⟨rfl, rfl, rfl, rfl, rfl⟩ rfl rfl rfl rfl rfl (by kernel_rfl) Tryd.func6 (by kernel_rfl)
    (of_decide_eq_true (by kernel_rfl)) (by unfold Func.isWrapper; first | (rw [if_pos (by decide +kernel)]; kernel_rfl) | (rw [if_neg (by decide +kernel)]; exact ⟨rfl, rfl⟩))
    (fun os started H enc _ => frameShows_lifted os started H enc)

/-- The tied card. -/
theorem frameShows_card : Rows.FrameShowsCardSaid :=
  Claim7.holds_tied_plain_at .later [] [.data] true (true, "a66f936dd313ec0b3b774961a9c7f266eda39370b23c596a123bc58e6b1306a4") false
    frameShows_holds (fun _ h => by cases h) (by kernel_rfl) (fun _ h => by cases h) frameShows_row_tie rfl ⟨rfl, rfl⟩ (by kernel_rfl) rfl
    (fun f fn hf hfn => by
      obtain rfl : f = 6 := Option.some.inj ((show Tryd.prog.funcNamed "kingpin/kingpinlaw01.FrameShows" = some 6 by kernel_rfl).symm.trans hf) |>.symm
      obtain rfl : fn = Tryd.f6 := (Option.some.inj (Tryd.func6.symm.trans hfn)).symm
      exact ⟨by kernel_rfl, fun j t ht => by
        rw [Tryd.params6] at ht
        have hm : t ∈ [23, 24, 3] := by simpa using Array.mem_of_getElem? ht
        have hall : ([23, 24, 3].all fun u => !Tryd.prog.wantsStandIn u) = true := by kernel_rfl
        exact (show Tryd.prog.wantsStandIn t = false by simpa using List.all_eq_true.1 hall t hm)⟩)
    (by kernel_rfl)
#print axioms frameShows_card

end Go.Proofs.YtmjbidnlknmcgaaDoor
