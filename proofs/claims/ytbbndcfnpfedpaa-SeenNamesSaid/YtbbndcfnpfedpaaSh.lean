/- The contract of fits. -/
import Derived.Test.YtbbndcfnpfedpaaGb
set_option linter.unusedVariables false
set_option linter.unusedSimpArgs false
namespace Go.Proofs.Ytbbndcfnpfedpaa
open Go.RowKit

attribute [local go_sem] Oper.semAt_some

theorem idx0 (w : World) : Sem.run Try.prog (Instr.index 133 (.agg #[.int .i64 0, .func (.func 88) #[] #[], .int .i64 1, .func (.func 89) #[] #[]]) (.int .i64 0)) w = .ok (.agg #[.int .i64 0, .func (.func 88) #[] #[]]) w := by kernel_rfl
theorem idx1 (w : World) : Sem.run Try.prog (Instr.index 133 (.agg #[.int .i64 0, .func (.func 88) #[] #[], .int .i64 1, .func (.func 89) #[] #[]]) (.int .i64 1)) w = .ok (.agg #[.int .i64 1, .func (.func 89) #[] #[]]) w := by kernel_rfl

/-- What a word says of the ball b of the frame fr, if its teller is not left out, and what it asks. -/
def toldB (s : Int → Bool) (fr b : Int) (x : Wd) : Bool := (x.fr == fr && x.ba == b) && !s x.te
def okW (s : Int → Bool) (fr b z : Int) (x : Wd) : Bool := !(toldB s fr b x) || inB z x.le x.mo
def fitsB (ws : List Wd) (s : Int → Bool) (fr p q : Int) : Bool := ws.all (okW s fr 0 p) && ws.all (okW s fr 1 q)
def lookCells (l : Lan) (s : Int → Bool) (fr : Int) : Array Value := #[.int .i64 l.fs, .slice l.wa l.ws.length l.wc, .bool (s 0), .bool (s 1), .bool (s 2), .bool (s 3), .int .i64 fr]

theorem okW_far {s : Int → Bool} {fr b z : Int} {x : Wd} (h : (x.fr == fr && x.ba == b) = false) : okW s fr b z x = true := by unfold okW toldB; rw [h]; rfl
theorem okW_near {s : Int → Bool} {fr b z : Int} {x : Wd} (h : (x.fr == fr && x.ba == b) = true) (h2 : s x.te = false) : okW s fr b z x = inB z x.le x.mo := by unfold okW toldB; rw [h, h2]; rfl
theorem okW_out {s : Int → Bool} {fr b z : Int} {x : Wd} (h2 : s x.te = true) : okW s fr b z x = true := by unfold okW toldB; rw [h2]; simp

set_option maxRecDepth 100000 in
set_option maxHeartbeats 8000000 in
theorem fits_any (l : Lan) (s : Int → Bool) (fr p q : Int) (w : World) (hL : WdsAt w l.wa l.ws) (hT : ∀ x ∈ l.ws, 0 ≤ x.te ∧ x.te ≤ 3) (hn : l.ws.length ≤ 1000) :
    Calls Try.prog 69 #[.agg (lookCells l s fr), .agg #[.int .i64 p, .int .i64 q]] w fun e w' => e = .returned (.bool (fitsB l.ws s fr p q)) ∧ Below w.heap.size w w' := by
  have HL := Lib.hid hL
  have HT := Lib.hid hT
  have WI := Lib.hid (fun n a b W => within_any n a b W)
  have HR := Lib.hid (show fitsB l.ws s fr p q = (l.ws.all (okW s fr 0 p) && l.ws.all (okW s fr 1 q)) from rfl)
  have K0 := Lib.hid (show Blk ((w.alloc (.cells (lookCells l s fr) 118)).alloc (.cells #[.int .i64 p, .int .i64 q] 105)) w.heap.size (lookCells l s fr) 118 from Blk.alt (p := fun _ => False) (Blk.new w _ _) ((Alt.refl _ _).alloc _) id)
  have R0 := Lib.hid (show Blk ((w.alloc (.cells (lookCells l s fr) 118)).alloc (.cells #[.int .i64 p, .int .i64 q] 105)) (w.heap.size + 1) #[.int .i64 p, .int .i64 q] 105 from by
    have := Blk.new (w.alloc (.cells (lookCells l s fr) 118)) #[.int .i64 p, .int .i64 q] 105
    rwa [World.size_alloc] at this)
  have B0 := Lib.hid (below_al2 (below_al w (.cells (lookCells l s fr) 118)) (.cells #[.int .i64 p, .int .i64 q] 105))
  have BH1 := Lib.hid (fun W => behind1_any p q W)
  have BH2 := Lib.hid (fun W => behind2_any p q W)
  generalize fitsB l.ws s fr p q = RES at *
  obtain ⟨fs, wa, wc, ws⟩ := l
  unfold lookCells at B0 K0 R0 ⊢
  simp only at *
  clear hL hT
  go_enter Try.func69, Try.ntmps69
  go_wp2_with fail
  go_step3
  go_wp2_with fail
  go_step3
  go_wp2_with fail
  refine (balls_any _).mono ?_
  rintro e w1 ⟨rfl, hb⟩
  have B1 := Lib.hid (below_go B0.out hb)
  have K1 := Lib.hid (K0.out.alt (Alt.of_below (p := fun _ => False) hb (fun k hk h => by omega)) id)
  have R1 := Lib.hid (R0.out.alt (Alt.of_below (p := fun _ => False) hb (fun k hk h => by omega)) id)
  clear hb B0 K0 R0
  unfold ballsV
  go_wp2_with fail
  go_loopg [5, 12] 2 (fun g s5 s12 wx => ∃ (b : Nat), b ≤ 2 ∧ g = 2 - b ∧ s12 = .int .i64 (b : Int) ∧ s5 = .bool true ∧ Hid (1 ≤ b → ws.all (okW s fr 0 p) = true) ∧ Hid (2 ≤ b → ws.all (okW s fr 1 q) = true) ∧ Hid (Below w.heap.size w wx) ∧ Hid (Blk wx w.heap.size #[.int .i64 fs, .slice wa ws.length wc, .bool (s 0), .bool (s 1), .bool (s 2), .bool (s 3), .int .i64 fr] 118) ∧ Hid (Blk wx (w.heap.size + 1) #[.int .i64 p, .int .i64 q] 105))
  case atStart => exact ⟨0, by omega, rfl, rfl, rfl, Lib.hid (by omega), Lib.hid (by omega), B1, K1, R1⟩
  case round =>
    obtain ⟨b, hb2, rfl, rfl, rfl, hA0, hA1, hB, hK, hR⟩ := hrel
    clear B1 K1 R1
    obtain rfl | rfl | rfl : b = 0 ∨ b = 1 ∨ b = 2 := by omega
    · have NE := Lib.hid (show wr.heap.size ≠ w.heap.size ∧ wr.heap.size ≠ w.heap.size + 1 from by have := hK.out.lt; have := hR.out.lt; omega)
      have K2 := Lib.hid (Blk.alt (p := fun _ => False) hK.out ((Alt.refl _ _).alloc (.cells #[.int .i64 0, .func (.func 88) #[] #[]] 132)) id)
      have R2 := Lib.hid (Blk.alt (p := fun _ => False) hR.out ((Alt.refl _ _).alloc (.cells #[.int .i64 0, .func (.func 88) #[] #[]] 132)) id)
      have KB := Lib.hid (Blk.new wr #[.int .i64 0, .func (.func 88) #[] #[]] 132)
      have BB := Lib.hid (below_al2 hB.out (.cells #[.int .i64 0, .func (.func 88) #[] #[]] 132))
      have p1 := K2.out.cell 1 (show _ = some (Value.slice wa ws.length wc) from rfl)
      clear hB hK hR
      go_wp2_with fail
      rw [idx0]
      go_wp2_with fail
      generalize wr.alloc _ = W2 at K2 R2 KB BB p1 ⊢
      generalize wr.heap.size = NB at *
      clear p1
      go_loopg [5, 20] ws.length (fun g s5 s20 wx => ∃ (i : Nat), i ≤ ws.length ∧ g = ws.length - i ∧ s20 = .int .i64 (i : Int) ∧ s5 = .bool true ∧ Hid (∀ x ∈ ws.take i, okW s fr 0 p x = true) ∧ Hid (Below w.heap.size w wx) ∧ Hid (Blk wx w.heap.size #[.int .i64 fs, .slice wa ws.length wc, .bool (s 0), .bool (s 1), .bool (s 2), .bool (s 3), .int .i64 fr] 118) ∧ Hid (Blk wx (w.heap.size + 1) #[.int .i64 p, .int .i64 q] 105) ∧ Hid (Blk wx NB #[.int .i64 0, .func (.func 88) #[] #[]] 132))
      case atStart => exact ⟨0, by omega, by omega, rfl, rfl, Lib.hid (by simp), BB, K2, R2, KB⟩
      case round =>
        obtain ⟨i, hi', rfl, rfl, rfl, hP, hB, hK, hR, hN⟩ := hrel
        clear K2 R2 KB BB
        by_cases hlt : i < ws.length
        · have hz0 : (0 : Int) ≤ (i : Int) := by omega
          have hz1 : (i : Int) < (ws.length : Int) := by omega
          obtain ⟨x, hx⟩ : ∃ x, ws[i]? = some x := ⟨ws[i]'hlt, List.getElem?_eq_getElem _⟩
          obtain ⟨g, o, rfl, k1, k2, k3, k4, k5⟩ := HL.out _ _ hx
          have c1 := cell_lo hB.out k1
          have c2 := cell_lo hB.out k2
          have c3 := cell_lo hB.out k3
          have c4 := cell_lo hB.out k4
          have c5 := cell_lo hB.out k5
          have ht0 := (HT.out x (List.mem_of_getElem? hx)).1
          have ht3 := (HT.out x (List.mem_of_getElem? hx)).2
          have ht4 : x.te < 4 := by omega
          have HXI := Lib.hid hx
          have HQ1 : Hid (okW s fr 0 p x = false → RES = false) := Lib.hid fun h => by
            rw [HR.out, show ws.all (okW s fr 0 p) = false from List.all_eq_false.2 ⟨x, List.mem_of_getElem? HXI.out, by simp [h]⟩]; simp
          have HQ0 : Hid (okW s fr 0 p x = true → ∀ x ∈ ws.take (i + 1), okW s fr 0 p x = true) := Lib.hid fun h => by
            rw [take_next HXI.out]
            intro y hy
            rcases List.mem_append.1 hy with h' | h'
            · exact hP.out y h'
            · obtain rfl : y = x := by simpa using h'
              exact h
          have OKF := Lib.hid (@okW_far s fr 0 p x)
          have OKN := Lib.hid (@okW_near s fr 0 p x)
          have OKO := Lib.hid (@okW_out s fr 0 p x)
          obtain ⟨wf, wb, te, le, mo⟩ := x
          simp only at c1 c2 c3 c4 c5 ht0 ht3 ht4 OKF OKN OKO
          generalize okW s fr 0 p ⟨wf, wb, te, le, mo⟩ = OK at *
          have K3 := Lib.hid (Blk.alt (p := fun _ => False) hK.out ((Alt.refl _ _).alloc (.cells #[.int .i64 wf, .int .i64 wb, .int .i64 te, .int .i64 le, .int .i64 mo] 70)) id)
          have R3 := Lib.hid (Blk.alt (p := fun _ => False) hR.out ((Alt.refl _ _).alloc (.cells #[.int .i64 wf, .int .i64 wb, .int .i64 te, .int .i64 le, .int .i64 mo] 70)) id)
          have N3 := Lib.hid (Blk.alt (p := fun _ => False) hN.out ((Alt.refl _ _).alloc (.cells #[.int .i64 wf, .int .i64 wb, .int .i64 te, .int .i64 le, .int .i64 mo] 70)) id)
          have B3 := Lib.hid (below_al2 hB.out (.cells #[.int .i64 wf, .int .i64 wb, .int .i64 te, .int .i64 le, .int .i64 mo] 70))
          have v6 := K3.out.cell 6 (show _ = some (Value.int .i64 fr) from rfl)
          have n0 := N3.out.cell 0 (show _ = some (Value.int .i64 0) from rfl)
          have X3 := Lib.hid (Blk.new wr #[.int .i64 wf, .int .i64 wb, .int .i64 te, .int .i64 le, .int .i64 mo] 70)
          clear hx k1 k2 k3 k4 k5 hP hB hK hR hN
          cases hnear : (wf == fr && wb == 0)
          · have OK1 := Lib.hid (HQ0.out (OKF.out hnear))
            by_cases hf : wf = fr
            · have hwb : ¬ wb = 0 := by
                intro e
                rw [hf, e] at hnear
                simp at hnear
              clear hnear OKF OKN OKO
              subst hf
              go_wp2_with fail
              clear c1 c2 c3 c4 c5 v6 n0
              generalize wr.alloc _ = wr2 at K3 R3 N3 B3 X3 ⊢
              refine wp_region_late wr2 (Below.refl _ _) (by kernel_rfl) (by kernel_rfl) ?_
              repeat (go_big_quiet_step (fail))
              refine wpQuiet_nil ?_
              intro _ hw'
              obtain ⟨uq, hw''⟩ := hw'
              subst hw''
              have BU := Lib.hid (below_go B3.out uq.b)
              have KU := Lib.hid (Blk.alt K3.out (Alt.of_below (p := fun _ => False) uq.b (fun k hk h => by omega)) id)
              have RU := Lib.hid (Blk.alt R3.out (Alt.of_below (p := fun _ => False) uq.b (fun k hk h => by omega)) id)
              have NU := Lib.hid (Blk.alt N3.out (Alt.of_below (p := fun _ => False) uq.b (fun k hk h => by omega)) id)
              go_wp2_with fail
              go_roundg (ws.length - (i + 1))
              case measure => omega
              case rel => exact ⟨i + 1, by omega, rfl, by simp, rfl, OK1, BU, KU, RU, NU⟩
            · clear hnear OKF OKN OKO
              go_wp2_with fail
              clear c1 c2 c3 c4 c5 v6 n0
              generalize wr.alloc _ = wr2 at K3 R3 N3 B3 X3 ⊢
              refine wp_region_late wr2 (Below.refl _ _) (by kernel_rfl) (by kernel_rfl) ?_
              repeat (go_big_quiet_step (fail))
              refine wpQuiet_nil ?_
              intro _ hw'
              obtain ⟨uq, hw''⟩ := hw'
              subst hw''
              have BU := Lib.hid (below_go B3.out uq.b)
              have KU := Lib.hid (Blk.alt K3.out (Alt.of_below (p := fun _ => False) uq.b (fun k hk h => by omega)) id)
              have RU := Lib.hid (Blk.alt R3.out (Alt.of_below (p := fun _ => False) uq.b (fun k hk h => by omega)) id)
              have NU := Lib.hid (Blk.alt N3.out (Alt.of_below (p := fun _ => False) uq.b (fun k hk h => by omega)) id)
              go_wp2_with fail
              go_roundg (ws.length - (i + 1))
              case measure => omega
              case rel => exact ⟨i + 1, by omega, rfl, by simp, rfl, OK1, BU, KU, RU, NU⟩
          · have hn1 : wf = fr := by have := hnear; simp at this; exact this.1
            have hn2 : wb = 0 := by have := hnear; simp at this; exact this.2
            have OKN2 := Lib.hid (OKN.out hnear)
            clear OKF OKN hnear
            subst hn1
            subst hn2
            have vt : (wr.alloc (.cells #[.int .i64 wf, .int .i64 0, .int .i64 te, .int .i64 le, .int .i64 mo] 70)).cell? ⟨w.heap.size, 2 + te.toNat, none⟩ = some (.bool (s te)) := by
              obtain rfl | rfl | rfl | rfl : te = 0 ∨ te = 1 ∨ te = 2 ∨ te = 3 := by omega
              all_goals exact K3.out.cell _ rfl
            generalize s te = ST at *
            cases ST
            · skip
              go_wp2_with fail
              clear c1 c2 c3 c4 c5 v6 n0 vt
              generalize wr.alloc _ = wr2 at K3 R3 N3 B3 X3 ⊢
              generalize wr.heap.size = XB at X3 ⊢
              have WIx := Lib.hid (fun W => WI.out p le mo W)
              have hob := OKN2.out (by first | rfl | trivial)
              rw [← hob] at WIx
              have m1 := fun u : Late wr2 => u.cell (N3.out.cell 1 (show _ = some (Value.func (.func 88) #[] #[]) from rfl)) N3.out.lt
              have m2 := fun u : Late wr2 => u.cell (R3.out.cell 0 (show _ = some (Value.int .i64 p) from rfl)) R3.out.lt
              have m3 := fun u : Late wr2 => u.cell (R3.out.cell 1 (show _ = some (Value.int .i64 q) from rfl)) R3.out.lt
              have m4 := fun u : Late wr2 => u.cell (X3.out.cell 3 (show _ = some (Value.int .i64 le) from rfl)) X3.out.lt
              have m5 := fun u : Late wr2 => u.cell (X3.out.cell 4 (show _ = some (Value.int .i64 mo) from rfl)) X3.out.lt
              clear hob OKN2
              cases OK
              · have HF := Lib.hid (HQ1.out rfl)
                refine wp_region_late wr2 (Below.refl _ _) (by kernel_rfl) (by kernel_rfl) ?_
                repeat (go_big_quiet_step ((first | (go_at_call 88; exact Calls.late (BH1.out _)) | (go_at_call 71; exact Calls.late_same (WIx.out _)))))
                refine wpQuiet_nil ?_
                intro _ hw'
                obtain ⟨uq, hw''⟩ := hw'
                subst hw''
                have BU := Lib.hid (below_go B3.out uq.b)
                have KU := Lib.hid (Blk.alt K3.out (Alt.of_below (p := fun _ => False) uq.b (fun k hk h => by omega)) id)
                have RU := Lib.hid (Blk.alt R3.out (Alt.of_below (p := fun _ => False) uq.b (fun k hk h => by omega)) id)
                have NU := Lib.hid (Blk.alt N3.out (Alt.of_below (p := fun _ => False) uq.b (fun k hk h => by omega)) id)
                clear m1 m2 m3 m4 m5
                go_wp2_with fail
                go_returns
                exact ⟨by rw [HF.out]; first | done | rfl, BU.out⟩
              · have OK1 := Lib.hid (HQ0.out rfl)
                refine wp_region_late wr2 (Below.refl _ _) (by kernel_rfl) (by kernel_rfl) ?_
                repeat (go_big_quiet_step ((first | (go_at_call 88; exact Calls.late (BH1.out _)) | (go_at_call 71; exact Calls.late_same (WIx.out _)))))
                refine wpQuiet_nil ?_
                intro _ hw'
                obtain ⟨uq, hw''⟩ := hw'
                subst hw''
                have BU := Lib.hid (below_go B3.out uq.b)
                have KU := Lib.hid (Blk.alt K3.out (Alt.of_below (p := fun _ => False) uq.b (fun k hk h => by omega)) id)
                have RU := Lib.hid (Blk.alt R3.out (Alt.of_below (p := fun _ => False) uq.b (fun k hk h => by omega)) id)
                have NU := Lib.hid (Blk.alt N3.out (Alt.of_below (p := fun _ => False) uq.b (fun k hk h => by omega)) id)
                clear m1 m2 m3 m4 m5
                go_wp2_with fail
                go_roundg (ws.length - (i + 1))
                case measure => omega
                case rel => exact ⟨i + 1, by omega, rfl, by simp, rfl, OK1, BU, KU, RU, NU⟩
            · skip
              go_wp2_with fail
              clear c1 c2 c3 c4 c5 v6 n0 vt
              generalize wr.alloc _ = wr2 at K3 R3 N3 B3 X3 ⊢
              generalize wr.heap.size = XB at X3 ⊢
              have OK1 := Lib.hid (HQ0.out (OKO.out (by first | rfl | trivial)))
              refine wp_region_late wr2 (Below.refl _ _) (by kernel_rfl) (by kernel_rfl) ?_
              repeat (go_big_quiet_step (fail))
              refine wpQuiet_nil ?_
              intro _ hw'
              obtain ⟨uq, hw''⟩ := hw'
              subst hw''
              have BU := Lib.hid (below_go B3.out uq.b)
              have KU := Lib.hid (Blk.alt K3.out (Alt.of_below (p := fun _ => False) uq.b (fun k hk h => by omega)) id)
              have RU := Lib.hid (Blk.alt R3.out (Alt.of_below (p := fun _ => False) uq.b (fun k hk h => by omega)) id)
              have NU := Lib.hid (Blk.alt N3.out (Alt.of_below (p := fun _ => False) uq.b (fun k hk h => by omega)) id)
              go_wp2_with fail
              go_roundg (ws.length - (i + 1))
              case measure => omega
              case rel => exact ⟨i + 1, by omega, rfl, by simp, rfl, OK1, BU, KU, RU, NU⟩
        · have hz1 : ¬ (i : Int) < (ws.length : Int) := by omega
          have HP : Hid (ws.all (okW s fr 0 p) = true) := Lib.hid (by
            have := hP.out
            rw [List.take_of_length_le (by omega)] at this
            exact List.all_eq_true.2 this)
          clear hP hlt
          go_wp2_with fail
          go_roundg (2 - (0 + 1))
          case measure => omega
          case rel => exact ⟨0 + 1, by omega, rfl, rfl, rfl, Lib.hid (fun _ => HP.out), Lib.hid (by omega), hB, hK, hR⟩
    · have NE := Lib.hid (show wr.heap.size ≠ w.heap.size ∧ wr.heap.size ≠ w.heap.size + 1 from by have := hK.out.lt; have := hR.out.lt; omega)
      have K2 := Lib.hid (Blk.alt (p := fun _ => False) hK.out ((Alt.refl _ _).alloc (.cells #[.int .i64 1, .func (.func 89) #[] #[]] 132)) id)
      have R2 := Lib.hid (Blk.alt (p := fun _ => False) hR.out ((Alt.refl _ _).alloc (.cells #[.int .i64 1, .func (.func 89) #[] #[]] 132)) id)
      have KB := Lib.hid (Blk.new wr #[.int .i64 1, .func (.func 89) #[] #[]] 132)
      have BB := Lib.hid (below_al2 hB.out (.cells #[.int .i64 1, .func (.func 89) #[] #[]] 132))
      have p1 := K2.out.cell 1 (show _ = some (Value.slice wa ws.length wc) from rfl)
      clear hB hK hR
      go_wp2_with fail
      rw [idx1]
      go_wp2_with fail
      generalize wr.alloc _ = W2 at K2 R2 KB BB p1 ⊢
      generalize wr.heap.size = NB at *
      clear p1
      have hA0b : Hid (1 ≤ 1 + 1 → ws.all (okW s fr 0 p) = true) := Lib.hid (fun _ => hA0.out (by omega))
      go_loopg [5, 20] ws.length (fun g s5 s20 wx => ∃ (i : Nat), i ≤ ws.length ∧ g = ws.length - i ∧ s20 = .int .i64 (i : Int) ∧ s5 = .bool true ∧ Hid (∀ x ∈ ws.take i, okW s fr 1 q x = true) ∧ Hid (Below w.heap.size w wx) ∧ Hid (Blk wx w.heap.size #[.int .i64 fs, .slice wa ws.length wc, .bool (s 0), .bool (s 1), .bool (s 2), .bool (s 3), .int .i64 fr] 118) ∧ Hid (Blk wx (w.heap.size + 1) #[.int .i64 p, .int .i64 q] 105) ∧ Hid (Blk wx NB #[.int .i64 1, .func (.func 89) #[] #[]] 132))
      case atStart => exact ⟨0, by omega, by omega, rfl, rfl, Lib.hid (by simp), BB, K2, R2, KB⟩
      case round =>
        obtain ⟨i, hi', rfl, rfl, rfl, hP, hB, hK, hR, hN⟩ := hrel
        clear K2 R2 KB BB
        by_cases hlt : i < ws.length
        · have hz0 : (0 : Int) ≤ (i : Int) := by omega
          have hz1 : (i : Int) < (ws.length : Int) := by omega
          obtain ⟨x, hx⟩ : ∃ x, ws[i]? = some x := ⟨ws[i]'hlt, List.getElem?_eq_getElem _⟩
          obtain ⟨g, o, rfl, k1, k2, k3, k4, k5⟩ := HL.out _ _ hx
          have c1 := cell_lo hB.out k1
          have c2 := cell_lo hB.out k2
          have c3 := cell_lo hB.out k3
          have c4 := cell_lo hB.out k4
          have c5 := cell_lo hB.out k5
          have ht0 := (HT.out x (List.mem_of_getElem? hx)).1
          have ht3 := (HT.out x (List.mem_of_getElem? hx)).2
          have ht4 : x.te < 4 := by omega
          have HXI := Lib.hid hx
          have HQ1 : Hid (okW s fr 1 q x = false → RES = false) := Lib.hid fun h => by
            rw [HR.out, show ws.all (okW s fr 1 q) = false from List.all_eq_false.2 ⟨x, List.mem_of_getElem? HXI.out, by simp [h]⟩]; simp
          have HQ0 : Hid (okW s fr 1 q x = true → ∀ x ∈ ws.take (i + 1), okW s fr 1 q x = true) := Lib.hid fun h => by
            rw [take_next HXI.out]
            intro y hy
            rcases List.mem_append.1 hy with h' | h'
            · exact hP.out y h'
            · obtain rfl : y = x := by simpa using h'
              exact h
          have OKF := Lib.hid (@okW_far s fr 1 q x)
          have OKN := Lib.hid (@okW_near s fr 1 q x)
          have OKO := Lib.hid (@okW_out s fr 1 q x)
          obtain ⟨wf, wb, te, le, mo⟩ := x
          simp only at c1 c2 c3 c4 c5 ht0 ht3 ht4 OKF OKN OKO
          generalize okW s fr 1 q ⟨wf, wb, te, le, mo⟩ = OK at *
          have K3 := Lib.hid (Blk.alt (p := fun _ => False) hK.out ((Alt.refl _ _).alloc (.cells #[.int .i64 wf, .int .i64 wb, .int .i64 te, .int .i64 le, .int .i64 mo] 70)) id)
          have R3 := Lib.hid (Blk.alt (p := fun _ => False) hR.out ((Alt.refl _ _).alloc (.cells #[.int .i64 wf, .int .i64 wb, .int .i64 te, .int .i64 le, .int .i64 mo] 70)) id)
          have N3 := Lib.hid (Blk.alt (p := fun _ => False) hN.out ((Alt.refl _ _).alloc (.cells #[.int .i64 wf, .int .i64 wb, .int .i64 te, .int .i64 le, .int .i64 mo] 70)) id)
          have B3 := Lib.hid (below_al2 hB.out (.cells #[.int .i64 wf, .int .i64 wb, .int .i64 te, .int .i64 le, .int .i64 mo] 70))
          have v6 := K3.out.cell 6 (show _ = some (Value.int .i64 fr) from rfl)
          have n0 := N3.out.cell 0 (show _ = some (Value.int .i64 1) from rfl)
          have X3 := Lib.hid (Blk.new wr #[.int .i64 wf, .int .i64 wb, .int .i64 te, .int .i64 le, .int .i64 mo] 70)
          clear hx k1 k2 k3 k4 k5 hP hB hK hR hN
          cases hnear : (wf == fr && wb == 1)
          · have OK1 := Lib.hid (HQ0.out (OKF.out hnear))
            by_cases hf : wf = fr
            · have hwb : ¬ wb = 1 := by
                intro e
                rw [hf, e] at hnear
                simp at hnear
              clear hnear OKF OKN OKO
              subst hf
              go_wp2_with fail
              clear c1 c2 c3 c4 c5 v6 n0
              generalize wr.alloc _ = wr2 at K3 R3 N3 B3 X3 ⊢
              refine wp_region_late wr2 (Below.refl _ _) (by kernel_rfl) (by kernel_rfl) ?_
              repeat (go_big_quiet_step (fail))
              refine wpQuiet_nil ?_
              intro _ hw'
              obtain ⟨uq, hw''⟩ := hw'
              subst hw''
              have BU := Lib.hid (below_go B3.out uq.b)
              have KU := Lib.hid (Blk.alt K3.out (Alt.of_below (p := fun _ => False) uq.b (fun k hk h => by omega)) id)
              have RU := Lib.hid (Blk.alt R3.out (Alt.of_below (p := fun _ => False) uq.b (fun k hk h => by omega)) id)
              have NU := Lib.hid (Blk.alt N3.out (Alt.of_below (p := fun _ => False) uq.b (fun k hk h => by omega)) id)
              go_wp2_with fail
              go_roundg (ws.length - (i + 1))
              case measure => omega
              case rel => exact ⟨i + 1, by omega, rfl, by simp, rfl, OK1, BU, KU, RU, NU⟩
            · clear hnear OKF OKN OKO
              go_wp2_with fail
              clear c1 c2 c3 c4 c5 v6 n0
              generalize wr.alloc _ = wr2 at K3 R3 N3 B3 X3 ⊢
              refine wp_region_late wr2 (Below.refl _ _) (by kernel_rfl) (by kernel_rfl) ?_
              repeat (go_big_quiet_step (fail))
              refine wpQuiet_nil ?_
              intro _ hw'
              obtain ⟨uq, hw''⟩ := hw'
              subst hw''
              have BU := Lib.hid (below_go B3.out uq.b)
              have KU := Lib.hid (Blk.alt K3.out (Alt.of_below (p := fun _ => False) uq.b (fun k hk h => by omega)) id)
              have RU := Lib.hid (Blk.alt R3.out (Alt.of_below (p := fun _ => False) uq.b (fun k hk h => by omega)) id)
              have NU := Lib.hid (Blk.alt N3.out (Alt.of_below (p := fun _ => False) uq.b (fun k hk h => by omega)) id)
              go_wp2_with fail
              go_roundg (ws.length - (i + 1))
              case measure => omega
              case rel => exact ⟨i + 1, by omega, rfl, by simp, rfl, OK1, BU, KU, RU, NU⟩
          · have hn1 : wf = fr := by have := hnear; simp at this; exact this.1
            have hn2 : wb = 1 := by have := hnear; simp at this; exact this.2
            have OKN2 := Lib.hid (OKN.out hnear)
            clear OKF OKN hnear
            subst hn1
            subst hn2
            have vt : (wr.alloc (.cells #[.int .i64 wf, .int .i64 1, .int .i64 te, .int .i64 le, .int .i64 mo] 70)).cell? ⟨w.heap.size, 2 + te.toNat, none⟩ = some (.bool (s te)) := by
              obtain rfl | rfl | rfl | rfl : te = 0 ∨ te = 1 ∨ te = 2 ∨ te = 3 := by omega
              all_goals exact K3.out.cell _ rfl
            generalize s te = ST at *
            cases ST
            · skip
              go_wp2_with fail
              clear c1 c2 c3 c4 c5 v6 n0 vt
              generalize wr.alloc _ = wr2 at K3 R3 N3 B3 X3 ⊢
              generalize wr.heap.size = XB at X3 ⊢
              have WIx := Lib.hid (fun W => WI.out q le mo W)
              have hob := OKN2.out (by first | rfl | trivial)
              rw [← hob] at WIx
              have m1 := fun u : Late wr2 => u.cell (N3.out.cell 1 (show _ = some (Value.func (.func 89) #[] #[]) from rfl)) N3.out.lt
              have m2 := fun u : Late wr2 => u.cell (R3.out.cell 0 (show _ = some (Value.int .i64 p) from rfl)) R3.out.lt
              have m3 := fun u : Late wr2 => u.cell (R3.out.cell 1 (show _ = some (Value.int .i64 q) from rfl)) R3.out.lt
              have m4 := fun u : Late wr2 => u.cell (X3.out.cell 3 (show _ = some (Value.int .i64 le) from rfl)) X3.out.lt
              have m5 := fun u : Late wr2 => u.cell (X3.out.cell 4 (show _ = some (Value.int .i64 mo) from rfl)) X3.out.lt
              clear hob OKN2
              cases OK
              · have HF := Lib.hid (HQ1.out rfl)
                refine wp_region_late wr2 (Below.refl _ _) (by kernel_rfl) (by kernel_rfl) ?_
                repeat (go_big_quiet_step ((first | (go_at_call 89; exact Calls.late (BH2.out _)) | (go_at_call 71; exact Calls.late_same (WIx.out _)))))
                refine wpQuiet_nil ?_
                intro _ hw'
                obtain ⟨uq, hw''⟩ := hw'
                subst hw''
                have BU := Lib.hid (below_go B3.out uq.b)
                have KU := Lib.hid (Blk.alt K3.out (Alt.of_below (p := fun _ => False) uq.b (fun k hk h => by omega)) id)
                have RU := Lib.hid (Blk.alt R3.out (Alt.of_below (p := fun _ => False) uq.b (fun k hk h => by omega)) id)
                have NU := Lib.hid (Blk.alt N3.out (Alt.of_below (p := fun _ => False) uq.b (fun k hk h => by omega)) id)
                clear m1 m2 m3 m4 m5
                go_wp2_with fail
                go_returns
                exact ⟨by rw [HF.out]; first | done | rfl, BU.out⟩
              · have OK1 := Lib.hid (HQ0.out rfl)
                refine wp_region_late wr2 (Below.refl _ _) (by kernel_rfl) (by kernel_rfl) ?_
                repeat (go_big_quiet_step ((first | (go_at_call 89; exact Calls.late (BH2.out _)) | (go_at_call 71; exact Calls.late_same (WIx.out _)))))
                refine wpQuiet_nil ?_
                intro _ hw'
                obtain ⟨uq, hw''⟩ := hw'
                subst hw''
                have BU := Lib.hid (below_go B3.out uq.b)
                have KU := Lib.hid (Blk.alt K3.out (Alt.of_below (p := fun _ => False) uq.b (fun k hk h => by omega)) id)
                have RU := Lib.hid (Blk.alt R3.out (Alt.of_below (p := fun _ => False) uq.b (fun k hk h => by omega)) id)
                have NU := Lib.hid (Blk.alt N3.out (Alt.of_below (p := fun _ => False) uq.b (fun k hk h => by omega)) id)
                clear m1 m2 m3 m4 m5
                go_wp2_with fail
                go_roundg (ws.length - (i + 1))
                case measure => omega
                case rel => exact ⟨i + 1, by omega, rfl, by simp, rfl, OK1, BU, KU, RU, NU⟩
            · skip
              go_wp2_with fail
              clear c1 c2 c3 c4 c5 v6 n0 vt
              generalize wr.alloc _ = wr2 at K3 R3 N3 B3 X3 ⊢
              generalize wr.heap.size = XB at X3 ⊢
              have OK1 := Lib.hid (HQ0.out (OKO.out (by first | rfl | trivial)))
              refine wp_region_late wr2 (Below.refl _ _) (by kernel_rfl) (by kernel_rfl) ?_
              repeat (go_big_quiet_step (fail))
              refine wpQuiet_nil ?_
              intro _ hw'
              obtain ⟨uq, hw''⟩ := hw'
              subst hw''
              have BU := Lib.hid (below_go B3.out uq.b)
              have KU := Lib.hid (Blk.alt K3.out (Alt.of_below (p := fun _ => False) uq.b (fun k hk h => by omega)) id)
              have RU := Lib.hid (Blk.alt R3.out (Alt.of_below (p := fun _ => False) uq.b (fun k hk h => by omega)) id)
              have NU := Lib.hid (Blk.alt N3.out (Alt.of_below (p := fun _ => False) uq.b (fun k hk h => by omega)) id)
              go_wp2_with fail
              go_roundg (ws.length - (i + 1))
              case measure => omega
              case rel => exact ⟨i + 1, by omega, rfl, by simp, rfl, OK1, BU, KU, RU, NU⟩
        · have hz1 : ¬ (i : Int) < (ws.length : Int) := by omega
          have HP : Hid (ws.all (okW s fr 1 q) = true) := Lib.hid (by
            have := hP.out
            rw [List.take_of_length_le (by omega)] at this
            exact List.all_eq_true.2 this)
          clear hP hlt
          go_wp2_with fail
          go_roundg (2 - (1 + 1))
          case measure => omega
          case rel => exact ⟨1 + 1, by omega, rfl, rfl, rfl, hA0b, Lib.hid (fun _ => HP.out), hB, hK, hR⟩
    · have hr := Lib.hid (show RES = true by rw [HR.out, hA0.out (by omega), hA1.out (by omega)]; rfl)
      clear hA0 hA1
      go_wp2_with fail
      rw [Exit.noGoto_ret]
      show bodyPost Try.prog Try.f69 _ Exit.ret _ _
      go_returns
      exact ⟨by rw [hr.out]; first | done | rfl, hB.out⟩

end Go.Proofs.Ytbbndcfnpfedpaa
