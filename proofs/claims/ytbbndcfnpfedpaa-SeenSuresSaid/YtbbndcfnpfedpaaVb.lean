/- The contract of the reference's Fits. -/
import Derived.Test.YtbbndcfnpfedpaaVa
set_option linter.unusedVariables false
set_option linter.unusedSimpArgs false
namespace Go.Proofs.Ytbbndcfnpfedpaa
open Go.RowKit Go.Shelf

attribute [local go_sem] Oper.semAt_some

def fitR (ts : List Int) (G : List (List Int)) (x : Wd) : Bool := hasI ts x.te || inB (behN (G.getD x.fr.toNat []) x.ba.toNat) x.le x.mo
def fitsR (ws : List Wd) (ts : List Int) (G : List (List Int)) : Bool := ws.all (fitR ts G)
theorem fitR_out {ts : List Int} {G : List (List Int)} {x : Wd} (h : hasI ts x.te = true) : fitR ts G x = true := by unfold fitR; rw [h]; rfl
theorem fitR_in {ts : List Int} {G : List (List Int)} {x : Wd} (h : hasI ts x.te = false) {f b : Nat} (hf : x.fr = (f : Int)) (hb : x.ba = (b : Int)) {row : List Int} (hr : G[f]? = some row) : fitR ts G x = inB (behN row b) x.le x.mo := by
  unfold fitR
  rw [h, hf, hb]
  simp [List.getD_eq_getElem?_getD, hr]

set_option maxRecDepth 100000 in
set_option maxHeartbeats 8000000 in
theorem fits_ref (l : Lan) (ts : List Int) (G : List (List Int)) (ta ga : Option Addr) (tc gc : Nat) (w : World) (hL : WdsAt w l.wa l.ws) (hX : IntsAt w ta ts) (hG : GAt w ga G) (hn : l.ws.length ≤ 1000) (hm : ts.length ≤ 1000) (hg : G.length ≤ 1000)
    (hw : ∀ x ∈ l.ws, ∃ f b : Nat, x.fr = (f : Int) ∧ x.ba = (b : Int) ∧ b ≤ 1 ∧ f < G.length) (hr : ∀ row ∈ G, row.length ≤ 1000 ∧ ∀ x ∈ row, 0 ≤ x ∧ x ≤ 10) :
    Calls Try.prog 38 #[l.val, .slice ta ts.length tc, .slice ga G.length gc] w fun e w' => e = .returned (.bool (fitsR l.ws ts G)) ∧ Below w.heap.size w w' := by
  have HL := Lib.hid hL
  have HW := Lib.hid hw
  have HRS := Lib.hid hr
  have HSC := Lib.hid (fun (t : Int) W (hb : Below w.heap.size w W) => refHas_any ts t ta tc W (hX.lo hb) hm)
  have BHC := Lib.hid (fun (f b : Nat) (row : List Int) W (hb : Below w.heap.size w W) (h1 : G[f]? = some row) (h2 : b ≤ 1) => behind_ref G row f b ga gc W (hG.lo hb) h1 (hr row (List.mem_of_getElem? h1)).2 h2 (hr row (List.mem_of_getElem? h1)).1 hg)
  have INC := Lib.hid (fun n a b W => refIn_any n a b W)
  have X := Lib.hid (BX.mk' l w)
  obtain ⟨R, hR⟩ : ∃ R, Hid (R = fitsR l.ws ts G) := ⟨_, Lib.hid rfl⟩
  rw [← hR.out]
  have HNO : Hid (∀ x ∈ l.ws, fitR ts G x = false → R = false) := Lib.hid fun x hx h => by rw [hR.out]; exact List.all_eq_false.2 ⟨x, hx, by simp [h]⟩
  have HYES : Hid ((∀ x ∈ l.ws, fitR ts G x = true) → R = true) := Lib.hid fun h => by rw [hR.out]; exact List.all_eq_true.2 h
  unfold Lan.val
  clear hL hX hG hm hg hw hr
  go_enter Try.func38, Try.ntmps38
  go_wp2_with fail
  generalize w.alloc _ = W0 at X ⊢
  go_loopg [7] l.ws.length (fun g' s7 wx => ∃ i : Nat, i ≤ l.ws.length ∧ g' = l.ws.length - i ∧ s7 = .int .i64 (i : Int) ∧ Hid (∀ x ∈ l.ws.take i, fitR ts G x = true) ∧ Hid (BX l w wx))
  case atStart => exact ⟨0, by omega, by omega, rfl, Lib.hid (by simp), X⟩
  case round =>
    obtain ⟨i, hi, rfl, rfl, hA, hX⟩ := hrel
    clear X
    have k1 := hX.out.b.cell 1 (show _ = some (Value.slice l.wa l.ws.length l.wc) from rfl)
    by_cases hlt : i < l.ws.length
    · have hz0 : (0 : Int) ≤ (i : Int) := by omega
      have hz1 : (i : Int) < (l.ws.length : Int) := by omega
      obtain ⟨x, hx⟩ : ∃ x, l.ws[i]? = some x := ⟨l.ws[i]'hlt, List.getElem?_eq_getElem _⟩
      obtain ⟨g, o, hla, q1, q2, q3, q4, q5⟩ := HL.out _ _ hx
      rw [hla] at k1
      have c1 := cell_lo hX.out.bl q1
      have c2 := cell_lo hX.out.bl q2
      have c3 := cell_lo hX.out.bl q3
      have c4 := cell_lo hX.out.bl q4
      have c5 := cell_lo hX.out.bl q5
      have e2 : IntKind.i64.wrap ((i : Int) + 1) = (i : Int) + 1 := IntWalk.i64_in _ (by omega)
      have E2 := Lib.hid e2
      have HI := Lib.hid hlt
      have hmem := List.mem_of_getElem? hx
      obtain ⟨f, b, hf, hb, hb1, hfl⟩ := HW.out x hmem
      obtain ⟨row, hrow⟩ : ∃ row, G[f]? = some row := ⟨G[f]'hfl, List.getElem?_eq_getElem _⟩
      have HFN := Lib.hid (HNO.out x hmem)
      have HFI : Hid (fitR ts G x = true → ∀ y ∈ l.ws.take (i + 1), fitR ts G y = true) := Lib.hid fun h y hy => by
        rw [take_next hx] at hy
        rcases List.mem_append.1 hy with h' | h'
        · exact hA.out y h'
        · obtain rfl : y = x := by simpa using h'
          exact h
      have FO := Lib.hid (fun h => fitR_out (G := G) (x := x) (ts := ts) h)
      have FI := Lib.hid (fun h => fitR_in (x := x) (ts := ts) h hf hb hrow)
      obtain ⟨xf, xb, te, le, mo⟩ := x
      simp only at c1 c2 c3 c4 c5 hf hb FO FI
      subst hf
      subst hb
      have B3 := Lib.hid (below_al2 hX.out.bl (.cells #[.int .i64 (f : Int), .int .i64 (b : Int), .int .i64 te, .int .i64 le, .int .i64 mo] 81))
      have X3 := Lib.hid (hX.out.lo (below_al wr (.cells #[.int .i64 (f : Int), .int .i64 (b : Int), .int .i64 te, .int .i64 le, .int .i64 mo] 81)))
      have K3 := Lib.hid (Blk.new wr #[.int .i64 (f : Int), .int .i64 (b : Int), .int .i64 te, .int .i64 le, .int .i64 mo] 81)
      have HS3 := Lib.hid (fun W (hb : Below w.heap.size w W) => HSC.out te W hb)
      have BH3 := Lib.hid (fun W (hb : Below w.heap.size w W) => BHC.out f b row W hb hrow hb1)
      clear hx hla q1 q2 q3 q4 q5 hmem hrow hi hlt e2 hX hb1 hfl
      generalize fitR ts G ⟨(f : Int), (b : Int), te, le, mo⟩ = FT at *
      generalize hasI ts te = HS at *
      cases HS
      · have hft := FI.out (by first | rfl | trivial)
        have IN3 := Lib.hid (fun W => INC.out (behN row b) le mo W)
        rw [← hft] at IN3
        generalize behN row b = n at *
        clear hft FO FI
        go_wp2_with fail
        clear c1 c2 c3 c4 c5 k1
        generalize wr.alloc _ = wr2 at B3 X3 K3 ⊢
        generalize wr.heap.size = XB at K3 ⊢
        have m1 := fun u : Late wr2 => u.cell (K3.out.cell 0 (show _ = some (Value.int .i64 (f : Int)) from rfl)) K3.out.lt
        have m2 := fun u : Late wr2 => u.cell (K3.out.cell 1 (show _ = some (Value.int .i64 (b : Int)) from rfl)) K3.out.lt
        have m3 := fun u : Late wr2 => u.cell (K3.out.cell 2 (show _ = some (Value.int .i64 te) from rfl)) K3.out.lt
        have m4 := fun u : Late wr2 => u.cell (K3.out.cell 3 (show _ = some (Value.int .i64 le) from rfl)) K3.out.lt
        have m5 := fun u : Late wr2 => u.cell (K3.out.cell 4 (show _ = some (Value.int .i64 mo) from rfl)) K3.out.lt
        have HSU := Lib.hid (fun u : Late wr2 => HS3.out u.W (below_go B3.out u.b))
        have BHU := Lib.hid (fun u : Late wr2 => BH3.out u.W (below_go B3.out u.b))
        cases FT
        · have hR2 := HFN.out (by first | rfl | trivial)
          have HR2 := Lib.hid hR2
          clear hR2
          refine wp_region_late wr2 (Below.refl _ _) (by kernel_rfl) (by kernel_rfl) ?_
          repeat (go_big_quiet_step ((first | (go_at_call 50; exact Calls.late (HSU.out _)) | (go_at_call 47; exact Calls.late (BHU.out _)) | (go_at_call 66; exact Calls.late_same (IN3.out _)))))
          refine wpQuiet_nil ?_
          intro _ hw'
          obtain ⟨uq, hw''⟩ := hw'
          subst hw''
          have BU := Lib.hid (below_go B3.out uq.b)
          clear m1 m2 m3 m4 m5
          go_wp2_with fail
          go_returns
          exact ⟨by rw [HR2.out]; first | done | rfl, BU.out⟩
        · have HA2 := Lib.hid (HFI.out (by first | rfl | trivial))
          refine wp_region_late wr2 (Below.refl _ _) (by kernel_rfl) (by kernel_rfl) ?_
          repeat (go_big_quiet_step ((first | (go_at_call 50; exact Calls.late (HSU.out _)) | (go_at_call 47; exact Calls.late (BHU.out _)) | (go_at_call 66; exact Calls.late_same (IN3.out _)))))
          refine wpQuiet_nil ?_
          intro _ hw'
          obtain ⟨uq, hw''⟩ := hw'
          subst hw''
          have XU := Lib.hid (X3.out.lo uq.b)
          clear m1 m2 m3 m4 m5
          have e2 := E2.out
          go_wp2_with fail
          go_roundg (l.ws.length - (i + 1))
          case measure => have := HI.out; omega
          case rel => exact ⟨i + 1, by have := HI.out; omega, rfl, by simp, HA2, XU⟩
      · have hft := FO.out (by first | rfl | trivial)
        have HA2 := Lib.hid (HFI.out hft)
        clear hft FO FI
        go_wp2_with fail
        clear c1 c2 c3 c4 c5 k1
        generalize wr.alloc _ = wr2 at B3 X3 K3 ⊢
        generalize wr.heap.size = XB at K3 ⊢
        have m3 := fun u : Late wr2 => u.cell (K3.out.cell 2 (show _ = some (Value.int .i64 te) from rfl)) K3.out.lt
        have HSU := Lib.hid (fun u : Late wr2 => HS3.out u.W (below_go B3.out u.b))
        refine wp_region_late wr2 (Below.refl _ _) (by kernel_rfl) (by kernel_rfl) ?_
        repeat (go_big_quiet_step ((first | (go_at_call 50; exact Calls.late (HSU.out _)))))
        refine wpQuiet_nil ?_
        intro _ hw'
        obtain ⟨uq, hw''⟩ := hw'
        subst hw''
        have XU := Lib.hid (X3.out.lo uq.b)
        clear m3
        have e2 := E2.out
        go_wp2_with fail
        go_roundg (l.ws.length - (i + 1))
        case measure => have := HI.out; omega
        case rel => exact ⟨i + 1, by have := HI.out; omega, rfl, by simp, HA2, XU⟩
    · have hz1 : ¬ (i : Int) < (l.ws.length : Int) := by omega
      have HE := Lib.hid (HYES.out (by have := hA.out; rw [List.take_of_length_le (by omega)] at this; exact this))
      clear hlt hi hA
      go_wp2_with fail
      go_returns
      exact ⟨by rw [HE.out]; first | done | rfl, hX.out.bl⟩

end Go.Proofs.Ytbbndcfnpfedpaa
