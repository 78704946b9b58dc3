/- The contract of ProveGame. -/
import Derived.Test.YtbbndcfnpfedpaaXf
set_option linter.unusedVariables false
set_option linter.unusedSimpArgs false
namespace Go.Proofs.Ytbbndcfnpfedpaa
open Go.RowKit Go.Shelf

attribute [local go_sem] Oper.semAt_some

def rollB (ws : List Wd) (s : Int → Bool) (fr : Int) (row : List Int) : Bool := (rollV row).2 && fitsB ws s fr (rollV row).1.1 (rollV row).1.2
def provTo (ws : List Wd) (s : Int → Bool) (G : List (List Int)) (i : Nat) : Bool := (List.range i).all fun (f : Nat) => rollB ws s (f : Int) (G.getD f [])
theorem provTo_next {ws : List Wd} {s : Int → Bool} {G : List (List Int)} {i : Nat} {row : List Int} (h : G[i]? = some row) : provTo ws s G (i + 1) = (provTo ws s G i && rollB ws s (i : Int) row) := by
  unfold provTo
  rw [List.range_succ, List.all_append]
  simp [List.getD_eq_getElem?_getD, h]
theorem provTo_no {ws : List Wd} {s : Int → Bool} {G : List (List Int)} {i n : Nat} {row : List Int} (h : G[i]? = some row) (hr : rollB ws s (i : Int) row = false) (hn : i < n) : provTo ws s G n = false := by
  cases e : provTo ws s G n with
  | false => rfl
  | true =>
    unfold provTo at e
    have := List.all_eq_true.1 e i (List.mem_range.2 hn)
    simp [List.getD_eq_getElem?_getD, h, hr] at this
def provB (l : Lan) (ts : List Int) (G : List (List Int)) : Bool := decide (chkE l ts = 0) && decide ((G.length : Int) = l.fs) && provTo l.ws (offS ts) G G.length

set_option maxRecDepth 100000 in
set_option maxHeartbeats 8000000 in
theorem proveGame_any (l : Lan) (ts : List Int) (G : List (List Int)) (ta ga : Option Addr) (tc gc : Nat) (w : World) (hL : WdsAt w l.wa l.ws) (hX : IntsAt w ta ts) (hG : GAt w ga G) (hn : l.ws.length ≤ 1000) (hm : ts.length ≤ 1000) (hg : G.length ≤ 1000) :
    Calls Try.prog 39 #[l.val, .slice ta ts.length tc, .slice ga G.length gc] w fun e w' => e = .returned (.bool (provB l ts G)) ∧ Below w.heap.size w w' := by
  have CK := Lib.hid (fun W (hb : Below w.heap.size w W) => check_any l ts ta tc W (hL.lo hb) (hX.lo hb) hn hm)
  have RO := Lib.hid (fun (row : List Int) a c W (hI : IntsAt W a row) => rolledBy_any row a c W hI)
  have AT := Lib.hid (fun (fr : Int) W => at_any l (offS ts) fr W)
  have FI := Lib.hid (fun (hc : chkE l ts = 0) (fr p q : Int) W (hb : Below w.heap.size w W) => fits_any l (offS ts) fr p q W (hL.lo hb) (fault0 (chkE_zero hc).1).1 hn)
  have HPB : Hid (provB l ts G = (decide (chkE l ts = 0) && decide ((G.length : Int) = l.fs) && provTo l.ws (offS ts) G G.length)) := Lib.hid rfl
  have HCV : Hid (chkV l ts = .agg (if chkE l ts = 0 then wtCells l (offS ts) else wtZero)) := Lib.hid rfl
  have HG := Lib.hid hG
  have HGN := Lib.hid hg
  have PN := Lib.hid (fun i row h => provTo_next (ws := l.ws) (s := offS ts) (G := G) (i := i) (row := row) h)
  have PNO := Lib.hid (fun i row h hr hn => provTo_no (ws := l.ws) (s := offS ts) (G := G) (i := i) (n := G.length) (row := row) h hr hn)
  have P0 := Lib.hid (show provTo l.ws (offS ts) G 0 = true from rfl)
  have HRB : Hid (∀ fr row, rollB l.ws (offS ts) fr row = ((rollV row).2 && fitsB l.ws (offS ts) fr (rollV row).1.1 (rollV row).1.2)) := Lib.hid fun _ _ => rfl
  have B0 := Lib.hid (below_al w (.cells #[.int .i64 l.fs, .slice l.wa l.ws.length l.wc] 32))
  have K0 := Lib.hid (Blk.new w #[.int .i64 l.fs, .slice l.wa l.ws.length l.wc] 32)
  unfold RollR at RO
  rw [HCV.out] at CK
  unfold wtCells at CK AT
  unfold lookCells at AT FI
  generalize provB l ts G = PB at *
  generalize offS ts = S at *
  generalize chkE l ts = E at *
  unfold Lan.val at *
  clear HCV hL hX hG hn hm hg
  obtain ⟨n, hnn⟩ : ∃ n, Hid (n = G.length) := ⟨_, Lib.hid rfl⟩
  rw [← hnn.out] at HPB HGN PNO ⊢
  go_enter Try.func39, Try.ntmps39
  go_wp2_with fail
  generalize w.alloc _ = W0 at K0 B0 ⊢
  have k0 := K0.out.cell 0 (show _ = some (Value.int .i64 l.fs) from rfl)
  have k1 := K0.out.cell 1 (show _ = some (Value.slice l.wa l.ws.length l.wc) from rfl)
  go_wp2_with fail
  refine (CK.out _ B0.out).mono ?_
  rintro e w1 ⟨rfl, hb1⟩
  have B1 := Lib.hid (below_go B0.out hb1)
  have K1 := Lib.hid (Blk.alt (p := fun _ => False) K0.out (Alt.of_below hb1 (fun k hk e => by omega)) id)
  clear hb1 B0 K0 CK k0 k1
  by_cases hE : E = 0
  · subst hE
    have FI2 := Lib.hid (FI.out (by first | rfl | trivial))
    have HPB2 := Lib.hid (show PB = (decide ((n : Int) = l.fs) && provTo l.ws S G n) by rw [HPB.out]; simp)
    rw [if_pos rfl]
    have B2 := Lib.hid (below_go B1.out (below_al w1 (.cells #[.int .i64 l.fs, .slice l.wa l.ws.length l.wc, .bool (S 0), .bool (S 1), .bool (S 2), .bool (S 3)] 90)))
    have K2 := Lib.hid (Blk.new w1 #[.int .i64 l.fs, .slice l.wa l.ws.length l.wc, .bool (S 0), .bool (S 1), .bool (S 2), .bool (S 3)] 90)
    have K3 := Lib.hid (Blk.alt (p := fun _ => False) K1.out (Alt.of_below (below_al w1 (.cells #[.int .i64 l.fs, .slice l.wa l.ws.length l.wc, .bool (S 0), .bool (S 1), .bool (S 2), .bool (S 3)] 90)) (fun k hk e => by omega)) id)
    clear FI HPB B1 K1
    have k0 := K3.out.cell 0 (show _ = some (Value.int .i64 l.fs) from rfl)
    by_cases hF : (n : Int) = l.fs
    · have hF1 : ((n : Int) != l.fs) = false := by simpa using hF
      have HPB3 := Lib.hid (show PB = provTo l.ws S G n by rw [HPB2.out, decide_eq_true hF]; simp)
      clear hF HPB2
      go_wp2_with fail
      generalize World.alloc w1 _ = w2 at B2 K2 K3 k0 ⊢
      generalize w1.heap.size = b7 at K2 ⊢
      clear k0
      go_loopg [30] n (fun g s30 wx => ∃ i : Nat, i ≤ n ∧ g = n - i ∧ s30 = .int .i64 (i : Int) ∧ Hid (provTo l.ws S G i = true) ∧ Hid (Blk wx b7 #[.int .i64 l.fs, .slice l.wa l.ws.length l.wc, .bool (S 0), .bool (S 1), .bool (S 2), .bool (S 3)] 90) ∧ Hid (Below w.heap.size w wx))
      case atStart => exact ⟨0, by omega, by omega, rfl, P0, K2, B2⟩
      case round =>
        obtain ⟨i, hi, rfl, rfl, hP, hK, hB⟩ := hrel
        clear K2 B2 K3
        by_cases hlt : i < n
        · have hz1 : (i : Int) < (n : Int) := by omega
          have hz0 : (0 : Int) ≤ (i : Int) := by omega
          have e2 : IntKind.i64.wrap ((i : Int) + 1) = (i : Int) + 1 := IntWalk.i64_in _ (by have := HGN.out; omega)
          have HI := Lib.hid hlt
          have E2 := Lib.hid e2
          obtain ⟨row, hrow⟩ : ∃ row, G[i]? = some row := ⟨G[i]'(by have := hnn.out; omega), List.getElem?_eq_getElem _⟩
          obtain ⟨g, o, a', c', rfl, q1, q2⟩ := HG.out i row hrow
          have q1 := cell_lo hB.out q1
          have R1 := Lib.hid (RO.out row a' c' wr (q2.lo hB.out))
          have HNX := Lib.hid (PN.out i row hrow)
          have HNO := Lib.hid (fun h => PNO.out i row hrow h hlt)
          have HR2 := Lib.hid (HRB.out (i : Int) row)
          generalize rollB l.ws S (i : Int) row = RB at *
          generalize row.length = rn at *
          generalize rollV row = rv at *
          obtain ⟨⟨p, q⟩, b⟩ := rv
          simp only at R1 HR2
          clear hlt hi hrow q2 e2
          go_wp2_with fail
          refine R1.out.mono ?_
          rintro e w3 ⟨rfl, hb3⟩
          have BA := Lib.hid (below_go hb3 (below_al2 (Below.refl w3.heap.size w3) (.cells #[.int .i64 p, .int .i64 q] 105)))
          have B4 := Lib.hid (below_go hB.out BA.out)
          have K4 := Lib.hid (Blk.alt (p := fun _ => False) hK.out (Alt.of_below BA.out (fun k hk e => by omega)) id)
          have R4 := Lib.hid (Blk.new w3 #[.int .i64 p, .int .i64 q] 105)
          clear hb3 BA R1 q1 hB hK
          cases b
          · have HR3 := Lib.hid (show RB = false by rw [HR2.out]; rfl)
            have HN2 := Lib.hid (HNO.out HR3.out)
            go_wp2_with fail
            generalize World.alloc w3 _ = wr2 at B4 K4 R4 ⊢
            refine wp_region_late wr2 (Below.refl _ _) (by kernel_rfl) (by kernel_rfl) ?_
            repeat (go_big_quiet_step (fail))
            refine wpQuiet_nil ?_
            intro _ hw'
            obtain ⟨uq, hw''⟩ := hw'
            subst hw''
            have BU := Lib.hid (below_go B4.out uq.b)
            go_wp2_with fail
            have hq : PB = false := by rw [HPB3.out, HN2.out]
            subst hq
            go_returns
            exact ⟨rfl, BU.out⟩
          · have HR3 := Lib.hid (show RB = fitsB l.ws S (i : Int) p q by rw [HR2.out]; rfl)
            go_wp2_with fail
            generalize World.alloc w3 _ = wr2 at B4 K4 R4 ⊢
            generalize w3.heap.size = b11 at R4 ⊢
            have m0 := fun u : Late wr2 => u.cell (K4.out.cell 0 (show _ = some (Value.int .i64 l.fs) from rfl)) K4.out.lt
            have m1 := fun u : Late wr2 => u.cell (K4.out.cell 1 (show _ = some (Value.slice l.wa l.ws.length l.wc) from rfl)) K4.out.lt
            have m2 := fun u : Late wr2 => u.cell (K4.out.cell 2 (show _ = some (Value.bool (S 0)) from rfl)) K4.out.lt
            have m3 := fun u : Late wr2 => u.cell (K4.out.cell 3 (show _ = some (Value.bool (S 1)) from rfl)) K4.out.lt
            have m4 := fun u : Late wr2 => u.cell (K4.out.cell 4 (show _ = some (Value.bool (S 2)) from rfl)) K4.out.lt
            have m5 := fun u : Late wr2 => u.cell (K4.out.cell 5 (show _ = some (Value.bool (S 3)) from rfl)) K4.out.lt
            have n0 := fun u : Late wr2 => u.cell (R4.out.cell 0 (show _ = some (Value.int .i64 p) from rfl)) R4.out.lt
            have n1 := fun u : Late wr2 => u.cell (R4.out.cell 1 (show _ = some (Value.int .i64 q) from rfl)) R4.out.lt
            have ATU := Lib.hid (fun u : Late wr2 => AT.out (i : Int) u.W)
            have FIU := Lib.hid (fun u : Late wr2 => FI2.out (i : Int) p q u.W (below_go B4.out u.b))
            rw [← HR3.out] at FIU
            refine wp_region_late wr2 (Below.refl _ _) (by kernel_rfl) (by kernel_rfl) ?_
            repeat (go_big_quiet_step ((first | (go_at_call 68; with_reducible exact Calls.late (ATU.out _)) | (go_at_call 69; with_reducible exact Calls.late (FIU.out _)))))
            refine wpQuiet_nil ?_
            intro _ hw'
            obtain ⟨uq, hw''⟩ := hw'
            subst hw''
            have BU := Lib.hid (below_go B4.out uq.b)
            have KU := Lib.hid (Blk.alt (p := fun _ => False) K4.out (Alt.of_below uq.b (fun k hk e => by omega)) id)
            clear m0 m1 m2 m3 m4 m5 n0 n1
            cases RB
            · have HN2 := Lib.hid (HNO.out (by first | rfl | trivial))
              go_wp2_with fail
              have hq : PB = false := by rw [HPB3.out, HN2.out]
              subst hq
              go_returns
              exact ⟨rfl, BU.out⟩
            · have HN2 := Lib.hid (show provTo l.ws S G (i + 1) = true by rw [HNX.out, hP.out]; rfl)
              have e2 := E2.out
              go_wp2_with fail
              go_roundg (n - (i + 1))
              case measure => have := HI.out; omega
              case rel => exact ⟨i + 1, by have := HI.out; omega, rfl, by simp, HN2, KU, BU⟩
        · have hz1 : ¬ (i : Int) < (n : Int) := by omega
          obtain rfl : i = n := by omega
          clear hlt hi
          go_wp2_with fail
          have hq : PB = true := by rw [HPB3.out, hP.out]
          subst hq
          go_returns
          exact ⟨rfl, hB.out⟩
    · have hF1 : ((n : Int) != l.fs) = true := by simpa using hF
      have HPB3 := Lib.hid (show PB = false by rw [HPB2.out, decide_eq_false hF]; rfl)
      clear hF HPB2
      go_wp2_with fail
      have hq : PB = false := by rw [HPB3.out]
      subst hq
      go_returns
      exact ⟨rfl, B2.out⟩
  · have hE2 : (E == 0) = false := by simpa using hE
    have hE3 : (E != 0) = true := by simpa using hE
    have HPB3 := Lib.hid (show PB = false by rw [HPB.out, decide_eq_false hE]; rfl)
    have B2 := Lib.hid (below_go B1.out (below_al w1 (.cells wtZero 90)))
    rw [if_neg hE]
    unfold wtZero at B2 ⊢
    clear hE
    go_wp2_with fail
    have hq : PB = false := by rw [HPB3.out]
    subst hq
    go_returns
    exact ⟨rfl, B2.out⟩

end Go.Proofs.Ytbbndcfnpfedpaa
