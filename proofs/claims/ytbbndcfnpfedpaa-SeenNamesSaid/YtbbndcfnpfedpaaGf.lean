/- The contract of the reference's Behind. The contract of the reference's Fits. The contract of the reference's Frames. -/
import Derived.Test.YtbbndcfnpfedpaaGe
set_option linter.unusedVariables false
set_option linter.unusedSimpArgs false

namespace Go.Proofs.Ytbbndcfnpfedpaa
open Go.RowKit Go.Shelf

attribute [local go_sem] Oper.semAt_some

/-- Rows of numbers lie in a slice. -/
def GAt (w : World) (a : Option Addr) (G : List (List Int)) : Prop := ∀ (i : Nat) (row : List Int), G[i]? = some row → ∃ (g o : Nat) (a' : Option Addr) (c' : Nat), a = some ⟨g, o, none⟩ ∧ w.cell? ⟨g, o + i, none⟩ = some (.slice a' row.length c') ∧ IntsAt w a' row
theorem GAt.lo {w W : World} {a : Option Addr} {G : List (List Int)} (h : GAt w a G) (hb : Below w.heap.size w W) : GAt W a G := fun i row hi => by
  obtain ⟨g, o, a', c', e, h1, h2⟩ := h i row hi
  exact ⟨g, o, a', c', e, cell_lo hb h1, h2.lo hb⟩

/-- How many pins stand behind a ball of a frame. -/
def behN (row : List Int) (b : Nat) : Int := 10 - (row.take (b + 1)).sum
def upTo (row : List Int) (k : Nat) : Int := 10 - (row.take k).sum
theorem upTo_next {row : List Int} {k : Nat} {x : Int} (h : row[k]? = some x) : upTo row (k + 1) = upTo row k - x := by
  unfold upTo; rw [take_next h, List.sum_append]; simp; omega
theorem upTo_in {row : List Int} (h : ∀ x ∈ row, 0 ≤ x ∧ x ≤ 10) : ∀ k : Nat, -(10 * (k : Int)) ≤ upTo row k ∧ upTo row k ≤ 10
  | 0 => by unfold upTo; simp
  | k + 1 => by
    have ih := upTo_in h k
    by_cases hk : k < row.length
    · have hx : row[k]? = some (row[k]'hk) := List.getElem?_eq_getElem _
      have hm := h _ (List.mem_of_getElem? hx)
      rw [upTo_next hx]
      omega
    · have e : upTo row (k + 1) = upTo row k := by unfold upTo; rw [List.take_of_length_le (by omega), List.take_of_length_le (by omega)]
      rw [e]; omega

set_option maxRecDepth 100000 in
set_option maxHeartbeats 4000000 in
theorem behind_ref (G : List (List Int)) (row : List Int) (f b : Nat) (a : Option Addr) (c : Nat) (w : World) (hG : GAt w a G) (hf : G[f]? = some row) (hr : ∀ x ∈ row, 0 ≤ x ∧ x ≤ 10) (hb : b ≤ 1) (hl : row.length ≤ 1000) (hL : G.length ≤ 1000) :
    Calls Try.prog 47 #[.slice a G.length c, .int .i64 (f : Int), .int .i64 (b : Int)] w fun e w' => e = .returned (.int .i64 (behN row b)) ∧ Below w.heap.size w w' := by
  obtain ⟨g, o, a', c', rfl, k1, hI⟩ := hG f row hf
  have HI := Lib.hid hI
  have HR := Lib.hid hr
  have HBE : Hid (behN row b = upTo row (b + 1)) := Lib.hid rfl
  have hz0 : (0 : Int) ≤ (f : Int) := by omega
  have hz1 : (f : Int) < (G.length : Int) := by have := (List.getElem?_eq_some_iff.1 hf).1; omega
  have B0 := Lib.hid (Below.refl w.heap.size w)
  have HUP := Lib.hid (fun k => upTo_in hr k)
  have U0 := Lib.hid (show upTo row 0 = 10 by unfold upTo; simp)
  rw [HBE.out]
  clear hG hf hI hr
  go_enter Try.func47, Try.ntmps47
  go_wp2_with fail
  go_loopg [7, 8] (b + 2) (fun g' s7 s8 wx => ∃ k : Nat, k ≤ b + 1 ∧ k ≤ row.length ∧ g' = b + 2 - k ∧ s8 = .int .i64 (k : Int) ∧ s7 = .int .i64 (upTo row k) ∧ wx = w)
  case atStart => exact ⟨0, by omega, by omega, by omega, rfl, by rw [U0.out], rfl⟩
  case round =>
    obtain ⟨k, hk, hkl, rfl, rfl, rfl, rfl⟩ := hrel
    by_cases h1 : k ≤ b
    · have hz2 : (k : Int) ≤ (b : Int) := by omega
      by_cases h2 : k < row.length
      · have hz3 : (k : Int) < (row.length : Int) := by omega
        have hz4 : (0 : Int) ≤ (k : Int) := by omega
        obtain ⟨x, hx⟩ : ∃ x, row[k]? = some x := ⟨row[k]'h2, List.getElem?_eq_getElem _⟩
        obtain ⟨g2, o2, ha2, q1⟩ := HI.out k x hx
        rw [ha2] at k1
        have hm := HR.out x (List.mem_of_getElem? hx)
        have hu := HUP.out k
        have e1 : IntKind.i64.wrap (upTo row k - x) = upTo row k - x := IntWalk.i64_in _ (by omega)
        have e2 : IntKind.i64.wrap ((k : Int) + 1) = (k : Int) + 1 := IntWalk.i64_in _ (by omega)
        have HN := Lib.hid (upTo_next hx)
        clear hx hm hu ha2
        go_wp2_with fail
        go_roundg (b + 2 - (k + 1))
        case measure => omega
        case rel => exact ⟨k + 1, by omega, by omega, rfl, by simp, by rw [HN.out], rfl⟩
      · have hz3 : ¬ (k : Int) < (row.length : Int) := by omega
        have HE := Lib.hid (show upTo row k = upTo row (b + 1) by unfold upTo; rw [List.take_of_length_le (by omega), List.take_of_length_le (by omega)])
        clear h2
        go_wp2_with fail
        go_returns
        exact ⟨by rw [HE.out]; first | done | rfl, B0.out⟩
    · have hz2 : ¬ (k : Int) ≤ (b : Int) := by omega
      have HE := Lib.hid (show upTo row k = upTo row (b + 1) by rw [show k = b + 1 by omega])
      clear h1
      go_wp2_with fail
      go_returns
      exact ⟨by rw [HE.out]; first | done | rfl, B0.out⟩

end Go.Proofs.Ytbbndcfnpfedpaa

namespace Go.Proofs.Ytbbndcfnpfedpaa
open Go.RowKit Go.Shelf

attribute [local go_sem] Oper.semAt_some

def fitR (ts : List Int) (G : List (List Int)) (x : Wd) : Bool := hasI ts x.te || inB (behN (G.getD x.fr.toNat []) x.ba.toNat) x.le x.mo
def fitsR (ws : List Wd) (ts : List Int) (G : List (List Int)) : Bool := ws.all (fitR ts G)
theorem fitR_out {ts : List Int} {G : List (List Int)} {x : Wd} (h : hasI ts x.te = true) : fitR ts G x = true := by unfold fitR; rw [h]; rfl
theorem fitR_in {ts : List Int} {G : List (List Int)} {x : Wd} (h : hasI ts x.te = false) {f b : Nat} (hf : x.fr = (f : Int)) (hb : x.ba = (b : Int)) {row : List Int} (hr : G[f]? = some row) : fitR ts G x = inB (behN row b) x.le x.mo := by
  unfold fitR
  rw [h, hf, hb]
  simp [List.getD_eq_getElem?_getD, hr]

set_option maxRecDepth 100000 in
set_option maxHeartbeats 8000000 in
theorem fits_ref (l : Lan) (ts : List Int) (G : List (List Int)) (ta ga : Option Addr) (tc gc : Nat) (w : World) (hL : WdsAt w l.wa l.ws) (hX : IntsAt w ta ts) (hG : GAt w ga G) (hn : l.ws.length ≤ 1000) (hm : ts.length ≤ 1000) (hg : G.length ≤ 1000)
    (hw : ∀ x ∈ l.ws, ∃ f b : Nat, x.fr = (f : Int) ∧ x.ba = (b : Int) ∧ b ≤ 1 ∧ f < G.length) (hr : ∀ row ∈ G, row.length ≤ 1000 ∧ ∀ x ∈ row, 0 ≤ x ∧ x ≤ 10) :
    Calls Try.prog 38 #[l.val, .slice ta ts.length tc, .slice ga G.length gc] w fun e w' => e = .returned (.bool (fitsR l.ws ts G)) ∧ Below w.heap.size w w' := by
  have HL := Lib.hid hL
  have HW := Lib.hid hw
  have HRS := Lib.hid hr
  have HSC := Lib.hid (fun (t : Int) W (hb : Below w.heap.size w W) => refHas_any ts t ta tc W (hX.lo hb) hm)
  have BHC := Lib.hid (fun (f b : Nat) (row : List Int) W (hb : Below w.heap.size w W) (h1 : G[f]? = some row) (h2 : b ≤ 1) => behind_ref G row f b ga gc W (hG.lo hb) h1 (hr row (List.mem_of_getElem? h1)).2 h2 (hr row (List.mem_of_getElem? h1)).1 hg)
  have INC := Lib.hid (fun n a b W => refIn_any n a b W)
  have X := Lib.hid (BX.mk' l w)
  obtain ⟨R, hR⟩ : ∃ R, Hid (R = fitsR l.ws ts G) := ⟨_, Lib.hid rfl⟩
  rw [← hR.out]
  have HNO : Hid (∀ x ∈ l.ws, fitR ts G x = false → R = false) := Lib.hid fun x hx h => by rw [hR.out]; exact List.all_eq_false.2 ⟨x, hx, by simp [h]⟩
  have HYES : Hid ((∀ x ∈ l.ws, fitR ts G x = true) → R = true) := Lib.hid fun h => by rw [hR.out]; exact List.all_eq_true.2 h
  unfold Lan.val
  clear hL hX hG hm hg hw hr
  go_enter Try.func38, Try.ntmps38
  go_wp2_with fail
  generalize w.alloc _ = W0 at X ⊢
  go_loopg [7] l.ws.length (fun g' s7 wx => ∃ i : Nat, i ≤ l.ws.length ∧ g' = l.ws.length - i ∧ s7 = .int .i64 (i : Int) ∧ Hid (∀ x ∈ l.ws.take i, fitR ts G x = true) ∧ Hid (BX l w wx))
  case atStart => exact ⟨0, by omega, by omega, rfl, Lib.hid (by simp), X⟩
  case round =>
    obtain ⟨i, hi, rfl, rfl, hA, hX⟩ := hrel
    clear X
    have k1 := hX.out.b.cell 1 (show _ = some (Value.slice l.wa l.ws.length l.wc) from rfl)
    by_cases hlt : i < l.ws.length
    · have hz0 : (0 : Int) ≤ (i : Int) := by omega
      have hz1 : (i : Int) < (l.ws.length : Int) := by omega
      obtain ⟨x, hx⟩ : ∃ x, l.ws[i]? = some x := ⟨l.ws[i]'hlt, List.getElem?_eq_getElem _⟩
      obtain ⟨g, o, hla, q1, q2, q3, q4, q5⟩ := HL.out _ _ hx
      rw [hla] at k1
      have c1 := cell_lo hX.out.bl q1
      have c2 := cell_lo hX.out.bl q2
      have c3 := cell_lo hX.out.bl q3
      have c4 := cell_lo hX.out.bl q4
      have c5 := cell_lo hX.out.bl q5
      have e2 : IntKind.i64.wrap ((i : Int) + 1) = (i : Int) + 1 := IntWalk.i64_in _ (by omega)
      have E2 := Lib.hid e2
      have HI := Lib.hid hlt
      have hmem := List.mem_of_getElem? hx
      obtain ⟨f, b, hf, hb, hb1, hfl⟩ := HW.out x hmem
      obtain ⟨row, hrow⟩ : ∃ row, G[f]? = some row := ⟨G[f]'hfl, List.getElem?_eq_getElem _⟩
      have HFN := Lib.hid (HNO.out x hmem)
      have HFI : Hid (fitR ts G x = true → ∀ y ∈ l.ws.take (i + 1), fitR ts G y = true) := Lib.hid fun h y hy => by
        rw [take_next hx] at hy
        rcases List.mem_append.1 hy with h' | h'
        · exact hA.out y h'
        · obtain rfl : y = x := by simpa using h'
          exact h
      have FO := Lib.hid (fun h => fitR_out (G := G) (x := x) (ts := ts) h)
      have FI := Lib.hid (fun h => fitR_in (x := x) (ts := ts) h hf hb hrow)
      obtain ⟨xf, xb, te, le, mo⟩ := x
      simp only at c1 c2 c3 c4 c5 hf hb FO FI
      subst hf
      subst hb
      have B3 := Lib.hid (below_al2 hX.out.bl (.cells #[.int .i64 (f : Int), .int .i64 (b : Int), .int .i64 te, .int .i64 le, .int .i64 mo] 81))
      have X3 := Lib.hid (hX.out.lo (below_al wr (.cells #[.int .i64 (f : Int), .int .i64 (b : Int), .int .i64 te, .int .i64 le, .int .i64 mo] 81)))
      have K3 := Lib.hid (Blk.new wr #[.int .i64 (f : Int), .int .i64 (b : Int), .int .i64 te, .int .i64 le, .int .i64 mo] 81)
      have HS3 := Lib.hid (fun W (hb : Below w.heap.size w W) => HSC.out te W hb)
      have BH3 := Lib.hid (fun W (hb : Below w.heap.size w W) => BHC.out f b row W hb hrow hb1)
      clear hx hla q1 q2 q3 q4 q5 hmem hrow hi hlt e2 hX hb1 hfl
      generalize fitR ts G ⟨(f : Int), (b : Int), te, le, mo⟩ = FT at *
      generalize hasI ts te = HS at *
      cases HS
      · have hft := FI.out (by first | rfl | trivial)
        have IN3 := Lib.hid (fun W => INC.out (behN row b) le mo W)
        rw [← hft] at IN3
        generalize behN row b = n at *
        clear hft FO FI
        go_wp2_with fail
        clear c1 c2 c3 c4 c5 k1
        generalize wr.alloc _ = wr2 at B3 X3 K3 ⊢
        generalize wr.heap.size = XB at K3 ⊢
        have m1 := fun u : Late wr2 => u.cell (K3.out.cell 0 (show _ = some (Value.int .i64 (f : Int)) from rfl)) K3.out.lt
        have m2 := fun u : Late wr2 => u.cell (K3.out.cell 1 (show _ = some (Value.int .i64 (b : Int)) from rfl)) K3.out.lt
        have m3 := fun u : Late wr2 => u.cell (K3.out.cell 2 (show _ = some (Value.int .i64 te) from rfl)) K3.out.lt
        have m4 := fun u : Late wr2 => u.cell (K3.out.cell 3 (show _ = some (Value.int .i64 le) from rfl)) K3.out.lt
        have m5 := fun u : Late wr2 => u.cell (K3.out.cell 4 (show _ = some (Value.int .i64 mo) from rfl)) K3.out.lt
        have HSU := Lib.hid (fun u : Late wr2 => HS3.out u.W (below_go B3.out u.b))
        have BHU := Lib.hid (fun u : Late wr2 => BH3.out u.W (below_go B3.out u.b))
        cases FT
        · have hR2 := HFN.out (by first | rfl | trivial)
          have HR2 := Lib.hid hR2
          clear hR2
          refine wp_region_late wr2 (Below.refl _ _) (by kernel_rfl) (by kernel_rfl) ?_
          repeat (go_big_quiet_step ((first | (go_at_call 50; exact Calls.late (HSU.out _)) | (go_at_call 47; exact Calls.late (BHU.out _)) | (go_at_call 66; exact Calls.late_same (IN3.out _)))))
          refine wpQuiet_nil ?_
          intro _ hw'
          obtain ⟨uq, hw''⟩ := hw'
          subst hw''
          have BU := Lib.hid (below_go B3.out uq.b)
          clear m1 m2 m3 m4 m5
          go_wp2_with fail
          go_returns
          exact ⟨by rw [HR2.out]; first | done | rfl, BU.out⟩
        · have HA2 := Lib.hid (HFI.out (by first | rfl | trivial))
          refine wp_region_late wr2 (Below.refl _ _) (by kernel_rfl) (by kernel_rfl) ?_
          repeat (go_big_quiet_step ((first | (go_at_call 50; exact Calls.late (HSU.out _)) | (go_at_call 47; exact Calls.late (BHU.out _)) | (go_at_call 66; exact Calls.late_same (IN3.out _)))))
          refine wpQuiet_nil ?_
          intro _ hw'
          obtain ⟨uq, hw''⟩ := hw'
          subst hw''
          have XU := Lib.hid (X3.out.lo uq.b)
          clear m1 m2 m3 m4 m5
          have e2 := E2.out
          go_wp2_with fail
          go_roundg (l.ws.length - (i + 1))
          case measure => have := HI.out; omega
          case rel => exact ⟨i + 1, by have := HI.out; omega, rfl, by simp, HA2, XU⟩
      · have hft := FO.out (by first | rfl | trivial)
        have HA2 := Lib.hid (HFI.out hft)
        clear hft FO FI
        go_wp2_with fail
        clear c1 c2 c3 c4 c5 k1
        generalize wr.alloc _ = wr2 at B3 X3 K3 ⊢
        generalize wr.heap.size = XB at K3 ⊢
        have m3 := fun u : Late wr2 => u.cell (K3.out.cell 2 (show _ = some (Value.int .i64 te) from rfl)) K3.out.lt
        have HSU := Lib.hid (fun u : Late wr2 => HS3.out u.W (below_go B3.out u.b))
        refine wp_region_late wr2 (Below.refl _ _) (by kernel_rfl) (by kernel_rfl) ?_
        repeat (go_big_quiet_step ((first | (go_at_call 50; exact Calls.late (HSU.out _)))))
        refine wpQuiet_nil ?_
        intro _ hw'
        obtain ⟨uq, hw''⟩ := hw'
        subst hw''
        have XU := Lib.hid (X3.out.lo uq.b)
        clear m3
        have e2 := E2.out
        go_wp2_with fail
        go_roundg (l.ws.length - (i + 1))
        case measure => have := HI.out; omega
        case rel => exact ⟨i + 1, by have := HI.out; omega, rfl, by simp, HA2, XU⟩
    · have hz1 : ¬ (i : Int) < (l.ws.length : Int) := by omega
      have HE := Lib.hid (HYES.out (by have := hA.out; rw [List.take_of_length_le (by omega)] at this; exact this))
      clear hlt hi hA
      go_wp2_with fail
      go_returns
      exact ⟨by rw [HE.out]; first | done | rfl, hX.out.bl⟩

end Go.Proofs.Ytbbndcfnpfedpaa

namespace Go.Proofs.Ytbbndcfnpfedpaa
open Go.RowKit Go.Shelf

attribute [local go_sem] Oper.semAt_some

theorem info25 : (Try.prog.info? 25).map (fun i => (i.zero, i.size, i.bytes)) = some (some (.slice none 0 0), 1, 24) := by kernel_rfl

def rowsV (G : List (List Int)) : List (List Value) := G.map fun row => row.map (Value.int .i64)
theorem rowsV_len (G : List (List Int)) : (rowsV G).length = G.length := by unfold rowsV; simp
theorem rowsV_snoc (G : List (List Int)) (row : List Int) : rowsV (G ++ [row]) = rowsV G ++ [row.map (Value.int .i64)] := by unfold rowsV; simp
theorem GAt.of_ll {base : Nat} {W : World} {a : Option Addr} {G : List (List Int)} (h : LLAt base W a (rowsV G)) : GAt W a G := fun i row hi => by
  obtain ⟨g, o, a', c', e, h1, h2⟩ := h i (row.map (Value.int .i64)) (by unfold rowsV; rw [List.getElem?_map, hi]; rfl)
  exact ⟨g, o, a', c', e, by simpa using h1, h2.ints⟩

def frS (f s : Nat) : List (List Int) := (List.range s).map fun (j : Nat) => [(f : Int), (j : Int)]
def frF (f : Nat) : List (List Int) := frS f (11 - f)
def frPart (f s : Nat) : List (List Int) := [10] :: ((List.range f).flatMap frF ++ frS f s)
/-- All balls that a frame can have. -/
def framesL : List (List Int) := frPart 10 0
theorem frPart_next (f s : Nat) : frPart f (s + 1) = frPart f s ++ [[(f : Int), (s : Int)]] := by
  unfold frPart frS
  rw [List.range_succ, List.map_append]
  simp
theorem frPart_row (f : Nat) : frPart f (11 - f) = frPart (f + 1) 0 := by
  unfold frPart
  rw [flat_take]
  show _ = [10] :: (((List.range f).flatMap frF ++ frF f) ++ [])
  rw [List.append_nil]; rfl
theorem frPart_len {f s : Nat} (hf : f ≤ 10) (hs : s ≤ 11) : (frPart f s).length ≤ 200 := by
  have key : ∀ f, ((List.range f).flatMap frF).length ≤ 11 * f := fun f => by
    induction f with
    | zero => simp
    | succ f ih => rw [flat_take, List.length_append]; have : (frF f).length = 11 - f := by unfold frF frS; simp
                   omega
  have := key f
  have h2 : (frS f s).length = s := by unfold frS; simp
  unfold frPart
  rw [List.length_cons, List.length_append]
  omega

theorem llpush {w W w1 : World} {v v' : Value} {G : List (List Int)} {hs : List Value} {x y : Int} (hB : Below w.heap.size w W) (ho : W.ownsRow w.heap.size 25 1 v (rowsV G).length hs) (hr : RowsOk w.heap.size W v.ownBlock (rowsV G) hs)
    (hg : ((W.alloc (.cells #[.int .i64 x, .int .i64 y] 3)).alloc (.cells #[.slice (some ⟨W.heap.size, 0, none⟩) 2 2] 25)).grownBy w1 v.ownBlock)
    (ho' : w1.ownsRow w.heap.size 25 1 v' ((rowsV G).length + 1) (hs ++ [.slice (some ⟨W.heap.size, 0, none⟩) 2 2])) (hloc : v'.ownBlock = v.ownBlock ∨ v'.ownBlock = some ((W.alloc (.cells #[.int .i64 x, .int .i64 y] 3)).alloc (.cells #[.slice (some ⟨W.heap.size, 0, none⟩) 2 2] 25)).heap.size) :
    OwnLL 25 w.heap.size w.heap.size w1 v' (rowsV (G ++ [[x, y]])) ∧ Below w.heap.size w w1 := by
  have b2 : Below W.heap.size W ((W.alloc (.cells #[.int .i64 x, .int .i64 y] 3)).alloc (.cells #[.slice (some ⟨W.heap.size, 0, none⟩) 2 2] 25)) := below_al2 (below_al _ _) _
  have k2 : Blk ((W.alloc (.cells #[.int .i64 x, .int .i64 y] 3)).alloc (.cells #[.slice (some ⟨W.heap.size, 0, none⟩) 2 2] 25)) W.heap.size #[.int .i64 x, .int .i64 y] 3 := Blk.alt (p := fun _ => False) (Blk.new W _ _) ((Alt.refl _ _).alloc _) id
  have ho2 := ownsRow_alt ho (Alt.of_below (p := fun _ => False) b2 (fun k hk e => by omega)) (fun _ _ => id)
  have hrow : RowV w.heap.size ((W.alloc (.cells #[.int .i64 x, .int .i64 y] 3)).alloc (.cells #[.slice (some ⟨W.heap.size, 0, none⟩) 2 2] 25)) (some ⟨W.heap.size, 0, none⟩) [.int .i64 x, .int .i64 y] := fun j u hu => by
    refine ⟨W.heap.size, 0, rfl, ?_, hB.size⟩
    match j, hu with
    | 0, hu => simp at hu; subst hu; exact k2.cell 0 rfl
    | 1, hu => simp at hu; subst hu; exact k2.cell 1 rfl
  have hr' : RowsOk w.heap.size _ v.ownBlock [[.int .i64 x, .int .i64 y]] [Value.slice (some ⟨W.heap.size, 0, none⟩) 2 2] := RowsOk.one (c := 2) hrow (fun k hk g o e => by
    cases e
    have := (ho.lt k hk).2
    omega)
  rw [rowsV_snoc]
  refine ⟨OwnLL.push (L' := [[.int .i64 x, .int .i64 y]]) ho2 (hr.lo b2) hr' hg ho' hloc, ?_⟩
  exact below_grow (below_go hB b2) hg (fun k hk => own_base ho hk)

set_option maxRecDepth 100000 in
set_option maxHeartbeats 8000000 in
theorem frames_ref (w : World) : Calls Try.prog 81 #[] w fun e w' => ∃ a c, e = .returned (.slice a framesL.length c) ∧ (∀ (p : Nat → Prop) (Wx : World), (∀ k, w.heap.size ≤ k → k < w'.heap.size → ¬ p k) → Alt p w' Wx → GAt Wx a framesL) ∧ (∀ g o, a = some ⟨g, o, none⟩ → g < w'.heap.size) ∧ Below w.heap.size w w' := by
  obtain ⟨i0, hi0, hy0, hy1, hy2⟩ := info_parts info25
  have O0 := Lib.hid (show OwnLL 25 w.heap.size w.heap.size ((w.alloc (.cells #[.int .i64 10] 3)).alloc (.cells #[.slice (some ⟨w.heap.size, 0, none⟩) 1 1] 25)) (.slice (some ⟨w.heap.size + 1, 0, none⟩) 1 1) (rowsV (frPart 0 0)) from by
    have k0 : Blk ((w.alloc (.cells #[.int .i64 10] 3)).alloc (.cells #[.slice (some ⟨w.heap.size, 0, none⟩) 1 1] 25)) w.heap.size #[.int .i64 10] 3 := Blk.alt (p := fun _ => False) (Blk.new w _ _) ((Alt.refl _ _).alloc _) id
    have k1 : Blk ((w.alloc (.cells #[.int .i64 10] 3)).alloc (.cells #[.slice (some ⟨w.heap.size, 0, none⟩) 1 1] 25)) (w.heap.size + 1) #[.slice (some ⟨w.heap.size, 0, none⟩) 1 1] 25 := by
      have := Blk.new (w.alloc (.cells #[.int .i64 10] 3)) #[.slice (some ⟨w.heap.size, 0, none⟩) 1 1] 25
      rwa [World.size_alloc] at this
    refine ⟨[.slice (some ⟨w.heap.size, 0, none⟩) 1 1], ⟨rfl, .inr ⟨w.heap.size + 1, 1, #[.slice (some ⟨w.heap.size, 0, none⟩) 1 1], rfl, by omega, k1, Nat.le_refl _, by unfold maxLen; omega, rfl, rfl⟩⟩, ?_⟩
    show RowsOk w.heap.size _ (some (w.heap.size + 1)) [[.int .i64 10]] _
    exact RowsOk.one (c := 1) (l := [.int .i64 10]) (fun j u hu => by
      refine ⟨w.heap.size, 0, rfl, ?_, Nat.le_refl _⟩
      match j, hu with
      | 0, hu => simp at hu; subst hu; exact k0.cell 0 rfl) (fun k hk g o e => by cases hk; cases e; omega))
  have B0 := Lib.hid (below_al2 (below_al w (.cells #[.int .i64 10] 3)) (.cells #[.slice (some ⟨w.heap.size, 0, none⟩) 1 1] 25))
  go_enter Try.func81, Try.ntmps81
  go_wp2_with fail
  generalize (w.alloc _).alloc _ = W0 at O0 B0 ⊢
  go_loopg [1, 2] 10 (fun g s1 s2 wx => ∃ (f : Nat) (v : Value), f ≤ 10 ∧ g = 10 - f ∧ s2 = .int .i64 (f : Int) ∧ v = s1 ∧ Hid (OwnLL 25 w.heap.size w.heap.size wx v (rowsV (frPart f 0))) ∧ Hid (Below w.heap.size w wx))
  case atStart => exact ⟨0, _, by omega, by omega, rfl, rfl, O0, B0⟩
  case round =>
    obtain ⟨f, v, hf, rfl, rfl, rfl, hO, hB⟩ := hrel
    clear O0 B0
    by_cases hlt : f < 10
    · have hz1 : (f : Int) < 10 := by omega
      have e1 : IntKind.i64.wrap ((f : Int) + 1) = (f : Int) + 1 := IntWalk.i64_in _ (by omega)
      have HF := Lib.hid hlt
      have E1 := Lib.hid e1
      clear hlt hf e1
      go_wp2_with fail
      go_loopg [1, 3] (12 - f) (fun g s1 s3 wx => ∃ (s : Nat) (v : Value), s ≤ 11 - f ∧ g = 12 - f - s ∧ s3 = .int .i64 (s : Int) ∧ v = s1 ∧ Hid (OwnLL 25 w.heap.size w.heap.size wx v (rowsV (frPart f s))) ∧ Hid (Below w.heap.size w wx))
      case atStart => exact ⟨0, _, by omega, by omega, rfl, rfl, hO, hB⟩
      case round =>
        obtain ⟨s, v, hs, rfl, rfl, rfl, hO, hB⟩ := hrel
        have e0 : IntKind.i64.wrap (10 - (f : Int)) = 10 - (f : Int) := IntWalk.i64_in _ (by have := HF.out; omega)
        by_cases hls : s < 11 - f
        · have hz2 : (s : Int) ≤ 10 - (f : Int) := by omega
          have e2 : IntKind.i64.wrap ((s : Int) + 1) = (s : Int) + 1 := IntWalk.i64_in _ (by omega)
          have HS := Lib.hid hls
          obtain ⟨hs', hown, hok⟩ := hO.out
          have HL := Lib.hid (show (rowsV (frPart f s)).length ≤ 200 by rw [rowsV_len]; exact frPart_len (by have := HF.out; omega) (by omega))
          have HNX := Lib.hid (frPart_next f s)
          have PU := Lib.hid (fun w1 v' hg ho' hloc => llpush (w1 := w1) (v' := v') (x := (f : Int)) (y := (s : Int)) hB.out hown hok hg ho' hloc)
          have SZ := Lib.hid hB.out.size
          rw [← HNX.out] at PU
          generalize (rowsV (frPart f s)).length = n at *
          clear hls hs hok hO
          go_wp2_with (at_builtin; go_must (refine wpList_append_own_at _ rfl _ _ 63 rfl w.heap.size 25 i0 _ 1 24 Try.underlying63 hi0 hy0 hy1 hy2 rfl (by decide) v n hs' rfl ((hown.alloc _).alloc _) ⟨wr.heap.size + 1, 0, none⟩ 1 1 [.slice (some ⟨wr.heap.size, 0, none⟩) 2 2] rfl (by rfl) (by first | exact World.news_of_block (cs := #[.slice (some ⟨wr.heap.size, 0, none⟩) 2 2]) (t := 25) (fr := (0, 0)) (by simpa using heap_alloc_new (wr.alloc _) _) | fail "news") (by simp [Value.oneCell']) (by unfold maxLen; have := HL.out; omega) (by have := HL.out; omega) (by have := SZ.out; simp; omega) ?_); intro v' w1 hown' hgrow hnil hloc; have KN := Lib.hid (PU.out w1 v' hgrow hown' hloc); clear hown' hgrow hnil hloc)
          clear PU hown hB
          go_roundg (12 - f - (s + 1))
          case measure => have := HS.out; omega
          case rel => exact ⟨s + 1, _, by have := HS.out; omega, rfl, by simp, rfl, Lib.hid KN.out.1, Lib.hid KN.out.2⟩
        · have hz2 : ¬ (s : Int) ≤ 10 - (f : Int) := by omega
          have hsf : s = 11 - f := by omega
          have HR := Lib.hid (frPart_row f)
          rw [hsf, HR.out] at hO
          have e1 := E1.out
          clear hsf hls hs
          go_wp2_with fail
          go_roundg (10 - (f + 1))
          case measure => have := HF.out; omega
          case rel => exact ⟨f + 1, _, by have := HF.out; omega, rfl, by simp, rfl, hO, hB⟩
    · have hz1 : ¬ (f : Int) < 10 := by omega
      have hf10 : f = 10 := by omega
      rw [hf10] at hO
      obtain ⟨a, c, rfl, h1, h2⟩ := hO.out.out
      have H1 := Lib.hid (show ∀ (p : Nat → Prop) (Wx : World), (∀ k, w.heap.size ≤ k → k < wr.heap.size → ¬ p k) → Alt p wr Wx → GAt Wx a framesL from fun p Wx hp hA i row hi => by
        obtain ⟨g, o, a', c', e, q1, q2⟩ := h1 i (row.map (Value.int .i64)) (by show (rowsV framesL)[i]? = _; unfold rowsV; rw [List.getElem?_map, hi]; rfl)
        refine ⟨g, o, a', c', e, by have := alt_cell hA q1 (hp g (h2 g o e).1 (cell_lt q1)); simpa using this, fun j x hx => ?_⟩
        obtain ⟨g', o', e', r1, r2⟩ := q2 j (.int .i64 x) (by rw [List.getElem?_map, hx]; rfl)
        exact ⟨g', o', e', alt_cell hA r1 (hp g' r2 (cell_lt r1))⟩)
      have H2 := Lib.hid (show ∀ g o, a = some ⟨g, o, none⟩ → g < wr.heap.size from fun g o e => (h2 g o e).2)
      have HL := Lib.hid (show (rowsV (frPart 10 0)).length = framesL.length by rw [rowsV_len]; rfl)
      rw [HL.out]
      clear h1 h2 hlt hf hf10 hO
      go_wp2_with fail
      go_returns
      first
      | exact ⟨a, ⟨c, rfl⟩, H1.out, H2.out, hB.out⟩
      | exact ⟨a, c, rfl, H1.out, H2.out, hB.out⟩

end Go.Proofs.Ytbbndcfnpfedpaa
