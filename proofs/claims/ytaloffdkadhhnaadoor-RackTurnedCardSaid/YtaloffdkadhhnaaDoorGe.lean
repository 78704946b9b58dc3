/- The iterator over a pin's neighbours. The contract of the search for a piece of a leave. The contracts of inOnePiece, kind and Kind. The contracts of kind and Kind. The contract of Kind. -/
import Derived.Test.YtaloffdkadhhnaaDoorGd
import Derived.Test.YtaloffdkadhhnaaDoorGa
set_option linter.unusedVariables false
set_option linter.unusedSimpArgs false

namespace Go.Proofs.YtaloffdkadhhnaaDoor
open Go.RowKit Go.Shelf

attribute [local go_sem] Oper.semAt_some

set_option maxHeartbeats 1000000 in
theorem place_sz (r : Rk) (p : Int) (w : World) (ok : r.Ok) (p1 : 0 ≤ p) (p2 : p < pinsN r.rows) :
    Calls Tryd.prog 116 #[r.val, .int .i64 p] w fun e w' => e = .returned (plcV r p) ∧ Below w.heap.size w w' ∧ w'.heap.size = w.heap.size + 2 := by
  have hp9 : p ≤ 9 := by have : pinsN r.rows ≤ 10 := by (unfold pinsN; split <;> (try split) <;> (try split) <;> omega)
                         omega
  have hbd := boardN_bd ok p1 hp9
  have hpn : ∀ i : Int, 0 ≤ i → i ≤ r.rows → tri i ≤ p → i < r.rows := fun i h0 h1 h2 => by
    have : i ≠ r.rows := fun e => by
      have a := ok.r1; have b := ok.r2
      subst e
      unfold tri at h2; unfold pinsN at p2
      have : r.rows = 1 ∨ r.rows = 2 ∨ r.rows = 3 ∨ r.rows = 4 := by omega
      rcases this with e | e | e | e <;> simp [e] at h2 p2 <;> omega
    omega
  have hres : ∀ i : Int, 0 ≤ i → i ≤ 3 → tri i ≤ p → p - tri i ≤ i → plcV r p = .agg #[.int .i64 i, .int .i64 (r.mid + r.gap * (2 * (p - tri i) - i))] := fun i h0 h1 h2 h3 => by
    have : i = 0 ∨ i = 1 ∨ i = 2 ∨ i = 3 := by omega
    have e : rowN p = i ∧ kN p = p - tri i := by
      unfold rowN kN tri at *
      clear hpn
      rcases this with rfl | rfl | rfl | rfl <;> simp at h2 h3 ⊢ <;> constructor <;> (repeat' split) <;> omega
    unfold plcV boardN
    rw [e.1, e.2]
  have htr : ∀ i : Int, 0 ≤ i → i ≤ 3 → tri (i + 1) = tri i + (i + 1) := fun i h0 h1 => by
    have : i = 0 ∨ i = 1 ∨ i = 2 ∨ i = 3 := by omega
    rcases this with rfl | rfl | rfl | rfl <;> rfl
  obtain ⟨r1, r2, m1, m2, g1, g2, c1, c2⟩ := ok
  have HR := Lib.hid hres
  have HP := Lib.hid hpn
  have HT := Lib.hid htr
  clear hres hpn htr hbd p2
  generalize plcV r p = V at *
  obtain ⟨rows, mid, gap, reach, la, lc, ls⟩ := r
  unfold Rk.val
  simp only at *
  go_enter Tryd.func116, Tryd.ntmps116
  go_wp2_with fail
  go_loop [5, 6, 10] (fun k s6 i => ∃ j : Int, 0 ≤ j ∧ j ≤ rows ∧ i = .int .i64 j ∧ Hid (tri j ≤ p) ∧ k = .int .i64 (p - tri j) ∧ (0 ≤ tri j ∧ tri j ≤ 10)) (fun _ _ i => (rows - intOf i).toNat)
  case atStart => exact ⟨0, by omega, by omega, rfl, Lib.hid p1, by simp [tri], by simp [tri]⟩
  case round =>
    obtain ⟨j, j1, j2, rfl, ht, rfl, ht1, ht2⟩ := hrel
    have hj := HP.out j j1 j2 ht.out
    have ht' := ht.out
    have HT1 := Lib.hid (HT.out j j1 (by omega))
    by_cases hk : p - tri j ≤ j
    · have hV := Lib.hid (HR.out j j1 (by omega) ht.out hk)
      have hg := gap_bd g1 g2 (x := 2 * (p - tri j) - j) (by omega) (by omega)
      generalize tri j = T at *
      go_wp2_with fail
      refine bodyPost_ret (v := V) (by rw [hV.out]; simp [results, Tryd.results116, go_sem]) rfl ⟨rfl, ?_⟩
      exact ⟨below_al2 (below_al _ _) _, by simp⟩
    · have hk' : j < p - tri j := by omega
      go_wp2_with fail
      go_round
      case rel => exact ⟨j + 1, by omega, by omega, by go_num, Lib.hid (by rw [HT1.out]; omega), by rw [HT1.out]; go_num, by rw [HT1.out]; omega⟩
      case measure => simp [intOf]; omega

/-- Does the second pin stand next to the first one? -/
def nextB (r : Rk) (p q : Int) : Bool := besB r.gap (rowN p) (boardN r p) (rowN q) (boardN r q)
def pinL (r : Rk) : List Int := (List.range (pinsN r.rows).toNat).map fun (n : Nat) => (n : Int)
def nbrs (r : Rk) (p : Int) : List Int := (pinL r).filter (nextB r p)

theorem pinL_take (r : Rk) {i : Nat} (h : i < (pinsN r.rows).toNat) : (pinL r).take (i + 1) = (pinL r).take i ++ [(i : Int)] ∧ (pinL r).drop i = (i : Int) :: (pinL r).drop (i + 1) := by
  have hlen : i < (pinL r).length := by unfold pinL; simpa using h
  have e0 : (pinL r)[i]? = some (i : Int) := by unfold pinL; rw [List.getElem?_map, List.getElem?_range h]; rfl
  have e : (pinL r)[i] = (i : Int) := by rw [List.getElem?_eq_getElem hlen] at e0; exact Option.some.inj e0
  constructor
  · rw [List.take_add_one, List.getElem?_eq_getElem hlen, e]; rfl
  · rw [List.drop_eq_getElem_cons hlen, e]

set_option maxHeartbeats 400000 in
theorem neighbours_any (r : Rk) (p : Int) (w : World) :
    Calls Tryd.prog 106 #[r.val, .int .i64 p] w fun e w' => e = .returned (.func (.func 115) #[] #[.pointer (some ⟨w.heap.size, 0, none⟩), .pointer (some ⟨w.heap.size + 1, 0, none⟩)]) ∧ w' = (w.alloc (.cells (rCells r) 32)).alloc (.cells #[.int .i64 p] 3) := by
  unfold Rk.val rCells
  go_enter Tryd.func106, Tryd.ntmps106
  go_wp2_with fail
  go_ret
  exact ⟨rfl, rfl⟩

set_option maxRecDepth 100000 in
set_option maxHeartbeats 8000000 in
theorem nbr_iter (r : Rk) (p : Int) (rB pB : Nat) (w : World) (ok : r.Ok) (p1 : 0 ≤ p) (p2 : p < pinsN r.rows) (hR : Blk w rB (rCells r) 32) (hP : Boxed w pB 3 (.int .i64 p)) :
    IterT Tryd.prog 115 #[.pointer (some ⟨rB, 0, none⟩), .pointer (some ⟨pB, 0, none⟩)] (fun x : Int => #[Value.int .i64 x]) (nbrs r p) 3 (fun k => k = rB ∨ k = pB) w := by
  intro l J W hW hJ hY h0
  have hRW := Blk.alt hR hW (by simp)
  have hPW := Boxed.alt hP hW (by simp)
  clear hR hP hW
  have PS := Lib.hid (fun W => callsIn_wide (n := 0).2 (place_sz r p W ok p1 p2))
  have PL := Lib.hid (fun q W q1 q2 => place_any r q W ok q1 q2)
  have PN := Lib.hid (fun W => callsIn_wide (n := 0).2 (pins_any r W ok.r1 ok.r2))
  have hp9 : p ≤ 9 := by have := (@pinsN_bd r).2; omega
  have hb0 := boardN_bd ok p1 hp9
  have hr0 := rowN_bd p1 hp9
  have BS := Lib.hid (fun (q : Int) (W : World) (q1 : 0 ≤ q) (q2 : q < pinsN r.rows) => by
    have hq9 : q ≤ 9 := by have := (@pinsN_bd r).2; omega
    have hbq := boardN_bd ok q1 hq9
    have hrq := rowN_bd q1 hq9
    exact beside_any r (rowN p) (boardN r p) (rowN q) (boardN r q) W ok.g1 ok.g2 hr0.1 hr0.2.1 hrq.1 hrq.2.1 hb0.1 hb0.2 hbq.1 hbq.2)
  have HNB := Lib.hid (show ∀ q, nextB r p q = besB r.gap (rowN p) (boardN r p) (rowN q) (boardN r q) from fun q => rfl)
  have hnp := (@pinsN_bd r)
  clear hb0 hr0
  have r0 : W.cell? ⟨rB, 0, none⟩ = some (.int .i64 r.rows) := hRW.cell 0 rfl
  have r1 : W.cell? ⟨rB, 1, none⟩ = some (.int .i64 r.mid) := hRW.cell 1 rfl
  have r2 : W.cell? ⟨rB, 2, none⟩ = some (.int .i64 r.gap) := hRW.cell 2 rfl
  have r3 : W.cell? ⟨rB, 3, none⟩ = some (.int .i64 r.reach) := hRW.cell 3 rfl
  have r4 : W.cell? ⟨rB, 4, none⟩ = some (.slice r.la r.ls.length r.lc) := hRW.cell 4 rfl
  have c0 := hPW.cell
  unfold Rk.val plcV at PS PL
  unfold Rk.val at PN BS
  refine callsIn_of_wp Tryd.func115 rfl trivial ?_ rfl
  simp only [Tryd.ntmps115, List.size_toArray, List.length_cons, List.length_nil, Nat.reduceAdd, Nat.reduceSub, Array.replicate_succ, Array.replicate_zero, List.push_toArray, List.append_toArray, List.nil_append, List.cons_append]
  gi_wp2
  refine ⟨trivial, rfl, ?_⟩
  refine (PS.out _).mono ?_
  rintro e w1 ⟨rfl, hb, hsz⟩
  have X2 : Alt (Rng W.heap.size 3) W (w1.alloc (.cells #[.int .i64 (rowN p), .int .i64 (boardN r p)] 162)) := (Alt.of_below hb (fun k hk h => by omega)).alloc _
  have X3 : Alt (fun _ => False) W (w1.alloc (.cells #[.int .i64 (rowN p), .int .i64 (boardN r p)] 162)) := (Alt.of_below hb (fun k hk h => by omega)).alloc _
  have R2 := Lib.hid (Blk.alt hRW X3 id)
  have O2 : Hid (Blk (w1.alloc (.cells #[.int .i64 (rowN p), .int .i64 (boardN r p)] 162)) (W.heap.size + 2) #[.int .i64 (rowN p), .int .i64 (boardN r p)] 162) := Lib.hid (by rw [← hsz]; exact Blk.new _ _ _)
  have J2 := Lib.hid (hJ _ _ _ h0 X2)
  have z2 := Lib.hid (show W.heap.size + 3 ≤ (w1.alloc (.cells #[.int .i64 (rowN p), .int .i64 (boardN r p)] 162)).heap.size by simp; omega)
  clear r0 r1 r2 r3 r4 c0 hPW hRW X2 X3 hb h0
  have r0 : (w1.alloc (.cells #[.int .i64 (rowN p), .int .i64 (boardN r p)] 162)).cell? ⟨rB, 0, none⟩ = some (.int .i64 r.rows) := R2.out.cell 0 rfl
  have r1 : (w1.alloc (.cells #[.int .i64 (rowN p), .int .i64 (boardN r p)] 162)).cell? ⟨rB, 1, none⟩ = some (.int .i64 r.mid) := R2.out.cell 1 rfl
  have r2 : (w1.alloc (.cells #[.int .i64 (rowN p), .int .i64 (boardN r p)] 162)).cell? ⟨rB, 2, none⟩ = some (.int .i64 r.gap) := R2.out.cell 2 rfl
  have r3 : (w1.alloc (.cells #[.int .i64 (rowN p), .int .i64 (boardN r p)] 162)).cell? ⟨rB, 3, none⟩ = some (.int .i64 r.reach) := R2.out.cell 3 rfl
  have r4 : (w1.alloc (.cells #[.int .i64 (rowN p), .int .i64 (boardN r p)] 162)).cell? ⟨rB, 4, none⟩ = some (.slice r.la r.ls.length r.lc) := R2.out.cell 4 rfl
  gi_wp2
  refine ⟨trivial, rfl, ?_⟩
  generalize World.alloc w1 _ = W2 at R2 O2 J2 z2 ⊢
  refine (PN.out _).mono ?_
  rintro e w3 ⟨rfl, hb⟩
  have X4 : Alt (fun _ => False) W2 w3 := Alt.of_below hb (fun k hk h => by omega)
  have R3 := Lib.hid (Blk.alt R2.out X4 id)
  have O3 := Lib.hid (Blk.alt O2.out X4 id)
  have J3 := Lib.hid (hJ _ _ _ J2.out (X4.mono fun _ _ h => h.elim))
  have z3 := Lib.hid (Nat.le_trans z2.out hb.size)
  clear hb X4 R2 O2 J2 z2 PN PS r0 r1 r2 r3 r4
  obtain ⟨n, hn⟩ : ∃ n : Nat, (n : Int) = pinsN r.rows := ⟨(pinsN r.rows).toNat, by omega⟩
  rw [← hn]
  have HN := Lib.hid hn
  have hn10 : (n : Int) ≤ 10 := by omega
  clear hn hsz
  have hpl : (pinL r).length = n := by unfold pinL; have := HN.out; simp; omega
  gi_wp2
  gi_loopw [11] (fun s wr => ∃ (i : Nat), i ≤ n ∧ s = .int .i64 (i : Int) ∧ Hid (J (((pinL r).take i).filter (nextB r p)) wr) ∧ Hid (Blk wr rB (rCells r) 32) ∧ Hid (Blk wr (W.heap.size + 2) #[.int .i64 (rowN p), .int .i64 (boardN r p)] 162) ∧ Hid (W.heap.size + 3 ≤ wr.heap.size)) (fun s wr => n - (intOf s).toNat)
  case atStart => exact ⟨0, by omega, rfl, by simpa using J3, R3, O3, z3⟩
  case round =>
    obtain ⟨i, hi, rfl, JR, RR, OR, ZR⟩ := hrel
    clear J3 R3 O3 z3
    by_cases hlt : i < n
    · have hz1 : (i : Int) < (n : Int) := by omega
      have hq0 : (0 : Int) ≤ (i : Int) := by omega
      have hq1 : (i : Int) < pinsN r.rows := by have := HN.out; omega
      obtain ⟨ht1, ht2⟩ := pinL_take r (i := i) (by have := HN.out; omega)
      have PLi := Lib.hid (fun W => PL.out (i : Int) W hq0 hq1)
      have BSi := Lib.hid (fun W => BS.out (i : Int) W hq0 hq1)
      have HT1 := Lib.hid ht1
      have HT2 := Lib.hid ht2
      have HBi := Lib.hid (HNB.out (i : Int))
      rw [← HBi.out] at BSi
      clear ht1 ht2 hq1 hlt HBi
      cases hB : nextB r p (i : Int)
      · rw [hB] at BSi
        have HB := Lib.hid hB
        clear hB
        have q0 := fun u : Late wr => u.cell (RR.out.cell 0 (show _ = some (Value.int .i64 r.rows) from rfl)) RR.out.lt
        have q1 := fun u : Late wr => u.cell (RR.out.cell 1 (show _ = some (Value.int .i64 r.mid) from rfl)) RR.out.lt
        have q2 := fun u : Late wr => u.cell (RR.out.cell 2 (show _ = some (Value.int .i64 r.gap) from rfl)) RR.out.lt
        have q3 := fun u : Late wr => u.cell (RR.out.cell 3 (show _ = some (Value.int .i64 r.reach) from rfl)) RR.out.lt
        have q4 := fun u : Late wr => u.cell (RR.out.cell 4 (show _ = some (Value.slice r.la r.ls.length r.lc) from rfl)) RR.out.lt
        have o0 := fun u : Late wr => u.cell (OR.out.cell 0 (show _ = some (Value.int .i64 (rowN p)) from rfl)) OR.out.lt
        have o1 := fun u : Late wr => u.cell (OR.out.cell 1 (show _ = some (Value.int .i64 (boardN r p)) from rfl)) OR.out.lt
        gi_wp2
        refine (wpIn_wide (n := 0)).2 ?_
        refine wp_region_late wr (Below.refl _ _) (by kernel_rfl) (by kernel_rfl) ?_
        repeat (go_big_quiet_step ((first | (go_at_call 116; exact Calls.late (PLi.out _)) | (go_at_call 117; exact Calls.late (BSi.out _)))))
        refine wpQuiet_nil ?_
        intro _ hw'
        obtain ⟨uq, hw''⟩ := hw'
        subst hw''
        have X5 : Alt (fun _ => False) wr uq.W := Alt.of_below uq.b (fun k hk h => by omega)
        have RU := Lib.hid (Blk.alt RR.out X5 id)
        have OU := Lib.hid (Blk.alt OR.out X5 id)
        have JU := Lib.hid (hJ _ _ _ JR.out (X5.mono fun _ _ h => h.elim))
        have ZU := Lib.hid (Nat.le_trans ZR.out uq.b.size)
        clear X5 q0 q1 q2 q3 q4 o0 o1
        gi_wp2
        go_roundw
        case rel => exact ⟨i + 1, by omega, by go_num, by rw [HT1.out, List.filter_append]; simpa [List.filter, HB.out] using JU, RU, OU, ZU⟩
        case measure => simp [intOf]; omega
      · rw [hB] at BSi
        have HB := Lib.hid hB
        clear hB
        have q0 : wr.cell? ⟨rB, 0, none⟩ = some (.int .i64 r.rows) := RR.out.cell 0 rfl
        have q1 : wr.cell? ⟨rB, 1, none⟩ = some (.int .i64 r.mid) := RR.out.cell 1 rfl
        have q2 : wr.cell? ⟨rB, 2, none⟩ = some (.int .i64 r.gap) := RR.out.cell 2 rfl
        have q3 : wr.cell? ⟨rB, 3, none⟩ = some (.int .i64 r.reach) := RR.out.cell 3 rfl
        have q4 : wr.cell? ⟨rB, 4, none⟩ = some (.slice r.la r.ls.length r.lc) := RR.out.cell 4 rfl
        have o0 : wr.cell? ⟨W.heap.size + 2, 0, none⟩ = some (.int .i64 (rowN p)) := OR.out.cell 0 rfl
        have o1 : wr.cell? ⟨W.heap.size + 2, 1, none⟩ = some (.int .i64 (boardN r p)) := OR.out.cell 1 rfl
        have hxs : nbrs r p = ((pinL r).take i).filter (nextB r p) ++ (i : Int) :: ((pinL r).drop (i + 1)).filter (nextB r p) := by
          have e : pinL r = (pinL r).take i ++ (i : Int) :: (pinL r).drop (i + 1) := by rw [← HT2.out, List.take_append_drop]
          unfold nbrs
          conv => lhs; rw [e]
          rw [List.filter_append, List.filter_cons, if_pos (by rw [HB.out])]
        have YY := Lib.hid (fun (u : Late wr) => hY _ _ _ u.W hxs (Nat.le_trans ZR.out u.b.size) (hJ _ _ _ JR.out (Alt.of_below u.b (fun k hk h => by omega))))
        have RU := Lib.hid (fun (u : Late wr) => Blk.alt RR.out (Alt.of_below (p := fun _ => False) u.b (fun k hk h => by omega)) id)
        have OU := Lib.hid (fun (u : Late wr) => Blk.alt OR.out (Alt.of_below (p := fun _ => False) u.b (fun k hk h => by omega)) id)
        have PLj := Lib.hid (fun W => callsIn_wide (n := 0).2 (PLi.out W))
        have BSj := Lib.hid (fun W => callsIn_wide (n := 0).2 (BSi.out W))
        have hmx : Tryd.prog.follows .mixedOrders = true := by kernel_rfl
        clear PL BS PLi BSi hY hxs HNB
        gi_wp2
        gi_region_with_o (first
          | ((refine ⟨trivial, rfl, ?_⟩); (with_reducible refine (PLj.out _).mono ?_); rintro e w4 ⟨rfl, hb4⟩; have U4 : Hid (Below wr.heap.size wr w4) := Lib.hid (below_go (Below.refl _ wr).drew hb4); have a0 := (RU.out ⟨w4, U4.out⟩).cell 0 (show _ = some (Value.int .i64 r.rows) from rfl); have a1 := (RU.out ⟨w4, U4.out⟩).cell 1 (show _ = some (Value.int .i64 r.mid) from rfl); have a2 := (RU.out ⟨w4, U4.out⟩).cell 2 (show _ = some (Value.int .i64 r.gap) from rfl); have a3 := (RU.out ⟨w4, U4.out⟩).cell 3 (show _ = some (Value.int .i64 r.reach) from rfl); have a4 := (RU.out ⟨w4, U4.out⟩).cell 4 (show _ = some (Value.slice r.la r.ls.length r.lc) from rfl); have a5 := (OU.out ⟨w4, U4.out⟩).cell 0 (show _ = some (Value.int .i64 (rowN p)) from rfl); have a6 := (OU.out ⟨w4, U4.out⟩).cell 1 (show _ = some (Value.int .i64 (boardN r p)) from rfl); clear hb4)
          | ((refine ⟨trivial, rfl, ?_⟩); (with_reducible refine (BSj.out _).mono ?_); rintro e w5 ⟨rfl, hb5⟩; have U5 : Hid (Below wr.heap.size wr w5) := Lib.hid (below_go U4.out hb5); clear hb5; have hyy := YY.out ⟨w5, U5.out⟩; obtain ⟨fn, tmps, assign, body, hy, hR⟩ := hyy; dsimp only at hy hR)
          | ((refine ⟨rfl, ?_⟩); (with_reducible refine hR.mono ?_); rintro e w6 ⟨rfl, hJ6, hk6⟩))
        all_goals
          gi_wp2
          go_roundw
          case rel =>
            refine ⟨i + 1, by omega, by go_num, Lib.hid ?_, Lib.hid (Blk.alt (RU.out ⟨w5, U5.out⟩) hk6 (by simp)), Lib.hid (Blk.alt (OU.out ⟨w5, U5.out⟩) hk6 (by unfold Rng; simp)), Lib.hid (Nat.le_trans ZR.out (Nat.le_trans U5.out.size hk6.size))⟩
            rw [HT1.out, List.filter_append]
            simpa [List.filter, HB.out] using hJ6
          case measure => simp [intOf]; omega
    · have hz1 : ¬ (i : Int) < (n : Int) := by omega
      have HE := Lib.hid (show nbrs r p = ((pinL r).take i).filter (nextB r p) from by unfold nbrs; rw [List.take_of_length_le (by omega)])
      gi_wp2
      go_end0
      exact ⟨⟨_, rfl⟩, by rw [HE.out]; exact JR.out⟩

end Go.Proofs.YtaloffdkadhhnaaDoor

namespace Go.Proofs.YtaloffdkadhhnaaDoor
open Go.RowKit Go.Shelf

attribute [local go_sem] Oper.semAt_some

theorem Alt.trans2 {p q : Nat → Prop} {a b c : World} (h : Alt p a b) (k : Alt q b c) (hq : ∀ i, i < a.heap.size → q i → p i) : Alt p a c :=
  ⟨k.os.trans h.os, k.tape.trans h.tape, k.out.trans h.out, Nat.le_trans h.size k.size, fun i hi hp => (k.blk i (Nat.lt_of_lt_of_le hi h.size) (fun e => hp (hq i hi e))).trans (h.blk i hi hp)⟩

def reachF (r : Rk) (lv : Nat) : Nat → Int → Nat → Nat
  | 0, p, R => R ||| 1 <<< p.toNat
  | f + 1, p, R => (nbrs r p).foldl (fun M q => if lv.testBit q.toNat = true ∧ M.testBit q.toNat = false then reachF r lv f q M else M) (R ||| 1 <<< p.toNat)
def stepR (r : Rk) (lv f : Nat) (M : Nat) (q : Int) : Nat := if lv.testBit q.toNat = true ∧ M.testBit q.toNat = false then reachF r lv f q M else M
theorem reachF_succ (r : Rk) (lv f : Nat) (p : Int) (R : Nat) : reachF r lv (f + 1) p R = (nbrs r p).foldl (stepR r lv f) (R ||| 1 <<< p.toNat) := rfl

theorem or_sub (a b : Nat) : Sub a (a ||| b) := fun i h => by rw [Nat.testBit_or, h]; rfl
theorem reachF_le (r : Rk) (lv : Nat) : ∀ (f : Nat) (p : Int) (R : Nat), Sub (R ||| 1 <<< p.toNat) (reachF r lv f p R)
  | 0, p, R => Sub.refl _
  | f + 1, p, R => by
    rw [reachF_succ]
    refine fold_inv (fun M => Sub (R ||| 1 <<< p.toNat) M) _ _ _ (Sub.refl _) fun M q _ hM => ?_
    unfold stepR; split
    · exact hM.trans ((or_sub _ _).trans (reachF_le r lv f q M))
    · exact hM
theorem nbrs_bd {r : Rk} {p q : Int} (h : q ∈ nbrs r p) : 0 ≤ q ∧ q < pinsN r.rows := by
  unfold nbrs pinL at h
  have h2 := (List.mem_filter.1 h).1
  obtain ⟨i, hi, rfl⟩ := List.mem_map.1 h2
  have := List.mem_range.1 hi
  have := (@pinsN_bd r).1
  omega
theorem reachF_lt (r : Rk) (lv : Nat) : ∀ (f : Nat) (p : Int) (R : Nat), 0 ≤ p → p ≤ 15 → R < 65536 → reachF r lv f p R < 65536
  | 0, p, R, h1, h2, hR => or16 hR (bit16 h1 h2)
  | f + 1, p, R, h1, h2, hR => by
    rw [reachF_succ]
    refine fold_inv (fun M => M < 65536) _ _ _ (or16 hR (bit16 h1 h2)) fun M q hq hM => ?_
    have := nbrs_bd hq; have := (@pinsN_bd r).2
    unfold stepR; split
    · exact reachF_lt r lv f q M (by omega) (by omega) hM
    · exact hM

/-- What the search stands on. -/
structure RS (r : Rk) (lv bR bK bV bG : Nat) (W : World) (R : Nat) : Prop where
  a : Boxed W bR 100 (.int .u16 (R : Nat))
  k : Blk W bK (rCells r) 32
  v : Boxed W bV 100 (.int .u16 (lv : Nat))
  g : Boxed W bG 156 (.func (.func 105) #[] #[.pointer (some ⟨bR, 0, none⟩), .pointer (some ⟨bK, 0, none⟩), .pointer (some ⟨bV, 0, none⟩), .pointer (some ⟨bG, 0, none⟩)])
theorem RS.far {r : Rk} {lv bR bK bV bG R : Nat} {W W' : World} {p : Nat → Prop} (h : RS r lv bR bK bV bG W R) (ha : Alt p W W') (h1 : ¬ p bR) (h2 : ¬ p bK) (h3 : ¬ p bV) (h4 : ¬ p bG) : RS r lv bR bK bV bG W' R :=
  ⟨Boxed.alt h.a ha h1, Blk.alt h.k ha h2, Boxed.alt h.v ha h3, Boxed.alt h.g ha h4⟩
theorem RS.go {r : Rk} {lv bR bK bV bG R M : Nat} {W W' : World} (h : RS r lv bR bK bV bG W R) (hb : bR ≠ bK ∧ bR ≠ bV ∧ bR ≠ bG) (ha : Alt (fun k => k = bR) W W') (hl : Boxed W' bR 100 (.int .u16 (M : Nat))) : RS r lv bR bK bV bG W' M :=
  ⟨hl, Blk.alt h.k ha (fun e => hb.1 e.symm), Boxed.alt h.v ha (fun e => hb.2.1 e.symm), Boxed.alt h.g ha (fun e => hb.2.2 e.symm)⟩

theorem eg115 : ∀ args w, (callFunc 115 args).run Tryd.prog w = .ok (.enter 115 args) w := enters_of Tryd.func115 (by kernel_rfl) rfl

set_option maxRecDepth 100000 in
set_option maxHeartbeats 8000000 in
theorem reach_any (r : Rk) (lv bR bK bV bG : Nat) (ok : r.Ok) (hb : bR ≠ bK ∧ bR ≠ bV ∧ bR ≠ bG) (hlv : lv < 65536) :
    ∀ (f : Nat) (p : Int) (R : Nat) (W : World), 0 ≤ p → p < pinsN r.rows → R < 65536 → (els (dif lv R)).length ≤ f → lv.testBit p.toNat = true → R.testBit p.toNat = false → RS r lv bR bK bV bG W R →
    Calls Tryd.prog 105 #[.int .i64 p, .pointer (some ⟨bR, 0, none⟩), .pointer (some ⟨bK, 0, none⟩), .pointer (some ⟨bV, 0, none⟩), .pointer (some ⟨bG, 0, none⟩)] W fun e W' => e = .returned (.tuple #[]) ∧ Boxed W' bR 100 (.int .u16 (reachF r lv f p R : Nat)) ∧ Alt (fun k => k = bR) W W' := by
  intro f
  induction f with
  | zero =>
    intro p R W p1 p2 hR hs hbit hoff
    have := (@pinsN_bd r).2
    have : p ∈ els (dif lv R) := (mem_els _ _).2 ⟨p1, by omega, by rw [dif_bit, hbit, hoff]; rfl⟩
    have := List.length_pos_of_mem this
    omega
  | succ f ih =>
    intro p R W p1 p2 hR hs hbit hoff h
    have IH := Lib.hid ih
    clear ih
    have hp15 : p ≤ 15 := by have := (@pinsN_bd r).2; omega
    have hD : R ||| 1 <<< p.toNat < 65536 := or16 hR (bit16 p1 hp15)
    have hDs : (els (dif lv (R ||| 1 <<< p.toNat))).length ≤ f := by
      have := size_lt (a := dif lv (R ||| 1 <<< p.toNat)) (b := dif lv R) (fun i hi => by rw [dif_bit] at hi ⊢; rw [Nat.testBit_or] at hi; cases hx : lv.testBit i <;> cases hy : R.testBit i <;> simp_all) p1 hp15 (by rw [dif_bit, hbit, hoff]; rfl) (by rw [dif_bit, Nat.testBit_or, one_bit]; simp)
      omega
    have hfs := Lib.hid (reachF_succ r lv f p R)
    have E1 := bor16 hR (bit16 p1 hp15)
    have E2 := shl16 p1 hp15
    rw [← E2] at E1
    have cL := h.a.cell
    have fL := h.a.frozen
    have NB := Lib.hid (fun W => callsIn_wide (n := 0).2 (neighbours_any r p W))
    have hA0 := (Alt.refl (fun k => k = bR) W).setCell (q := ⟨bR, 0, none⟩) rfl (.int .u16 ((R ||| 1 <<< p.toNat : Nat) : Int))
    have HG := Lib.hid (h.go hb hA0 (Boxed.set _ h.a))
    have A0 := Lib.hid hA0
    generalize R ||| 1 <<< p.toNat = D at *
    generalize reachF r lv (f + 1) p R = RES at *
    clear h hA0 hbit hoff hs E2
    refine (callsIn_wide (n := 0)).1 ?_
    refine callsIn_of_wp_marks Tryd.func105 rfl trivial ?_ rfl
    simp only [Tryd.ntmps105, List.size_toArray, List.length_cons, List.length_nil, Nat.reduceAdd, Nat.reduceSub, Array.replicate_succ, Array.replicate_zero, List.push_toArray, List.append_toArray, List.nil_append, List.cons_append]
    gi_wp2
    refine (wpIn_wide (n := 0)).2 ?_
    go_still_tail 4, (by kernel_rfl)
    go_wp2_with fail
    generalize hW1 : World.drew _ = W1
    have G1 : RS r lv bR bK bV bG W1 D := by rw [← hW1]; exact HG.out.far (p := fun _ => False) (Alt.refl _ _).drew id id id id
    have A1 : Alt (fun k => k = bR) W W1 := by rw [← hW1]; exact A0.out.drew
    clear hW1 HG A0 E1 cL fL
    have r0 : W1.cell? ⟨bK, 0, none⟩ = some (.int .i64 r.rows) := G1.k.cell 0 rfl
    have r1 : W1.cell? ⟨bK, 1, none⟩ = some (.int .i64 r.mid) := G1.k.cell 1 rfl
    have r2 : W1.cell? ⟨bK, 2, none⟩ = some (.int .i64 r.gap) := G1.k.cell 2 rfl
    have r3 : W1.cell? ⟨bK, 3, none⟩ = some (.int .i64 r.reach) := G1.k.cell 3 rfl
    have r4 : W1.cell? ⟨bK, 4, none⟩ = some (.slice r.la r.ls.length r.lc) := G1.k.cell 4 rfl
    have NB1 := Lib.hid (NB.out W1)
    obtain ⟨V, hV⟩ : ∃ V, Hid (V = r.val) := ⟨_, Lib.hid rfl⟩
    unfold Rk.val at NB1
    gi_wp2
    refine ⟨trivial, rfl, ?_⟩
    refine NB1.out.mono ?_
    rintro e w2 ⟨rfl, rfl⟩
    have bk2 : Blk ((W1.alloc (.cells (rCells r) 32)).alloc (.cells #[.int .i64 p] 3)) W1.heap.size (rCells r) 32 := Blk.alt (p := fun _ => False) (Blk.new W1 _ _) ((Alt.refl _ _).alloc _) id
    have bp2 : Boxed ((W1.alloc (.cells (rCells r) 32)).alloc (.cells #[.int .i64 p] 3)) (W1.heap.size + 1) 3 (.int .i64 p) := by
      have := Boxed.new (W1.alloc (.cells (rCells r) 32)) 3 (.int .i64 p)
      rwa [World.size_alloc] at this
    have X2 : Alt (fun _ => False) W1 ((W1.alloc (.cells (rCells r) 32)).alloc (.cells #[.int .i64 p] 3)) := ((Alt.refl _ _).alloc _).alloc _
    have G2 := G1.far X2 id id id id
    have A2 := A1.trans (X2.mono fun _ _ h => h.elim)
    have HZ2 := Lib.hid (show ((W1.alloc (.cells (rCells r) 32)).alloc (.cells #[.int .i64 p] 3)).heap.size = W1.heap.size + 2 by simp)
    have l1 := Lib.hid G1.a.lt
    have l2 := Lib.hid G1.k.lt
    have l3 := Lib.hid G1.v.lt
    have l4 := Lib.hid G1.g.lt
    have hsW := Lib.hid A1.size
    clear r0 r1 r2 r3 r4 NB1 NB X2 G1 A1
    gi_wp2
    generalize (W1.alloc _).alloc _ = W2 at *
    have HB := Lib.hid (fun N W (hN : N < 65536) (q : Int) (q1 : 0 ≤ q) (q2 : q ≤ 15) => callsIn_wide (n := 0).2 (has_bit N q W hN q1 q2))
    refine wp_iterT (gf := 115) (lb := #[.pointer (some ⟨W1.heap.size, 0, none⟩), .pointer (some ⟨W1.heap.size + 1, 0, none⟩)]) rfl eg115 (nbr_iter r p W1.heap.size (W1.heap.size + 1) W2 ok p1 p2 bk2 bp2) (fun k h => by have := HZ2.out; omega) (fun _ => rfl)
      (fun k => k = bR) (fun k h => by have := HZ2.out; have := l1.out; exact ⟨fun e => by omega, fun e => by unfold Rng at e; omega⟩)
      (fun pre A => RS r lv bR bK bV bG A (pre.foldl (stepR r lv f) D) ∧ Alt (fun k => k = bR) W A)
      (fun pre x a1 A => (RS r lv bR bK bV bG A (pre.foldl (stepR r lv f) D) ∧ Alt (fun k => k = bR) W A) ∧ a1 = { tmps := #[.int .i64 p, .pointer (some ⟨bR, 0, none⟩), .pointer (some ⟨bK, 0, none⟩), .pointer (some ⟨bV, 0, none⟩), .pointer (some ⟨bG, 0, none⟩), undef, .int .i64 x, .int .u16 (R : Nat), .int .i64 p, .int .u16 (IntKind.u16.wrap (2 ^ p.toNat)), .int .u16 (D : Nat), .agg #[.int .i64 r.rows, .int .i64 r.mid, .int .i64 r.gap, .int .i64 r.reach, .slice r.la r.ls.length r.lc], .int .i64 p, .func (.func 115) #[] #[.pointer (some ⟨W1.heap.size, 0, none⟩), .pointer (some ⟨W1.heap.size + 1, 0, none⟩)], .int .i64 x, undef, undef, undef, undef, undef, undef, undef, undef, undef, undef, undef, undef], defers := [] })
      (fun pre A B h hAB => ?stI) (fun pre x a A B h hAB => ?stM) ⟨G2, A2⟩ ?assign ?body ?done
    case stI =>
      have z1 := l1.out; have z2 := l2.out; have z3 := l3.out; have z4 := l4.out; have z5 := HZ2.out; have z6 := hsW.out
      exact ⟨h.1.far hAB (fun e => by unfold Rng at e; omega) (fun e => by unfold Rng at e; omega) (fun e => by unfold Rng at e; omega) (fun e => by unfold Rng at e; omega), h.2.trans2 hAB (fun k hk e => by unfold Rng at e; omega)⟩
    case stM =>
      have z1 := l1.out; have z2 := l2.out; have z3 := l3.out; have z4 := l4.out; have z5 := HZ2.out; have z6 := hsW.out
      obtain ⟨h, e⟩ := h
      exact ⟨⟨h.1.far hAB (fun e => by unfold Rng at e; omega) (fun e => by unfold Rng at e; omega) (fun e => by unfold Rng at e; omega) (fun e => by unfold Rng at e; omega), h.2.trans2 hAB (fun k hk e => by unfold Rng at e; omega)⟩, e⟩
    case assign =>
      intro l pre x post A hx hz hl hr h
      clear hx hl
      gi_wp2
      exact ⟨Alt.refl _ _, h, by first | trivial | rfl⟩
    case body =>
      rintro l pre x post a1 A hx hzA hl' hr ⟨⟨h1, h3⟩, rfl⟩
      have hmem : x ∈ nbrs r p := by rw [hx]; simp
      have hxb := nbrs_bd hmem
      have hx15 : x ≤ 15 := by have := (@pinsN_bd r).2; omega
      have hts := Lib.hid (fold_take_snoc (stepR r lv f) D pre x)
      have hMs : Sub D (pre.foldl (stepR r lv f) D) := fold_inv (fun M => Sub D M) (stepR r lv f) pre D (Sub.refl _) fun M q _ h => by
        unfold stepR; split
        · exact h.trans ((or_sub _ _).trans (reachF_le r lv f q M))
        · exact h
      have hM16 : pre.foldl (stepR r lv f) D < 65536 := fold_inv (fun M => M < 65536) (stepR r lv f) pre D hD fun M q hq h => by
        have hq' : q ∈ nbrs r p := by rw [hx]; simp [hq]
        have := nbrs_bd hq'; have := (@pinsN_bd r).2
        unfold stepR; split
        · exact reachF_lt r lv f q M (by omega) (by omega) h
        · exact h
      generalize pre.foldl (stepR r lv f) D = M at *
      have hMf : (els (dif lv M)).length ≤ f := Nat.le_trans (size_mono fun i hi => by
        rw [dif_bit] at hi ⊢
        cases hx' : lv.testBit i
        · rw [hx'] at hi; cases hi
        · cases hy : D.testBit i
          · rfl
          · rw [hMs i hy] at hi; simp at hi) hDs
      have HB1 := Lib.hid (HB.out lv A hlv x hxb.1 hx15)
      have HB2 := Lib.hid (HB.out M A hM16 x hxb.1 hx15)
      have c1 := h1.a.cell
      have c3 := h1.v.cell
      have c4 := h1.g.cell
      have H1 := Lib.hid h1
      clear hx hl' HB bk2 bp2 G2 A2 hMs
      gi_wp2
      refine ⟨trivial, rfl, ?_⟩
      refine (CallsIn.inRound l HB1.out).mono ?_
      rintro e w1 ⟨rfl, rfl⟩
      cases hq : lv.testBit x.toNat
      · have hts2 := Lib.hid (show _ = M from hts.out.trans (by unfold stepR; rw [if_neg (by rw [hq]; simp)]))
        clear hq
        gi_wp2
        refine ⟨trivial, ?_⟩
        gi_wp2
        exact ⟨Alt.refl _ _, by rw [hts2.out]; exact H1.out, h3⟩
      · gi_wp2
        refine ⟨trivial, rfl, ?_⟩
        refine (CallsIn.inRound l HB2.out).mono ?_
        rintro e w1 ⟨rfl, rfl⟩
        cases hq2 : M.testBit x.toNat
        · have hts2 := Lib.hid (show _ = reachF r lv f x M from hts.out.trans (by unfold stepR; rw [if_pos ⟨hq, hq2⟩]))
          have FX := Lib.hid (callsIn_wide (n := 0).2 (IH.out x M A hxb.1 hxb.2 hM16 hMf hq hq2 H1.out))
          clear hq hq2
          gi_wp2
          refine ⟨trivial, rfl, ?_⟩
          refine (CallsIn.inRound l FX.out).mono ?_
          rintro e w2 ⟨rfl, h5, a5⟩
          have F7 := Lib.hid (H1.out.go hb a5 h5)
          have A5 := Lib.hid a5
          have A7 := Lib.hid (h3.trans a5)
          clear h5 a5 c1 c3 c4
          gi_wp2
          exact ⟨A5.out, by rw [hts2.out]; exact F7.out, A7.out⟩
        · have hts2 := Lib.hid (show _ = M from hts.out.trans (by unfold stepR; rw [if_neg (by rw [hq2]; simp)]))
          clear hq hq2
          gi_wp2
          exact ⟨Alt.refl _ _, by rw [hts2.out]; exact H1.out, h3⟩
    case done =>
      rintro B ⟨h1, h3⟩ hzB hK'
      have z5 := HZ2.out; have z6 := hsW.out; have z1 := l1.out
      have HR := Lib.hid hfs.out
      have BB := Lib.hid (Boxed.alt h1.a (Alt.put (p := fun k => k = W2.heap.size) rfl (.deferred none)) (by omega))
      have AA := Lib.hid (h3.trans2 (Alt.put (p := fun k => k = W2.heap.size) rfl (.deferred none)) (fun k hk e => by omega))
      clear z5 z6 z1 hfs
      gi_wp2
      show bodyPostM Fence.wide 0 Tryd.prog Tryd.f105 _ Exit.ret _ _
      refine leave_ret hK' (results_none rfl _ _ _) ⟨rfl, by rw [HR.out]; exact BB.out, AA.out⟩

end Go.Proofs.YtaloffdkadhhnaaDoor

namespace Go.Proofs.YtaloffdkadhhnaaDoor
open Go.RowKit Go.Shelf

attribute [local go_sem] Oper.semAt_some

def pieceN (r : Rk) (lv : Nat) : Nat := reachF r lv 16 (Lib.ctz 16 lv : Nat) 0
def pieceB (r : Rk) (lv : Nat) : Bool := decide (pieceN r lv = lv)

set_option maxRecDepth 100000 in
set_option maxHeartbeats 4000000 in
theorem piece_any (r : Rk) (lv : Nat) (w : World) (ok : r.Ok) (hlv : lv < 65536) (h0 : lv ≠ 0) (hp : ∀ x ∈ els lv, x < pinsN r.rows) (hTab : TabOK w) :
    Calls Tryd.prog 90 #[r.val, .int .u16 (lv : Nat)] w fun e w' => e = .returned (.bool (pieceB r lv)) ∧ Below w.heap.size w w' := by
  have tb := tz_bit h0 hlv
  have hct : ((Lib.ctz 16 lv : Nat) : Int) ∈ els lv := (mem_els _ _).2 ⟨by omega, by omega, by simpa using tb.2.1⟩
  have hpc := hp _ hct
  have RA := Lib.hid (fun bR bK bV bG hb W => reach_any r lv bR bK bV bG ok hb hlv 16 (Lib.ctz 16 lv : Nat) 0 W (by omega) hpc (by omega) (by have := @els_len (dif lv 0); omega) (by simpa using tb.2.1) (by simp))
  have FI := Lib.hid (fun W (hT : TabOK W) => first_any lv W h0 hlv hT)
  have HP : Hid (pieceB r lv = decide (pieceN r lv = lv)) := Lib.hid rfl
  have HN : Hid (pieceN r lv = reachF r lv 16 (Lib.ctz 16 lv : Nat) 0) := Lib.hid rfl
  obtain ⟨V, hV⟩ : ∃ V, Hid (V = r.val) := ⟨_, Lib.hid rfl⟩
  obtain ⟨C, hC⟩ : ∃ C, Hid (C = (Lib.ctz 16 lv : Nat)) := ⟨_, Lib.hid rfl⟩
  rw [← hC.out] at FI RA HN
  rw [← hV.out]
  generalize pieceB r lv = PB at *
  generalize pieceN r lv = PN at *
  clear hct hpc tb hp h0 hC
  have B0 : Below w.heap.size w ((((w.alloc (.cells (rCells r) 32)).alloc (.cells #[.int .u16 (lv : Nat)] 100)).alloc (.cells #[.int .u16 0] 100)).alloc (.cells #[.func (.func 105) #[] #[.pointer (some ⟨w.heap.size + 1 + 1, 0, none⟩), .pointer (some ⟨w.heap.size, 0, none⟩), .pointer (some ⟨w.heap.size + 1, 0, none⟩), .pointer (some ⟨w.heap.size + 1 + 1 + 1, 0, none⟩)]] 156)) := below_al2 (below_al2 (below_al2 (below_al w _) _) _) _
  have bK : Blk ((((w.alloc (.cells (rCells r) 32)).alloc (.cells #[.int .u16 (lv : Nat)] 100)).alloc (.cells #[.int .u16 0] 100)).alloc (.cells #[.func (.func 105) #[] #[.pointer (some ⟨w.heap.size + 1 + 1, 0, none⟩), .pointer (some ⟨w.heap.size, 0, none⟩), .pointer (some ⟨w.heap.size + 1, 0, none⟩), .pointer (some ⟨w.heap.size + 1 + 1 + 1, 0, none⟩)]] 156)) w.heap.size (rCells r) 32 :=
    Blk.alt (p := fun _ => False) (Blk.new w _ _) ((((Alt.refl _ _).alloc _).alloc _).alloc _) id
  have bV : Boxed ((((w.alloc (.cells (rCells r) 32)).alloc (.cells #[.int .u16 (lv : Nat)] 100)).alloc (.cells #[.int .u16 0] 100)).alloc (.cells #[.func (.func 105) #[] #[.pointer (some ⟨w.heap.size + 1 + 1, 0, none⟩), .pointer (some ⟨w.heap.size, 0, none⟩), .pointer (some ⟨w.heap.size + 1, 0, none⟩), .pointer (some ⟨w.heap.size + 1 + 1 + 1, 0, none⟩)]] 156)) (w.heap.size + 1) 100 (.int .u16 (lv : Nat)) := by
    have := ((Boxed.new (w.alloc (.cells (rCells r) 32)) 100 (.int .u16 (lv : Nat))).alloc (.cells #[.int .u16 0] 100)).alloc (.cells #[.func (.func 105) #[] #[.pointer (some ⟨w.heap.size + 1 + 1, 0, none⟩), .pointer (some ⟨w.heap.size, 0, none⟩), .pointer (some ⟨w.heap.size + 1, 0, none⟩), .pointer (some ⟨w.heap.size + 1 + 1 + 1, 0, none⟩)]] 156)
    rwa [World.size_alloc] at this
  have bR : Boxed ((((w.alloc (.cells (rCells r) 32)).alloc (.cells #[.int .u16 (lv : Nat)] 100)).alloc (.cells #[.int .u16 0] 100)).alloc (.cells #[.func (.func 105) #[] #[.pointer (some ⟨w.heap.size + 1 + 1, 0, none⟩), .pointer (some ⟨w.heap.size, 0, none⟩), .pointer (some ⟨w.heap.size + 1, 0, none⟩), .pointer (some ⟨w.heap.size + 1 + 1 + 1, 0, none⟩)]] 156)) (w.heap.size + 1 + 1) 100 (.int .u16 0) := by
    have := (Boxed.new ((w.alloc (.cells (rCells r) 32)).alloc (.cells #[.int .u16 (lv : Nat)] 100)) 100 (.int .u16 0)).alloc (.cells #[.func (.func 105) #[] #[.pointer (some ⟨w.heap.size + 1 + 1, 0, none⟩), .pointer (some ⟨w.heap.size, 0, none⟩), .pointer (some ⟨w.heap.size + 1, 0, none⟩), .pointer (some ⟨w.heap.size + 1 + 1 + 1, 0, none⟩)]] 156)
    rwa [World.size_alloc, World.size_alloc] at this
  have bG : Boxed ((((w.alloc (.cells (rCells r) 32)).alloc (.cells #[.int .u16 (lv : Nat)] 100)).alloc (.cells #[.int .u16 0] 100)).alloc (.cells #[.func (.func 105) #[] #[.pointer (some ⟨w.heap.size + 1 + 1, 0, none⟩), .pointer (some ⟨w.heap.size, 0, none⟩), .pointer (some ⟨w.heap.size + 1, 0, none⟩), .pointer (some ⟨w.heap.size + 1 + 1 + 1, 0, none⟩)]] 156)) (w.heap.size + 1 + 1 + 1) 156 (.func (.func 105) #[] #[.pointer (some ⟨w.heap.size + 1 + 1, 0, none⟩), .pointer (some ⟨w.heap.size, 0, none⟩), .pointer (some ⟨w.heap.size + 1, 0, none⟩), .pointer (some ⟨w.heap.size + 1 + 1 + 1, 0, none⟩)]) := by
    have := Boxed.new (((w.alloc (.cells (rCells r) 32)).alloc (.cells #[.int .u16 (lv : Nat)] 100)).alloc (.cells #[.int .u16 0] 100)) 156 (.func (.func 105) #[] #[.pointer (some ⟨w.heap.size + 1 + 1, 0, none⟩), .pointer (some ⟨w.heap.size, 0, none⟩), .pointer (some ⟨w.heap.size + 1, 0, none⟩), .pointer (some ⟨w.heap.size + 1 + 1 + 1, 0, none⟩)])
    rwa [World.size_alloc, World.size_alloc, World.size_alloc] at this
  have hz : ((((w.alloc (.cells (rCells r) 32)).alloc (.cells #[.int .u16 (lv : Nat)] 100)).alloc (.cells #[.int .u16 0] 100)).alloc (.cells #[.func (.func 105) #[] #[.pointer (some ⟨w.heap.size + 1 + 1, 0, none⟩), .pointer (some ⟨w.heap.size, 0, none⟩), .pointer (some ⟨w.heap.size + 1, 0, none⟩), .pointer (some ⟨w.heap.size + 1 + 1 + 1, 0, none⟩)]] 156)).heap.size = w.heap.size + 4 := by simp
  have BB := Lib.hid B0
  have HT := Lib.hid hTab
  have HZ := Lib.hid hz
  have hS := Lib.hid (show RS r lv (w.heap.size + 1 + 1) w.heap.size (w.heap.size + 1) (w.heap.size + 1 + 1 + 1) _ 0 from ⟨bR, bK, bV, bG⟩)
  clear B0 bK bV bR bG hz hTab
  unfold rCells at BB HZ hS
  rw [hV.out]
  unfold Rk.val
  clear hV
  go_enter Tryd.func90, Tryd.ntmps90
  go_wp2_with fail
  generalize (((w.alloc _).alloc _).alloc _).alloc _ = W0 at *
  have cG := hS.out.g.cell
  have cV := hS.out.v.cell
  have HTD : Hid (TabOK W0.drew) := Lib.hid ((HT.out.lo BB.out).alt (Alt.refl (fun _ => False) W0).drew id)
  clear HT hlv ok
  refine wp_region_still_tail 3 (by kernel_rfl) (by kernel_rfl) ?_
  simp only [List.take_succ_cons, List.take_zero, List.drop_succ_cons, List.drop_zero]
  still_step
  still_step
  still_call ((FI.out W0.drew HTD.out).mono fun e w h => ⟨h.1, h.2.symm⟩)
  refine wpStill_nil ?_
  have HS1 : Hid (RS r lv (w.heap.size + 1 + 1) w.heap.size (w.heap.size + 1) (w.heap.size + 1 + 1 + 1) W0.drew 0) := Lib.hid (hS.out.far (Alt.refl (fun _ => False) W0).drew id id id id)
  have FX := Lib.hid (RA.out _ _ _ _ ⟨by omega, by omega, by omega⟩ _ HS1.out)
  go_wp2_with fail
  refine FX.out.mono ?_
  rintro e W1 ⟨rfl, b1, a1⟩
  rw [← HN.out] at b1
  have B1 := Lib.hid (((Alt.of_below (p := fun k => w.heap.size ≤ k) BB.out (fun k _ h => h)).trans (((Alt.refl _ W0).drew).trans (a1.mono fun k _ e => by omega))).below (Nat.le_refl _) (fun k h => h))
  have HE : Hid (((PN : Int) == (lv : Int)) = PB) := Lib.hid (by rw [HP.out, Bool.eq_iff_iff]; simp only [beq_iff_eq, decide_eq_true_eq]; omega)
  have cR1 := b1.cell
  have cV1 := (Boxed.alt HS1.out.v a1 (by omega)).cell
  clear b1 a1 cG cV
  go_wp2_with fail
  go_ret
  exact ⟨congrArg (fun b => Ending.returned (.bool b)) HE.out, B1.out⟩

end Go.Proofs.YtaloffdkadhhnaaDoor

namespace Go.Proofs.YtaloffdkadhhnaaDoor
open Go.RowKit Go.Shelf

attribute [local go_sem] Oper.semAt_some

def kindN (r : Rk) (lv : Nat) : Int := if lv = 0 then 0 else if sizeN lv = 1 then 1 else if pieceB r lv then 2 else if lv.testBit 0 then 4 else 3

set_option maxRecDepth 100000 in
set_option maxHeartbeats 4000000 in
theorem kind_any (r : Rk) (lv : Nat) (w : World) (ok : r.Ok) (hlv : lv < 65536) (hp : ∀ x ∈ els lv, x < pinsN r.rows) (hTab : TabOK w) :
    Calls Tryd.prog 56 #[r.val, .int .u16 (lv : Nat)] w fun e w' => e = .returned (.int .u8 (kindN r lv)) ∧ Below w.heap.size w w' := by
  have SZ := Lib.hid (fun W => size_any lv W hlv)
  have PI := Lib.hid (fun (h0 : lv ≠ 0) W (hb : Below w.heap.size w W) => piece_any r lv W ok hlv h0 hp (hTab.lo hb))
  have HB := Lib.hid (fun W => has_bit lv 0 W hlv (by omega) (by omega))
  have HK : Hid (kindN r lv = if lv = 0 then 0 else if sizeN lv = 1 then 1 else if pieceB r lv then 2 else if lv.testBit 0 then 4 else 3) := Lib.hid rfl
  generalize kindN r lv = RES at *
  generalize pieceB r lv = PB at *
  generalize sizeN lv = SN at *
  simp only [Int.toNat_zero] at HB
  generalize lv.testBit 0 = TB at *
  obtain ⟨V, hV⟩ : ∃ V, Hid (V = r.val) := ⟨_, Lib.hid rfl⟩
  have B0 := Lib.hid (below_al w (.cells (rCells r) 32))
  have C0 := Lib.hid (fun i v (h : (rCells r)[i]? = some v) => new_cell w (t := 32) h)
  have Z0 := Lib.hid (show w.heap.size < (w.alloc (.cells (rCells r) 32)).heap.size by simp)
  unfold rCells at B0 C0 Z0
  unfold Rk.val at PI ⊢
  clear hTab hp hlv ok hV
  go_enter Tryd.func56, Tryd.ntmps56
  by_cases h0 : lv = 0
  · have HR := Lib.hid (show RES = 0 by rw [HK.out, if_pos h0])
    have hz : ((lv : Int) == 0) = true := by subst h0; rfl
    clear h0
    go_wp2_with fail
    refine bodyPost_ret (results_tmp rfl _ _ _) rfl ?_
    exact ⟨by rw [HR.out]; rfl, B0.out⟩
  · have hz : ((lv : Int) == 0) = false := by simpa using h0
    have H0 := Lib.hid h0
    clear h0
    go_wp2_with fail
    refine (SZ.out _).mono ?_
    rintro e w1 ⟨rfl, n, rfl⟩
    have B1 := Lib.hid (Below.drewN' B0.out n)
    have k0 : ((w.alloc (.cells #[.int .i64 r.rows, .int .i64 r.mid, .int .i64 r.gap, .int .i64 r.reach, .slice r.la r.ls.length r.lc] 32)).drewN n).cell? ⟨w.heap.size, 0, none⟩ = some (.int .i64 r.rows) := C0.out 0 _ rfl
    have k1 : ((w.alloc (.cells #[.int .i64 r.rows, .int .i64 r.mid, .int .i64 r.gap, .int .i64 r.reach, .slice r.la r.ls.length r.lc] 32)).drewN n).cell? ⟨w.heap.size, 1, none⟩ = some (.int .i64 r.mid) := C0.out 1 _ rfl
    have k2 : ((w.alloc (.cells #[.int .i64 r.rows, .int .i64 r.mid, .int .i64 r.gap, .int .i64 r.reach, .slice r.la r.ls.length r.lc] 32)).drewN n).cell? ⟨w.heap.size, 2, none⟩ = some (.int .i64 r.gap) := C0.out 2 _ rfl
    have k3 : ((w.alloc (.cells #[.int .i64 r.rows, .int .i64 r.mid, .int .i64 r.gap, .int .i64 r.reach, .slice r.la r.ls.length r.lc] 32)).drewN n).cell? ⟨w.heap.size, 3, none⟩ = some (.int .i64 r.reach) := C0.out 3 _ rfl
    have k4 : ((w.alloc (.cells #[.int .i64 r.rows, .int .i64 r.mid, .int .i64 r.gap, .int .i64 r.reach, .slice r.la r.ls.length r.lc] 32)).drewN n).cell? ⟨w.heap.size, 4, none⟩ = some (.slice r.la r.ls.length r.lc) := C0.out 4 _ rfl
    generalize (w.alloc _).drewN n = W1 at *
    by_cases h1 : SN = 1
    · have HR := Lib.hid (show RES = 1 by rw [HK.out, if_neg H0.out, if_pos h1])
      have hs : ((SN : Int) == 1) = true := by subst h1; rfl
      clear h1
      go_wp2_with fail
      refine bodyPost_ret (results_tmp rfl _ _ _) rfl ?_
      exact ⟨by rw [HR.out]; rfl, B1.out⟩
    · have hs : ((SN : Int) == 1) = false := by simp; omega
      have H1 := Lib.hid h1
      clear h1
      go_wp2_with fail
      refine (PI.out H0.out _ B1.out).mono ?_
      rintro e w2 ⟨rfl, hb⟩
      have B2 := Lib.hid (below_go B1.out hb)
      clear hb k0 k1 k2 k3 k4
      cases PB
      · go_wp2_with fail
        refine (HB.out _).mono ?_
        rintro e w3 ⟨rfl, rfl⟩
        cases TB
        · have HR := Lib.hid (show RES = 3 by rw [HK.out, if_neg H0.out, if_neg H1.out]; rfl)
          go_wp2_with fail
          refine bodyPost_ret (results_tmp rfl _ _ _) rfl ?_
          exact ⟨by rw [HR.out]; rfl, B2.out⟩
        · have HR := Lib.hid (show RES = 4 by rw [HK.out, if_neg H0.out, if_neg H1.out]; rfl)
          go_wp2_with fail
          refine bodyPost_ret (results_tmp rfl _ _ _) rfl ?_
          exact ⟨by rw [HR.out]; rfl, B2.out⟩
      · have HR := Lib.hid (show RES = 2 by rw [HK.out, if_neg H0.out, if_neg H1.out]; rfl)
        go_wp2_with fail
        refine bodyPost_ret (results_tmp rfl _ _ _) rfl ?_
        exact ⟨by rw [HR.out]; rfl, B2.out⟩

end Go.Proofs.YtaloffdkadhhnaaDoor

namespace Go.Proofs.YtaloffdkadhhnaaDoor
open Go.RowKit Go.Shelf

attribute [local go_sem] Oper.semAt_some

def kndN (r : Rk) (xs : List Int) : Int := if chkE r xs = 0 then kindN r (setN xs) else 0

set_option maxRecDepth 100000 in
set_option maxHeartbeats 4000000 in
theorem Kind_any (r : Rk) (xs : List Int) (a : Option Addr) (c : Nat) (w : World) (hL : LinksAt w r.la r.ls) (hn : r.ls.length ≤ 1000) (hX : IntsAt w a xs) (hm : xs.length ≤ 1000) (hT : TabOK w) :
    Calls Tryd.prog 19 #[r.val, .slice a xs.length c] w fun e w' => e = .returned (.tuple #[.int .u8 (kndN r xs), .int .i64 (chkE r xs)]) ∧ Below w.heap.size w w' := by
  have CR := Lib.hid (fun W (hb : Below w.heap.size w W) => check_any r xs a c W (hL.lo hb) hn (hX.lo hb) hm)
  have HR : Hid (kndN r xs = if chkE r xs = 0 then kindN r (setN xs) else 0) := Lib.hid rfl
  have hNc : chkN r xs = if chkE r xs = 0 then setN xs else 0 := rfl
  generalize kndN r xs = RES at *
  have B0 := Lib.hid (below_al w (.cells (rCells r) 32))
  have R0 : Hid (Blk (w.alloc (.cells (rCells r) 32)) w.heap.size (rCells r) 32) := Lib.hid (Blk.new w _ _)
  by_cases hE : chkE r xs = 0
  · have hfl := (chk_ok hE).1
    obtain ⟨hs1, hs2, _⟩ := chk_set hE
    have hok := (faultN_ok hfl).1
    rw [if_pos hE] at hNc
    rw [hNc, hE] at CR
    rw [hE]
    have HR2 : Hid (RES = kindN r (setN xs)) := Lib.hid (by rw [HR.out, if_pos hE])
    have KI := Lib.hid (fun W (hb : Below w.heap.size w W) => kind_any r (setN xs) W hok hs1 hs2 (hT.lo hb))
    clear HR hNc hE hfl hok hL hX hm hT hs2
    generalize kindN r (setN xs) = KN at *
    generalize setN xs = St at *
    unfold rCells at B0 R0
    unfold Rk.val at CR KI
    unfold Rk.val
    go_enter Tryd.func19, Tryd.ntmps19
    go_wp2_with fail
    refine (CR.out _ B0.out).mono ?_
    rintro e w1 ⟨rfl, hb⟩
    have B1 := Lib.hid (below_go B0.out hb)
    have R1 := Lib.hid (Blk.alt R0.out (Alt.of_below (p := fun _ => False) hb (fun k hk h => by omega)) id)
    clear hb R0 CR
    have r0 : w1.cell? ⟨w.heap.size, 0, none⟩ = some (.int .i64 r.rows) := R1.out.cell 0 rfl
    have r1 : w1.cell? ⟨w.heap.size, 1, none⟩ = some (.int .i64 r.mid) := R1.out.cell 1 rfl
    have r2 : w1.cell? ⟨w.heap.size, 2, none⟩ = some (.int .i64 r.gap) := R1.out.cell 2 rfl
    have r3 : w1.cell? ⟨w.heap.size, 3, none⟩ = some (.int .i64 r.reach) := R1.out.cell 3 rfl
    have r4 : w1.cell? ⟨w.heap.size, 4, none⟩ = some (.slice r.la r.ls.length r.lc) := R1.out.cell 4 rfl
    go_wp2_with fail
    refine (KI.out _ B1.out).mono ?_
    rintro e w2 ⟨rfl, hb⟩
    have B2 := Lib.hid (below_go B1.out hb)
    clear hb r0 r1 r2 r3 r4
    go_wp2_with fail
    refine bodyPost_ret (v := .tuple #[.int .u8 KN, .int .i64 0]) (by simp [results, Tryd.results19, go_sem]) rfl ⟨by rw [HR2.out], B2.out⟩
  · have hE' : (chkE r xs == 0) = false := by simpa using hE
    have HR2 := Lib.hid (show RES = 0 from by rw [HR.out, if_neg hE])
    rw [if_neg hE] at hNc
    rw [hNc] at CR
    generalize chkE r xs = E at *
    clear HR hNc hE hL hX hm hT
    unfold rCells at B0 R0
    unfold Rk.val at CR
    unfold Rk.val
    go_enter Tryd.func19, Tryd.ntmps19
    go_wp2_with fail
    refine (CR.out _ B0.out).mono ?_
    rintro e w1 ⟨rfl, hb⟩
    have B1 := Lib.hid (below_go B0.out hb)
    clear hb R0 CR
    go_wp2_with fail
    refine bodyPost_ret (v := .tuple #[.int .u8 0, .int .i64 E]) (by simp [results, Tryd.results19, go_sem]) rfl ⟨by rw [HR2.out], B1.out⟩

end Go.Proofs.YtaloffdkadhhnaaDoor
