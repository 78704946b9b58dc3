/- The iterator over a pin's neighbours. -/
import Derived.Test.YtaloffdkadhhnaaDoorCw
import Derived.Test.YtaloffdkadhhnaaDoorIu
set_option linter.unusedVariables false
set_option linter.unusedSimpArgs false
namespace Go.Proofs.YtaloffdkadhhnaaDoor
open Go.RowKit Go.Shelf

attribute [local go_sem] Oper.semAt_some

set_option maxHeartbeats 1000000 in
theorem place_sz (r : Rk) (p : Int) (w : World) (ok : r.Ok) (p1 : 0 ≤ p) (p2 : p < pinsN r.rows) :
    Calls Tryd.prog 116 #[r.val, .int .i64 p] w fun e w' => e = .returned (plcV r p) ∧ Below w.heap.size w w' ∧ w'.heap.size = w.heap.size + 2 := by
  have hp9 : p ≤ 9 := by have : pinsN r.rows ≤ 10 := by (unfold pinsN; split <;> (try split) <;> (try split) <;> omega)
                         omega
  have hbd := boardN_bd ok p1 hp9
  have hpn : ∀ i : Int, 0 ≤ i → i ≤ r.rows → tri i ≤ p → i < r.rows := fun i h0 h1 h2 => by
    have : i ≠ r.rows := fun e => by
      have a := ok.r1; have b := ok.r2
      subst e
      unfold tri at h2; unfold pinsN at p2
      have : r.rows = 1 ∨ r.rows = 2 ∨ r.rows = 3 ∨ r.rows = 4 := by omega
      rcases this with e | e | e | e <;> simp [e] at h2 p2 <;> omega
    omega
  have hres : ∀ i : Int, 0 ≤ i → i ≤ 3 → tri i ≤ p → p - tri i ≤ i → plcV r p = .agg #[.int .i64 i, .int .i64 (r.mid + r.gap * (2 * (p - tri i) - i))] := fun i h0 h1 h2 h3 => by
    have : i = 0 ∨ i = 1 ∨ i = 2 ∨ i = 3 := by omega
    have e : rowN p = i ∧ kN p = p - tri i := by
      unfold rowN kN tri at *
      clear hpn
      rcases this with rfl | rfl | rfl | rfl <;> simp at h2 h3 ⊢ <;> constructor <;> (repeat' split) <;> omega
    unfold plcV boardN
    rw [e.1, e.2]
  have htr : ∀ i : Int, 0 ≤ i → i ≤ 3 → tri (i + 1) = tri i + (i + 1) := fun i h0 h1 => by
    have : i = 0 ∨ i = 1 ∨ i = 2 ∨ i = 3 := by omega
    rcases this with rfl | rfl | rfl | rfl <;> rfl
  obtain ⟨r1, r2, m1, m2, g1, g2, c1, c2⟩ := ok
  have HR := Lib.hid hres
  have HP := Lib.hid hpn
  have HT := Lib.hid htr
  clear hres hpn htr hbd p2
  generalize plcV r p = V at *
  obtain ⟨rows, mid, gap, reach, la, lc, ls⟩ := r
  unfold Rk.val
  simp only at *
  go_enter Tryd.func116, Tryd.ntmps116
  go_wp2_with fail
  go_loop [5, 6, 10] (fun k s6 i => ∃ j : Int, 0 ≤ j ∧ j ≤ rows ∧ i = .int .i64 j ∧ Hid (tri j ≤ p) ∧ k = .int .i64 (p - tri j) ∧ (0 ≤ tri j ∧ tri j ≤ 10)) (fun _ _ i => (rows - intOf i).toNat)
  case atStart => exact ⟨0, by omega, by omega, rfl, Lib.hid p1, by simp [tri], by simp [tri]⟩
  case round =>
    obtain ⟨j, j1, j2, rfl, ht, rfl, ht1, ht2⟩ := hrel
    have hj := HP.out j j1 j2 ht.out
    have ht' := ht.out
    have HT1 := Lib.hid (HT.out j j1 (by omega))
    by_cases hk : p - tri j ≤ j
    · have hV := Lib.hid (HR.out j j1 (by omega) ht.out hk)
      have hg := gap_bd g1 g2 (x := 2 * (p - tri j) - j) (by omega) (by omega)
      generalize tri j = T at *
      go_wp2_with fail
      refine bodyPost_ret (v := V) (by rw [hV.out]; simp [results, Tryd.results116, go_sem]) rfl ⟨rfl, ?_⟩
      exact ⟨below_al2 (below_al _ _) _, by simp⟩
    · have hk' : j < p - tri j := by omega
      go_wp2_with fail
      go_round
      case rel => exact ⟨j + 1, by omega, by omega, by go_num, Lib.hid (by rw [HT1.out]; omega), by rw [HT1.out]; go_num, by rw [HT1.out]; omega⟩
      case measure => simp [intOf]; omega

/-- Does the second pin stand next to the first one? -/
def nextB (r : Rk) (p q : Int) : Bool := besB r.gap (rowN p) (boardN r p) (rowN q) (boardN r q)
def pinL (r : Rk) : List Int := (List.range (pinsN r.rows).toNat).map fun (n : Nat) => (n : Int)
def nbrs (r : Rk) (p : Int) : List Int := (pinL r).filter (nextB r p)

theorem pinL_take (r : Rk) {i : Nat} (h : i < (pinsN r.rows).toNat) : (pinL r).take (i + 1) = (pinL r).take i ++ [(i : Int)] ∧ (pinL r).drop i = (i : Int) :: (pinL r).drop (i + 1) := by
  have hlen : i < (pinL r).length := by unfold pinL; simpa using h
  have e0 : (pinL r)[i]? = some (i : Int) := by unfold pinL; rw [List.getElem?_map, List.getElem?_range h]; rfl
  have e : (pinL r)[i] = (i : Int) := by rw [List.getElem?_eq_getElem hlen] at e0; exact Option.some.inj e0
  constructor
  · rw [List.take_add_one, List.getElem?_eq_getElem hlen, e]; rfl
  · rw [List.drop_eq_getElem_cons hlen, e]

set_option maxHeartbeats 400000 in
theorem neighbours_any (r : Rk) (p : Int) (w : World) :
    Calls Tryd.prog 106 #[r.val, .int .i64 p] w fun e w' => e = .returned (.func (.func 115) #[] #[.pointer (some ⟨w.heap.size, 0, none⟩), .pointer (some ⟨w.heap.size + 1, 0, none⟩)]) ∧ w' = (w.alloc (.cells (rCells r) 32)).alloc (.cells #[.int .i64 p] 3) := by
  unfold Rk.val rCells
  go_enter Tryd.func106, Tryd.ntmps106
  go_wp2_with fail
  go_ret
  exact ⟨rfl, rfl⟩

set_option maxRecDepth 100000 in
set_option maxHeartbeats 8000000 in
theorem nbr_iter (r : Rk) (p : Int) (rB pB : Nat) (w : World) (ok : r.Ok) (p1 : 0 ≤ p) (p2 : p < pinsN r.rows) (hR : Blk w rB (rCells r) 32) (hP : Boxed w pB 3 (.int .i64 p)) :
    IterT Tryd.prog 115 #[.pointer (some ⟨rB, 0, none⟩), .pointer (some ⟨pB, 0, none⟩)] (fun x : Int => #[Value.int .i64 x]) (nbrs r p) 3 (fun k => k = rB ∨ k = pB) w := by
  intro l J W hW hJ hY h0
  have hRW := Blk.alt hR hW (by simp)
  have hPW := Boxed.alt hP hW (by simp)
  clear hR hP hW
  have PS := Lib.hid (fun W => callsIn_wide (n := 0).2 (place_sz r p W ok p1 p2))
  have PL := Lib.hid (fun q W q1 q2 => place_any r q W ok q1 q2)
  have PN := Lib.hid (fun W => callsIn_wide (n := 0).2 (pins_any r W ok.r1 ok.r2))
  have hp9 : p ≤ 9 := by have := (@pinsN_bd r).2; omega
  have hb0 := boardN_bd ok p1 hp9
  have hr0 := rowN_bd p1 hp9
  have BS := Lib.hid (fun (q : Int) (W : World) (q1 : 0 ≤ q) (q2 : q < pinsN r.rows) => by
    have hq9 : q ≤ 9 := by have := (@pinsN_bd r).2; omega
    have hbq := boardN_bd ok q1 hq9
    have hrq := rowN_bd q1 hq9
    exact beside_any r (rowN p) (boardN r p) (rowN q) (boardN r q) W ok.g1 ok.g2 hr0.1 hr0.2.1 hrq.1 hrq.2.1 hb0.1 hb0.2 hbq.1 hbq.2)
  have HNB := Lib.hid (show ∀ q, nextB r p q = besB r.gap (rowN p) (boardN r p) (rowN q) (boardN r q) from fun q => rfl)
  have hnp := (@pinsN_bd r)
  clear hb0 hr0
  have r0 : W.cell? ⟨rB, 0, none⟩ = some (.int .i64 r.rows) := hRW.cell 0 rfl
  have r1 : W.cell? ⟨rB, 1, none⟩ = some (.int .i64 r.mid) := hRW.cell 1 rfl
  have r2 : W.cell? ⟨rB, 2, none⟩ = some (.int .i64 r.gap) := hRW.cell 2 rfl
  have r3 : W.cell? ⟨rB, 3, none⟩ = some (.int .i64 r.reach) := hRW.cell 3 rfl
  have r4 : W.cell? ⟨rB, 4, none⟩ = some (.slice r.la r.ls.length r.lc) := hRW.cell 4 rfl
  have c0 := hPW.cell
  unfold Rk.val plcV at PS PL
  unfold Rk.val at PN BS
  refine callsIn_of_wp Tryd.func115 rfl trivial ?_ rfl
  simp only [Tryd.ntmps115, List.size_toArray, List.length_cons, List.length_nil, Nat.reduceAdd, Nat.reduceSub, Array.replicate_succ, Array.replicate_zero, List.push_toArray, List.append_toArray, List.nil_append, List.cons_append]
  gi_wp2
  refine ⟨trivial, rfl, ?_⟩
  refine (PS.out _).mono ?_
  rintro e w1 ⟨rfl, hb, hsz⟩
  have X2 : Alt (Rng W.heap.size 3) W (w1.alloc (.cells #[.int .i64 (rowN p), .int .i64 (boardN r p)] 162)) := (Alt.of_below hb (fun k hk h => by omega)).alloc _
  have X3 : Alt (fun _ => False) W (w1.alloc (.cells #[.int .i64 (rowN p), .int .i64 (boardN r p)] 162)) := (Alt.of_below hb (fun k hk h => by omega)).alloc _
  have R2 := Lib.hid (Blk.alt hRW X3 id)
  have O2 : Hid (Blk (w1.alloc (.cells #[.int .i64 (rowN p), .int .i64 (boardN r p)] 162)) (W.heap.size + 2) #[.int .i64 (rowN p), .int .i64 (boardN r p)] 162) := Lib.hid (by rw [← hsz]; exact Blk.new _ _ _)
  have J2 := Lib.hid (hJ _ _ _ h0 X2)
  have z2 := Lib.hid (show W.heap.size + 3 ≤ (w1.alloc (.cells #[.int .i64 (rowN p), .int .i64 (boardN r p)] 162)).heap.size by simp; omega)
  clear r0 r1 r2 r3 r4 c0 hPW hRW X2 X3 hb h0
  have r0 : (w1.alloc (.cells #[.int .i64 (rowN p), .int .i64 (boardN r p)] 162)).cell? ⟨rB, 0, none⟩ = some (.int .i64 r.rows) := R2.out.cell 0 rfl
  have r1 : (w1.alloc (.cells #[.int .i64 (rowN p), .int .i64 (boardN r p)] 162)).cell? ⟨rB, 1, none⟩ = some (.int .i64 r.mid) := R2.out.cell 1 rfl
  have r2 : (w1.alloc (.cells #[.int .i64 (rowN p), .int .i64 (boardN r p)] 162)).cell? ⟨rB, 2, none⟩ = some (.int .i64 r.gap) := R2.out.cell 2 rfl
  have r3 : (w1.alloc (.cells #[.int .i64 (rowN p), .int .i64 (boardN r p)] 162)).cell? ⟨rB, 3, none⟩ = some (.int .i64 r.reach) := R2.out.cell 3 rfl
  have r4 : (w1.alloc (.cells #[.int .i64 (rowN p), .int .i64 (boardN r p)] 162)).cell? ⟨rB, 4, none⟩ = some (.slice r.la r.ls.length r.lc) := R2.out.cell 4 rfl
  gi_wp2
  refine ⟨trivial, rfl, ?_⟩
  generalize World.alloc w1 _ = W2 at R2 O2 J2 z2 ⊢
  refine (PN.out _).mono ?_
  rintro e w3 ⟨rfl, hb⟩
  have X4 : Alt (fun _ => False) W2 w3 := Alt.of_below hb (fun k hk h => by omega)
  have R3 := Lib.hid (Blk.alt R2.out X4 id)
  have O3 := Lib.hid (Blk.alt O2.out X4 id)
  have J3 := Lib.hid (hJ _ _ _ J2.out (X4.mono fun _ _ h => h.elim))
  have z3 := Lib.hid (Nat.le_trans z2.out hb.size)
  clear hb X4 R2 O2 J2 z2 PN PS r0 r1 r2 r3 r4
  obtain ⟨n, hn⟩ : ∃ n : Nat, (n : Int) = pinsN r.rows := ⟨(pinsN r.rows).toNat, by omega⟩
  rw [← hn]
  have HN := Lib.hid hn
  have hn10 : (n : Int) ≤ 10 := by omega
  clear hn hsz
  have hpl : (pinL r).length = n := by unfold pinL; have := HN.out; simp; omega
  gi_wp2
  gi_loopw [11] (fun s wr => ∃ (i : Nat), i ≤ n ∧ s = .int .i64 (i : Int) ∧ Hid (J (((pinL r).take i).filter (nextB r p)) wr) ∧ Hid (Blk wr rB (rCells r) 32) ∧ Hid (Blk wr (W.heap.size + 2) #[.int .i64 (rowN p), .int .i64 (boardN r p)] 162) ∧ Hid (W.heap.size + 3 ≤ wr.heap.size)) (fun s wr => n - (intOf s).toNat)
  case atStart => exact ⟨0, by omega, rfl, by simpa using J3, R3, O3, z3⟩
  case round =>
    obtain ⟨i, hi, rfl, JR, RR, OR, ZR⟩ := hrel
    clear J3 R3 O3 z3
    by_cases hlt : i < n
    · have hz1 : (i : Int) < (n : Int) := by omega
      have hq0 : (0 : Int) ≤ (i : Int) := by omega
      have hq1 : (i : Int) < pinsN r.rows := by have := HN.out; omega
      obtain ⟨ht1, ht2⟩ := pinL_take r (i := i) (by have := HN.out; omega)
      have PLi := Lib.hid (fun W => PL.out (i : Int) W hq0 hq1)
      have BSi := Lib.hid (fun W => BS.out (i : Int) W hq0 hq1)
      have HT1 := Lib.hid ht1
      have HT2 := Lib.hid ht2
      have HBi := Lib.hid (HNB.out (i : Int))
      rw [← HBi.out] at BSi
      clear ht1 ht2 hq1 hlt HBi
      cases hB : nextB r p (i : Int)
      · rw [hB] at BSi
        have HB := Lib.hid hB
        clear hB
        have q0 := fun u : Late wr => u.cell (RR.out.cell 0 (show _ = some (Value.int .i64 r.rows) from rfl)) RR.out.lt
        have q1 := fun u : Late wr => u.cell (RR.out.cell 1 (show _ = some (Value.int .i64 r.mid) from rfl)) RR.out.lt
        have q2 := fun u : Late wr => u.cell (RR.out.cell 2 (show _ = some (Value.int .i64 r.gap) from rfl)) RR.out.lt
        have q3 := fun u : Late wr => u.cell (RR.out.cell 3 (show _ = some (Value.int .i64 r.reach) from rfl)) RR.out.lt
        have q4 := fun u : Late wr => u.cell (RR.out.cell 4 (show _ = some (Value.slice r.la r.ls.length r.lc) from rfl)) RR.out.lt
        have o0 := fun u : Late wr => u.cell (OR.out.cell 0 (show _ = some (Value.int .i64 (rowN p)) from rfl)) OR.out.lt
        have o1 := fun u : Late wr => u.cell (OR.out.cell 1 (show _ = some (Value.int .i64 (boardN r p)) from rfl)) OR.out.lt
        gi_wp2
        refine (wpIn_wide (n := 0)).2 ?_
        refine wp_region_late wr (Below.refl _ _) (by kernel_rfl) (by kernel_rfl) ?_
        repeat (go_big_quiet_step ((first | (go_at_call 116; exact Calls.late (PLi.out _)) | (go_at_call 117; exact Calls.late (BSi.out _)))))
        refine wpQuiet_nil ?_
        intro _ hw'
        obtain ⟨uq, hw''⟩ := hw'
        subst hw''
        have X5 : Alt (fun _ => False) wr uq.W := Alt.of_below uq.b (fun k hk h => by omega)
        have RU := Lib.hid (Blk.alt RR.out X5 id)
        have OU := Lib.hid (Blk.alt OR.out X5 id)
        have JU := Lib.hid (hJ _ _ _ JR.out (X5.mono fun _ _ h => h.elim))
        have ZU := Lib.hid (Nat.le_trans ZR.out uq.b.size)
        clear X5 q0 q1 q2 q3 q4 o0 o1
        gi_wp2
        go_roundw
        case rel => exact ⟨i + 1, by omega, by go_num, by rw [HT1.out, List.filter_append]; simpa [List.filter, HB.out] using JU, RU, OU, ZU⟩
        case measure => simp [intOf]; omega
      · rw [hB] at BSi
        have HB := Lib.hid hB
        clear hB
        have q0 : wr.cell? ⟨rB, 0, none⟩ = some (.int .i64 r.rows) := RR.out.cell 0 rfl
        have q1 : wr.cell? ⟨rB, 1, none⟩ = some (.int .i64 r.mid) := RR.out.cell 1 rfl
        have q2 : wr.cell? ⟨rB, 2, none⟩ = some (.int .i64 r.gap) := RR.out.cell 2 rfl
        have q3 : wr.cell? ⟨rB, 3, none⟩ = some (.int .i64 r.reach) := RR.out.cell 3 rfl
        have q4 : wr.cell? ⟨rB, 4, none⟩ = some (.slice r.la r.ls.length r.lc) := RR.out.cell 4 rfl
        have o0 : wr.cell? ⟨W.heap.size + 2, 0, none⟩ = some (.int .i64 (rowN p)) := OR.out.cell 0 rfl
        have o1 : wr.cell? ⟨W.heap.size + 2, 1, none⟩ = some (.int .i64 (boardN r p)) := OR.out.cell 1 rfl
        have hxs : nbrs r p = ((pinL r).take i).filter (nextB r p) ++ (i : Int) :: ((pinL r).drop (i + 1)).filter (nextB r p) := by
          have e : pinL r = (pinL r).take i ++ (i : Int) :: (pinL r).drop (i + 1) := by rw [← HT2.out, List.take_append_drop]
          unfold nbrs
          conv => lhs; rw [e]
          rw [List.filter_append, List.filter_cons, if_pos (by rw [HB.out])]
        have YY := Lib.hid (fun (u : Late wr) => hY _ _ _ u.W hxs (Nat.le_trans ZR.out u.b.size) (hJ _ _ _ JR.out (Alt.of_below u.b (fun k hk h => by omega))))
        have RU := Lib.hid (fun (u : Late wr) => Blk.alt RR.out (Alt.of_below (p := fun _ => False) u.b (fun k hk h => by omega)) id)
        have OU := Lib.hid (fun (u : Late wr) => Blk.alt OR.out (Alt.of_below (p := fun _ => False) u.b (fun k hk h => by omega)) id)
        have PLj := Lib.hid (fun W => callsIn_wide (n := 0).2 (PLi.out W))
        have BSj := Lib.hid (fun W => callsIn_wide (n := 0).2 (BSi.out W))
        have hmx : Tryd.prog.follows .mixedOrders = true := by kernel_rfl
        clear PL BS PLi BSi hY hxs HNB
        gi_wp2
        gi_region_with_o (first
          | ((refine ⟨trivial, rfl, ?_⟩); (with_reducible refine (PLj.out _).mono ?_); rintro e w4 ⟨rfl, hb4⟩; have U4 : Hid (Below wr.heap.size wr w4) := Lib.hid (below_go (Below.refl _ wr).drew hb4); have a0 := (RU.out ⟨w4, U4.out⟩).cell 0 (show _ = some (Value.int .i64 r.rows) from rfl); have a1 := (RU.out ⟨w4, U4.out⟩).cell 1 (show _ = some (Value.int .i64 r.mid) from rfl); have a2 := (RU.out ⟨w4, U4.out⟩).cell 2 (show _ = some (Value.int .i64 r.gap) from rfl); have a3 := (RU.out ⟨w4, U4.out⟩).cell 3 (show _ = some (Value.int .i64 r.reach) from rfl); have a4 := (RU.out ⟨w4, U4.out⟩).cell 4 (show _ = some (Value.slice r.la r.ls.length r.lc) from rfl); have a5 := (OU.out ⟨w4, U4.out⟩).cell 0 (show _ = some (Value.int .i64 (rowN p)) from rfl); have a6 := (OU.out ⟨w4, U4.out⟩).cell 1 (show _ = some (Value.int .i64 (boardN r p)) from rfl); clear hb4)
          | ((refine ⟨trivial, rfl, ?_⟩); (with_reducible refine (BSj.out _).mono ?_); rintro e w5 ⟨rfl, hb5⟩; have U5 : Hid (Below wr.heap.size wr w5) := Lib.hid (below_go U4.out hb5); clear hb5; have hyy := YY.out ⟨w5, U5.out⟩; obtain ⟨fn, tmps, assign, body, hy, hR⟩ := hyy; dsimp only at hy hR)
          | ((refine ⟨rfl, ?_⟩); (with_reducible refine hR.mono ?_); rintro e w6 ⟨rfl, hJ6, hk6⟩))
        all_goals
          gi_wp2
          go_roundw
          case rel =>
            refine ⟨i + 1, by omega, by go_num, Lib.hid ?_, Lib.hid (Blk.alt (RU.out ⟨w5, U5.out⟩) hk6 (by simp)), Lib.hid (Blk.alt (OU.out ⟨w5, U5.out⟩) hk6 (by unfold Rng; simp)), Lib.hid (Nat.le_trans ZR.out (Nat.le_trans U5.out.size hk6.size))⟩
            rw [HT1.out, List.filter_append]
            simpa [List.filter, HB.out] using hJ6
          case measure => simp [intOf]; omega
    · have hz1 : ¬ (i : Int) < (n : Int) := by omega
      have HE := Lib.hid (show nbrs r p = ((pinL r).take i).filter (nextB r p) from by unfold nbrs; rw [List.take_of_length_le (by omega)])
      gi_wp2
      go_end0
      exact ⟨⟨_, rfl⟩, by rw [HE.out]; exact JR.out⟩

end Go.Proofs.YtaloffdkadhhnaaDoor
