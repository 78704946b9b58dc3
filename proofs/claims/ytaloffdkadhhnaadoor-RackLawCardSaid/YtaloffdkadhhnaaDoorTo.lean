/- The contract of the pins that a ball itself fells. -/
import Derived.Test.YtaloffdkadhhnaaDoorRe
import Derived.Laws.EntriesVeiled
set_option linter.unusedVariables false
set_option linter.unusedSimpArgs false
namespace Go.Proofs.YtaloffdkadhhnaaDoor
open Go.RowKit Go.Shelf

attribute [local go_sem] Oper.semAt_some

def touchN (r : Rk) (c : Cs) (N : Nat) : Nat := setN ((els N).filter (reachB r c))

theorem touch_snoc (r : Rk) (c : Cs) (pre : List Int) (x : Int) : setN ((pre ++ [x]).filter (reachB r c)) = if reachB r c x then setN (pre.filter (reachB r c)) ||| 1 <<< x.toNat else setN (pre.filter (reachB r c)) := by
  rw [List.filter_append]
  cases h : reachB r c x
  · simp [List.filter, h]
  · simp only [List.filter, h, if_true]; exact setN_snoc _ _

set_option maxRecDepth 100000 in
set_option maxHeartbeats 8000000 in
theorem touched_any (r : Rk) (c : Cs) (k : Nat) (cap : Array Value) (N : Nat) (w : World) (ok : r.Ok) (oc : c.Ok) (hN : N < 65536) (hp : ∀ x ∈ els N, x < pinsN r.rows) (hT : TabOK w) :
    Calls Tryd.prog 95 #[sVal r c (.func (.func k) #[] cap) N] w fun e w' => e = .returned (.int .u16 (touchN r c N : Nat)) ∧ Below w.heap.size w w' := by
  have RE := Lib.hid (fun p w p1 p2 => callsIn_wide (n := 0).2 (reaches_any r c k cap N p w ok oc p1 p2))
  have EA := Lib.hid (fun w => callsIn_wide (n := 0).2 (each_any N w))
  obtain ⟨S, hS⟩ : ∃ S, Hid (S = sVal r c (.func (.func k) #[] cap) N) := ⟨_, Lib.hid rfl⟩
  rw [← hS.out] at RE ⊢
  refine (callsIn_wide (n := 0)).1 ?_
  refine callsIn_of_wp_marks Tryd.func95 rfl trivial ?_ rfl
  simp only [Tryd.ntmps95, List.size_toArray, List.length_cons, List.length_nil, Nat.reduceAdd, Nat.reduceSub, Array.replicate_succ, Array.replicate_zero, List.push_toArray, List.append_toArray, List.nil_append, List.cons_append]
  rw [hS.out]
  unfold sVal sCells
  gi_wp2
  refine ⟨trivial, rfl, ?_⟩
  refine (EA.out _).mono ?_
  rintro e w1 ⟨rfl, rfl⟩
  gi_wp2
  have hSV := hS.out
  unfold sVal sCells at hSV
  rw [← hSV]
  clear hSV
  have bT : Boxed ((((w.alloc (.cells (sCells r c (.func (.func k) #[] cap) N) 115)).alloc (.cells #[.int .u16 0] 100)).alloc (.cells #[.func (.func 110) #[S] #[]] 126)).alloc (.cells #[.int .u16 (N : Nat)] 100)) (w.heap.size + 1) 100 (.int .u16 0) := by
    have := ((Boxed.new (w.alloc (.cells (sCells r c (.func (.func k) #[] cap) N) 115)) 100 (.int .u16 0)).alloc (.cells #[.func (.func 110) #[S] #[]] 126)).alloc (.cells #[.int .u16 (N : Nat)] 100)
    rwa [World.size_alloc] at this
  have bF : Boxed ((((w.alloc (.cells (sCells r c (.func (.func k) #[] cap) N) 115)).alloc (.cells #[.int .u16 0] 100)).alloc (.cells #[.func (.func 110) #[S] #[]] 126)).alloc (.cells #[.int .u16 (N : Nat)] 100)) (w.heap.size + 1 + 1) 126 (.func (.func 110) #[S] #[]) := by
    have := (Boxed.new ((w.alloc (.cells (sCells r c (.func (.func k) #[] cap) N) 115)).alloc (.cells #[.int .u16 0] 100)) 126 (.func (.func 110) #[S] #[])).alloc (.cells #[.int .u16 (N : Nat)] 100)
    rwa [World.size_alloc, World.size_alloc] at this
  have bN : Boxed ((((w.alloc (.cells (sCells r c (.func (.func k) #[] cap) N) 115)).alloc (.cells #[.int .u16 0] 100)).alloc (.cells #[.func (.func 110) #[S] #[]] 126)).alloc (.cells #[.int .u16 (N : Nat)] 100)) (w.heap.size + 1 + 1 + 1) 100 (.int .u16 (N : Nat)) := by
    have := Boxed.new (((w.alloc (.cells (sCells r c (.func (.func k) #[] cap) N) 115)).alloc (.cells #[.int .u16 0] 100)).alloc (.cells #[.func (.func 110) #[S] #[]] 126)) 100 (.int .u16 (N : Nat))
    rwa [World.size_alloc, World.size_alloc, World.size_alloc] at this
  have B0 : Below w.heap.size w ((((w.alloc (.cells (sCells r c (.func (.func k) #[] cap) N) 115)).alloc (.cells #[.int .u16 0] 100)).alloc (.cells #[.func (.func 110) #[S] #[]] 126)).alloc (.cells #[.int .u16 (N : Nat)] 100)) := below_al2 (below_al2 (below_al2 (below_al w _) _) _) _
  have hz : ((((w.alloc (.cells (sCells r c (.func (.func k) #[] cap) N) 115)).alloc (.cells #[.int .u16 0] 100)).alloc (.cells #[.func (.func 110) #[S] #[]] 126)).alloc (.cells #[.int .u16 (N : Nat)] 100)).heap.size = w.heap.size + 4 := by simp
  unfold sCells at bT bF bN B0 hz
  generalize (((w.alloc _).alloc _).alloc _).alloc _ = W0 at *
  have tp := tab_pos hT
  refine wp_iter (gf := 112) (lb := #[.pointer (some ⟨w.heap.size + 1 + 1 + 1, 0, none⟩)]) rfl eg112 (each1_iter (w.heap.size + 1 + 1 + 1) N W0 bN hN (hT.lo B0)) (fun k h => by omega) (fun _ => rfl)
    (fun k => k = w.heap.size + 1) (fun k h => ⟨fun e => by omega, fun e => by unfold Rng at e; omega⟩)
    (fun pre W => Boxed W (w.heap.size + 1) 100 (.int .u16 (setN (pre.filter (reachB r c)) : Nat)) ∧ Boxed W (w.heap.size + 1 + 1) 126 (.func (.func 110) #[S] #[]) ∧ Alt (fun k => w.heap.size ≤ k) w W)
    (fun pre x a1 W => (Boxed W (w.heap.size + 1) 100 (.int .u16 (setN (pre.filter (reachB r c)) : Nat)) ∧ Boxed W (w.heap.size + 1 + 1) 126 (.func (.func 110) #[S] #[]) ∧ Alt (fun k => w.heap.size ≤ k) w W) ∧
      a1 = { tmps := #[S, .pointer (some ⟨w.heap.size, 0, none⟩), .int .u16 0, .pointer (some ⟨w.heap.size + 1, 0, none⟩), .pointer (some ⟨w.heap.size + 1 + 1, 0, none⟩), .int .i64 x, S, .func (.func 110) #[S] #[], .pointer (some ⟨w.heap.size, 10, none⟩), .int .u16 (N : Nat), .func (.func 112) #[] #[.pointer (some ⟨w.heap.size + 1 + 1 + 1, 0, none⟩)], .int .i64 x, undef, undef, undef, undef, undef, undef, undef, undef], defers := [] })
    (fun _ _ _ => False)
    (fun pre A B h hAB => ?stI) (fun pre x a A B h hAB => ?stM) (fun _ _ _ _ h _ => h) ⟨by simpa [setN] using bT, bF, Alt.of_below B0 (fun _ _ h => h)⟩ ?assign ?body ?done ?stop
  case stI =>
    obtain ⟨h1, h2, h3⟩ := h
    exact ⟨Boxed.alt h1 hAB (fun e => by unfold Rng at e; omega), Boxed.alt h2 hAB (fun e => by unfold Rng at e; omega), h3.trans (hAB.mono fun k _ e => by unfold Rng at e; omega)⟩
  case stM =>
    obtain ⟨⟨h1, h2, h3⟩, e⟩ := h
    exact ⟨⟨Boxed.alt h1 hAB (fun e => by unfold Rng at e; omega), Boxed.alt h2 hAB (fun e => by unfold Rng at e; omega), h3.trans (hAB.mono fun k _ e => by unfold Rng at e; omega)⟩, e⟩
  case assign =>
    intro l pre x post A hx hz hl hr h
    gi_wp2
    exact ⟨Alt.refl _ _, h, by first | trivial | rfl⟩
  case body =>
    rintro l pre x post a1 A hx hzA hl hr ⟨⟨h1, h2, h3⟩, rfl⟩
    have c1 := h1.cell
    have c2 := h2.cell
    have hmem : x ∈ els N := by rw [hx]; simp
    have hx0 := els_bd hmem
    have hts0 := touch_snoc r c pre x
    have hsub : setN (pre.filter (reachB r c)) < 65536 := setN_lt fun y hy => els_bd (by rw [hx]; simp [(List.mem_filter.1 hy).1])
    have HRX := Lib.hid (RE.out x A hx0.1 (hp x hmem))
    generalize setN (pre.filter (reachB r c)) = T at *
    have hts := Lib.hid hts0
    have HZ := Lib.hid hz
    clear hts0 hx hz hl
    gi_wp2
    refine ⟨trivial, rfl, ?_⟩
    refine (CallsIn.inRound l HRX.out).mono ?_
    rintro e w1 ⟨rfl, hb⟩
    have b1 := Boxed.alt h1 (Alt.of_below (p := fun k => A.heap.size ≤ k) hb (fun k hk h => by omega)) (by have := h1.lt; omega)
    have b2 := Boxed.alt h2 (Alt.of_below (p := fun k => A.heap.size ≤ k) hb (fun k hk h => by omega)) (by have := h2.lt; omega)
    have A1 : Alt (fun k => k = w.heap.size + 1) A w1 := Alt.of_below hb (fun k hk h => by omega)
    have A2 : Alt (fun k => w.heap.size ≤ k) w w1 := h3.trans (A1.mono fun k _ e => by omega)
    clear hb c1 c2
    have c1 := b1.cell
    have f1 := b1.frozen
    cases hq : reachB r c x
    · have hts2 := Lib.hid (show _ = T from hts.out.trans (by rw [hq]; rfl))
      clear hq
      gi_wp2
      exact ⟨A1, by rw [hts2.out]; exact b1, b2, A2⟩
    · have hts2 := Lib.hid (show _ = T ||| 1 <<< x.toNat from hts.out.trans (by rw [hq]; rfl))
      clear hq
      have E1 := Lib.hid (bor16 hsub (bit16 hx0.1 hx0.2))
      have E2 := Lib.hid (shl16 hx0.1 hx0.2)
      have hmx : Tryd.prog.follows .mixedOrders = true := by kernel_rfl
      clear hp oc ok hN bT bF bN
      gi_wp2
      gi_region_with_o (fail)
      all_goals gi_wp2
      all_goals
        refine ⟨?_, ?_, ?_, ?_⟩
        · exact (A1.setCell (q := ⟨w.heap.size + 1, 0, none⟩) rfl _).drew
        · rw [hts2.out, ← E1.out, ← E2.out]; exact Boxed.set _ b1
        · exact Boxed.other b2 (by omega) _
        · exact (A2.setCell (q := ⟨w.heap.size + 1, 0, none⟩) (by simp) _).drew
  case done =>
    rintro B ⟨h1, h2, h3⟩ hzB hK
    have c1 := h1.cell
    have HZ := Lib.hid hz
    clear hz
    gi_wp2
    refine leave_ret hK (results_tmp rfl _ _ _) ⟨rfl, ?_⟩
    exact (h3.putObj (l := W0.heap.size) (by show w.heap.size ≤ W0.heap.size; have := HZ.out; omega) _).below (Nat.le_refl _) (fun k h => h)
  case stop =>
    intro c pre x post B hx h
    exact h.elim

end Go.Proofs.YtaloffdkadhhnaaDoor
