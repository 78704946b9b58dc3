/- What FrameShows asks besides: Shows of a sheet that is no game's, which final counts there are, and appending under a guard. -/
import Derived.Test.YtmjbidnlknmcgaaDoorTh
import Derived.Test.YtmjbidnlknmcgaaDoorEe
set_option linter.unusedVariables false
set_option linter.unusedSimpArgs false
namespace Go.Proofs.YtmjbidnlknmcgaaDoor
open Go.RowKit

theorem own_nilB {w : World} {base m c : Nat} {a : Option Addr} {xs : List Value} (h : w.ownsRow base 3 1 (.slice a m c) m xs) : a = none → m = 0 ∧ c = 0 ∧ xs = [] := by
  rintro rfl
  rcases h.2 with ⟨h1, h2⟩ | ⟨g, cap, cur, h1, _⟩
  · cases h1
    exact ⟨rfl, rfl, List.eq_nil_of_length_eq_zero (by rw [h.1])⟩
  · cases h1
theorem own_newsB {w : World} {base m c : Nat} {a : Option Addr} {xs : List Int} (h : w.ownsRow base 3 1 (.slice a m c) m (xs.map (Value.int .i64))) : ∀ ad, a = some ad → ∀ j u, (xs.map (Value.int .i64))[j]? = some u → w.cell? (ad.add j) = some u := by
  rintro ad rfl
  exact balls_news (own_ballsAt h)

theorem endN_nn (l : Lw) : ∀ (N : Nat) (s : Sd) (n : Int), ∀ k ∈ endN N l s n, 0 ≤ k
  | 0, _, _, k, h => by simp [endN] at h
  | N + 1, s, n, k, h => by
    rw [endN] at h
    split at h
    · cases h
    · rename_i k' hk
      rcases List.mem_cons.1 h with h1 | h1
      · rw [h1]; exact (mem_allB (List.mem_of_find?_eq_some hk)).2.1
      · exact endN_nn l N _ _ k h1

theorem shL_nn {l : Lw} {bs : List Int} {n : Int} : ∀ k ∈ shL l bs n, 0 ≤ k := by
  intro k h
  unfold shL at h
  split at h
  · exact endN_nn l _ _ _ k h
  · cases h

theorem fin_bit {l : Lw} {bs : List Int} (h : rdE l bs = 0) {n : Int} : hasB (finN l bs) n = true ↔ ∃ j : Nat, (Rs l (recS l bs).s).testBit j = true ∧ n = (recS l bs).tot + (j : Int) := by
  obtain ⟨ok, hw, _⟩ := recS_ok h
  obtain ⟨v, hb⟩ := recS_best h
  have ht := hw.t1
  unfold hasB finN
  rw [Nat.testBit_shiftLeft]
  simp only [Bool.and_eq_true, decide_eq_true_eq]
  constructor
  · rintro ⟨⟨h0, h1⟩, h2, h3⟩
    exact ⟨n.toNat - (recS l bs).tot.toNat, h3, by omega⟩
  · rintro ⟨j, h1, h2⟩
    have h3 := Rs_le ok _ (recS l bs).s (Nat.lt_succ_self _) v j h1
    have e : n.toNat - (recS l bs).tot.toNat = j := by omega
    rw [e]
    exact ⟨⟨by omega, by omega⟩, by omega, h1⟩

theorem fin_mem {l : Lw} {bs : List Int} (h : rdE l bs = 0) {n : Int} {L : Nat} (hL : TopB L (Rs l (recS l bs).s)) : n ∈ selB (Rs l (recS l bs).s) (recS l bs).tot L ↔ hasB (finN l bs) n = true := by
  rw [selB_mem, fin_bit h]
  constructor
  · rintro ⟨j, h1, h2, h3⟩; exact ⟨j, h2, h3⟩
  · rintro ⟨j, h2, h3⟩
    refine ⟨j, ?_, h2, h3⟩
    rcases Nat.lt_or_ge j L with h4 | h4
    · exact h4
    · have h5 := Nat.testBit_lt_two_pow (Nat.lt_of_lt_of_le hL.lt (Nat.pow_le_pow_right (by omega) h4))
      rw [h5] at h2
      cases h2

theorem sh_yes {l : Lw} {bs : List Int} (h : rdE l bs = 0) {n : Int} (hb : hasB (finN l bs) n = true) : SH l bs n := by
  obtain ⟨ok, hw, _⟩ := recS_ok h
  obtain ⟨v, hbest⟩ := recS_best h
  obtain ⟨j, h1, h2⟩ := (fin_bit h).1 hb
  have h3 := Rs_le ok _ (recS l bs).s (Nat.lt_succ_self _) v j h1
  have ht := hw.t1
  refine sh_of h ?_ (by omega)
  have e : (n - (recS l bs).tot).toNat = j := by omega
  unfold hasB
  rw [e, h1]
  have q1 : 0 ≤ n - (recS l bs).tot := by omega
  have q2 : n - (recS l bs).tot ≤ 300 := by omega
  simp [q1, q2]
  omega

set_option maxRecDepth 100000 in
set_option maxHeartbeats 4000000 in
theorem sh_bad (l : Lw) (bs : List Int) (a : Option Addr) (c : Nat) (n : Int) (w : World) (hs : BallsAt w a bs) (h : rdE l bs ≠ 0) :
    Calls Tryd.prog 28 #[l.val, .slice a bs.length c, .int .i64 n] w fun e w' => e = .returned (.tuple #[.slice none 0 0, .int .i64 (rdE l bs)]) ∧ Below w.heap.size w w' := by
  have HR := Lib.hid (fun w hs => read_bad l bs a c w hs h)
  have HS := Lib.hid hs
  unfold Lw.val zval at *
  have hne : (rdE l bs == 0) = false := by simpa using h
  generalize rdE l bs = er at *
  clear h hs
  go_enter Tryd.func28, Tryd.ntmps28
  go_wp2_with fail
  have hB1 := Lib.hid (below_al w (.cells #[.int .i64 l.fr, .int .i64 l.pn, .int .i64 l.bl, .int .i64 l.tp] 28))
  have hc0 := heap_alloc_new w (.cells #[.int .i64 l.fr, .int .i64 l.pn, .int .i64 l.bl, .int .i64 l.tp] 28)
  generalize World.alloc w _ = w1 at hB1 hc0 ⊢
  have k0 : w1.cell? ⟨w.heap.size, 0, none⟩ = some (.int .i64 l.fr) := by simp [World.cell?, hc0]
  have k1 : w1.cell? ⟨w.heap.size, 1, none⟩ = some (.int .i64 l.pn) := by simp [World.cell?, hc0]
  have k2 : w1.cell? ⟨w.heap.size, 2, none⟩ = some (.int .i64 l.bl) := by simp [World.cell?, hc0]
  have k3 : w1.cell? ⟨w.heap.size, 3, none⟩ = some (.int .i64 l.tp) := by simp [World.cell?, hc0]
  clear hc0
  go_wp2_with fail
  refine (HR.out _ (HS.out.after hB1.out)).mono ?_
  rintro e w2 ⟨rfl, hb2⟩
  have HB2 := Lib.hid (hB1.out.trans (hb2.mono hB1.out.size))
  clear hb2 k0 k1 k2 k3 HR HS hB1
  go_wp2_with fail
  refine bodyPost_ret (v := .tuple #[.slice none 0 0, .int .i64 er]) (by simp [results, Tryd.results28, go_sem]) rfl ?_
  exact ⟨rfl, HB2.out.alloc HB2.out.size _⟩

section
variable {P : Program} (w : World)
/-- At a step of a region that draws, under a guard that is met: 'append(s, b...)', whatever b is. -/
theorem step_append_met {ops : Array Oper} {o : Oper} {a : Act} {K : Act → World → Prop} {Q : Exit → Act → World → Prop} {E : Prop} (hw : Region.wanted o (yielded ops a.tmps) = true) (s x : Operand) (t : TypeId)
    (ho : o.op = .call { callee := .builtin .append, args := #[s, x], argTypes := #[t, t] })
    (base : Nat) (e : TypeId) (i : TypeInfo) (z : Value) (size bytes : Nat) (ht : P.underlying t = some (.slice e)) (hi : P.info? e = some i) (hz : i.zero = some z)
    (hsize : i.size = size) (hby : i.bytes = bytes) (hzs : z.cells.size = size) (hsz : 0 < size)
    (v : Value) (n : Nat) (xs : List Value) (hs : a.eval s = v) (hown : w.ownsRow base e size v n xs)
    (xa : Option Addr) (m c : Nat) (news : List Value) (hx : a.eval x = .slice xa m c) (hnil : xa = none → m = 0 ∧ c = 0 ∧ news = []) (hl : news.length = m * size) (hnews : ∀ ad, xa = some ad → ∀ j u, news[j]? = some u → w.cell? (ad.add j) = some u) (h1 : ∀ u ∈ news, u.oneCell' = true)
    (h63 : n + m ≤ maxLen) (hbytes : (n + m) * bytes ≤ 140737488355328) (hbase : base ≤ w.heap.size)
    (h : ∀ v' w', w'.ownsRow base e size v' (n + m) (xs ++ news) → w.grownBy w' v.ownBlock → K (a.put o.dst v') w') :
    if Region.wanted o (yielded ops a.tmps) = true then Oper.wp P o a w K Q else E := by
  rw [if_pos hw]
  cases xa with
  | none =>
    obtain ⟨rfl, rfl, rfl⟩ := hnil rfl
    have hr := run_append_none (P := P) w base t o.type e i size ht hi v n xs hown
    unfold Oper.wp execOp
    simp only [ho, resolve, invoke, builtin, Sem.run_bind, Sem.run_pure, Result.andThen_ok, List.map_toArray, List.map_cons, List.map_nil, hs, hx, hr]
    exact h v w (by simpa using hown) (World.grownBy.refl w _)
  | some ad =>
    obtain ⟨v', w', hr, h2, h3, _, h5⟩ := run_append_own_at (P := P) w base t o.type e i z size bytes ht hi hz hsize hby hzs hsz v n xs hown ad m c news hl (hnews ad rfl) h1 h63 hbytes hbase
    unfold Oper.wp execOp
    simp only [ho, resolve, invoke, builtin, Sem.run_bind, Sem.run_pure, Result.andThen_ok, List.map_toArray, List.map_cons, List.map_nil, hs, hx, hr]
    exact h v' w' h2 h3
end

end Go.Proofs.YtmjbidnlknmcgaaDoor
