/- The contracts of the iterators over the games of a frame. The contracts of games, at, some, possible. The contracts of check and Explains. Lists of pairs in memory; the contract of Collect. The contract of gamesOf. -/
import Derived.Test.YtbbndcfnpfedpaaSh
set_option linter.unusedVariables false
set_option linter.unusedSimpArgs false

namespace Go.Proofs.Ytbbndcfnpfedpaa
open Go.RowKit Go.Shelf

attribute [local go_sem] Oper.semAt_some

def rVal (p : Int × Int) : Value := .agg #[.int .i64 p.1, .int .i64 p.2]
def rollsF (a : Nat) : List (Int × Int) := (List.range (a + 1)).map fun (b : Nat) => ((a : Int), (b : Int))
def rolls : List (Int × Int) := (List.range 11).flatMap rollsF
def rollsTo (a j : Nat) : List (Int × Int) := (List.range j).map fun (b : Nat) => ((a : Int), (b : Int))

theorem rollsF_split {a j : Nat} (h : j < a + 1) : (∃ T, rollsF a = rollsTo a j ++ ((a : Int), (j : Int)) :: T) ∧ rollsTo a (j + 1) = rollsTo a j ++ [((a : Int), (j : Int))] := by
  obtain ⟨k, hk⟩ : ∃ k, a + 1 = (j + 1) + k := ⟨a + 1 - (j + 1), by omega⟩
  refine ⟨⟨((List.range k).map (j + 1 + ·)).map fun (b : Nat) => ((a : Int), (b : Int)), ?_⟩, ?_⟩
  · unfold rollsF rollsTo
    rw [hk, List.range_add, List.map_append, List.range_succ, List.map_append]; simp
  · unfold rollsTo
    rw [List.range_succ, List.map_append]; rfl

set_option maxRecDepth 100000 in
set_option maxHeartbeats 4000000 in
theorem all1_iter (w : World) : Iter Try.prog 91 #[] (fun p : Int × Int => #[rVal p]) rolls 0 (fun _ => False) w := by
  intro l J Jx W hW hJ hJx hY h0
  have HY := Lib.hid hY
  have H0 := Lib.hid h0
  clear hW hJ hJx hY h0
  refine callsIn_of_wp Try.func91 rfl trivial ?_ rfl
  simp only [Try.ntmps91, List.size_toArray, List.length_cons, List.length_nil, Nat.reduceAdd, Nat.reduceSub, Array.replicate_succ, Array.replicate_zero, List.push_toArray, List.append_toArray, List.nil_append, List.cons_append]
  gi_wp2
  gi_loopw [4] (fun s wr => ∃ i : Nat, i ≤ 11 ∧ s = .int .i64 (i : Int) ∧ Hid (J ((List.range i).flatMap rollsF) wr) ∧ Hid (W.heap.size ≤ wr.heap.size)) (fun s wr => (11 - intOf s).toNat)
  case atStart => exact ⟨0, by omega, rfl, Lib.hid (by simpa using H0.out), Lib.hid (Nat.le_refl _)⟩
  case round =>
    obtain ⟨i, hi, rfl, hJi, hZ⟩ := hrel
    clear H0
    by_cases hlt : i < 11
    · have hc : (i : Int) < 11 := by omega
      have HU := Lib.hid (flat_split rollsF hlt)
      have HL := Lib.hid hlt
      clear hlt hi
      gi_wp2
      gi_loopw [9] (fun s wx => ∃ j : Nat, j ≤ i + 1 ∧ s = .int .i64 (j : Int) ∧ Hid (J ((List.range i).flatMap rollsF ++ rollsTo i j) wx) ∧ Hid (W.heap.size ≤ wx.heap.size)) (fun s wx => ((i : Int) + 1 - intOf s).toNat)
      case atStart => exact ⟨0, by omega, rfl, Lib.hid (by simpa [rollsTo] using hJi.out), hZ⟩
      case round =>
        obtain ⟨j, hj, rfl, hJj, hZj⟩ := hrel
        clear hJi hZ
        by_cases hlj : j < i + 1
        · have hcj : (j : Int) < (i : Int) + 1 := by omega
          obtain ⟨⟨T, t1⟩, t2⟩ := rollsF_split hlj
          obtain ⟨T2, u1, u2⟩ := HU.out
          have HE : Hid (rolls = ((List.range i).flatMap rollsF ++ rollsTo i j) ++ ((i : Int), (j : Int)) :: (T ++ T2)) := Lib.hid (by unfold rolls; rw [u1, t1]; simp)
          obtain ⟨fn, tmps, assign, body, hy, hR⟩ := HY.out _ _ _ wr HE.out (by simpa using hZj.out) hJj.out
          have HT2 := Lib.hid t2
          have HJ := Lib.hid hlj
          unfold rVal at hy
          clear t1 t2 u1 u2 hlj hj hJj
          gi_wp2
          refine ⟨rfl, hR.mono ?_⟩
          rintro e W3 (⟨rfl, hJ3, hk3⟩ | ⟨rfl, hx3⟩)
          · have J3 := Lib.hid hJ3
            have Z3 := Lib.hid (Nat.le_trans hZj.out hk3.size)
            clear hJ3 hk3 hy hR
            gi_wp2
            go_roundw
            case rel => exact ⟨j + 1, by have := HJ.out; omega, by go_num, Lib.hid (by rw [HT2.out, ← List.append_assoc]; exact J3.out), Z3⟩
            case measure => simp [intOf]; omega
          · have X3 := Lib.hid hx3
            clear hx3 hy hR
            gi_wp2
            refine bodyPost_ret (results_none rfl _ _ _) rfl ?_
            exact ⟨⟨_, rfl⟩, .inr ⟨_, _, _, HE.out, X3.out⟩⟩
        · have hcj : ¬ (j : Int) < (i : Int) + 1 := by omega
          have hji : j = i + 1 := by omega
          have JN : Hid (J ((List.range (i + 1)).flatMap rollsF) wr) := Lib.hid (by
            obtain ⟨T2, u1, u2⟩ := HU.out
            rw [u2]; have := hJj.out; rw [hji] at this; exact this)
          clear hji hj hlj hJj
          gi_wp2
          go_roundw
          case rel => exact ⟨i + 1, by have := HL.out; omega, by go_num, JN, hZj⟩
          case measure => have := HL.out; simp [intOf]; omega
    · have hc : ¬ (i : Int) < 11 := by omega
      have hi11 : i = 11 := by omega
      have JN : Hid (J rolls wr) := Lib.hid (by have := hJi.out; rw [hi11] at this; exact this)
      clear hi11 hi hlt
      gi_wp2
      go_end0
      exact ⟨⟨_, rfl⟩, .inl JN.out⟩

def gamesL (ws : List Wd) (s : Int → Bool) (fr : Int) : List (Int × Int) := rolls.filter fun p => fitsB ws s fr p.1 p.2

theorem eg91 : ∀ args w, (callFunc 91 args).run Try.prog w = .ok (.enter 91 args) w := enters_of Try.func91 (by kernel_rfl) rfl
theorem eg90 : ∀ args w, (callFunc 90 args).run Try.prog w = .ok (.enter 90 args) w := enters_of Try.func90 (by kernel_rfl) rfl

/-- What only stands on, apart from its yield. -/
structure ONc (l : Lan) (s : Int → Bool) (fr : Int) (bL bF : Nat) (W : World) : Prop where
  li : Boxed W bL 127 (.func (.func 91) #[] #[])
  is : Boxed W bF 120 (.func (.func 69) #[.agg (lookCells l s fr)] #[])
  ws : WdsAt W l.wa l.ws
def RdO (l : Lan) (bL bF : Nat) (k : Nat) : Prop := k = bL ∨ k = bF ∨ ∃ o, l.wa = some ⟨k, o, none⟩
theorem ONc.far {l : Lan} {s : Int → Bool} {fr : Int} {bL bF : Nat} {W W' : World} {p : Nat → Prop} (h : ONc l s fr bL bF W) (ha : Alt p W W') (hp : ∀ k, RdO l bL bF k → ¬ p k) : ONc l s fr bL bF W' :=
  ⟨Boxed.alt h.li ha (hp _ (by unfold RdO; simp)), Boxed.alt h.is ha (hp _ (by unfold RdO; simp)), h.ws.alt ha (fun g o e => hp _ (by unfold RdO; exact .inr (.inr ⟨o, e⟩)))⟩

theorem filter_snoc {F : Int × Int → Bool} (pre : List (Int × Int)) (x : Int × Int) : (pre ++ [x]).filter F = if F x = true then pre.filter F ++ [x] else pre.filter F := by
  rw [List.filter_append]
  cases h : F x <;> simp [List.filter, h]

set_option maxRecDepth 100000 in
set_option maxHeartbeats 8000000 in
theorem only1_iter (l : Lan) (s : Int → Bool) (fr : Int) (bL bF : Nat) (w : World) (hO : ONc l s fr bL bF w) (hT : ∀ x ∈ l.ws, 0 ≤ x.te ∧ x.te ≤ 3) (hn : l.ws.length ≤ 1000) (hga : ∀ g o, l.wa = some ⟨g, o, none⟩ → g < w.heap.size) :
    IterA Try.prog 90 #[.pointer (some ⟨bL, 0, none⟩), .pointer (some ⟨bF, 0, none⟩)] (fun p : Int × Int => #[rVal p]) (gamesL l.ws s fr) 3 (RdO l bL bF) w := by
  intro y J Jx W hW hJ hJx hY h0
  have hz := hW.size
  have OW := hO.far hW (fun k h h2 => h2 h)
  have hRd : ∀ k, RdO l bL bF k → k < W.heap.size := fun k h => by
    rcases h with rfl | rfl | ⟨o, e⟩
    · exact OW.li.lt
    · exact OW.is.lt
    · exact Nat.lt_of_lt_of_le (hga _ _ e) hz
  have FA := Lib.hid (fun (p : Int × Int) W' (h : ONc l s fr bL bF W') => fits_any l s fr p.1 p.2 W' h.ws hT hn)
  obtain ⟨F, hF⟩ : ∃ F : Int × Int → Bool, Hid (F = fun p => fitsB l.ws s fr p.1 p.2) := ⟨_, Lib.hid rfl⟩
  have hG : gamesL l.ws s fr = rolls.filter F := by rw [hF.out]; rfl
  rw [hG] at hY ⊢
  obtain ⟨W1, hW1⟩ : ∃ W1, Hid (W1 = W.alloc (.cells #[.func (.yield y) #[] #[]] 120)) := ⟨_, Lib.hid rfl⟩
  have z1 : W1.heap.size = W.heap.size + 1 := by rw [hW1.out]; simp
  have X1 : ∀ p, Alt p W W1 := fun p => by rw [hW1.out]; exact (Alt.refl _ _).alloc _
  have O1 := OW.far (X1 fun _ => False) (fun _ _ => id)
  have Y1 : Boxed W1 W.heap.size 120 (.func (.yield y) #[] #[]) := by rw [hW1.out]; exact Boxed.new W 120 _
  have J1 := hJ _ _ _ h0 (X1 _)
  have c1 : (W.alloc (.cells #[.func (.yield y) #[] #[]] 120)).cell? ⟨bL, 0, none⟩ = some (.func (.func 91) #[] #[]) := by rw [← hW1.out]; exact O1.li.cell
  have HO1 := Lib.hid O1
  have HY1 := Lib.hid Y1
  have HJ1 := Lib.hid J1
  have HRd := Lib.hid hRd
  have HYY := Lib.hid hY
  have HZ1 := Lib.hid z1
  have HJS := Lib.hid hJ
  have HJX := Lib.hid hJx
  clear hO hT hn hga hW hz OW hRd h0 hG X1 O1 Y1 J1 z1 hY hJ hJx
  refine callsIn_of_wp_marks Try.func90 rfl trivial ?_ rfl
  simp only [Try.ntmps90, List.size_toArray, List.length_cons, List.length_nil, Nat.reduceAdd, Nat.reduceSub, Array.replicate_succ, Array.replicate_zero, List.push_toArray, List.append_toArray, List.nil_append, List.cons_append]
  gi_wp2
  have hWo := hW1.out
  rw [← hWo]
  clear hWo c1 hW1
  refine wp_iter (gf := 91) (lb := #[]) rfl eg91 (all1_iter W1) (fun k h => h.elim) (fun _ => rfl)
    (fun k => ¬ (RdO l bL bF k ∨ Rng W.heap.size 3 k)) (fun k h => ⟨id, fun h2 => h (.inr (by have := HZ1.out; unfold Rng at *; omega))⟩)
    (fun pre A => J (pre.filter F) A ∧ ONc l s fr bL bF A ∧ Boxed A W.heap.size 120 (.func (.yield y) #[] #[]))
    (fun pre x a1 A => (J (pre.filter F) A ∧ ONc l s fr bL bF A ∧ Boxed A W.heap.size 120 (.func (.yield y) #[] #[])) ∧ ∃ b4, W.heap.size + 3 ≤ b4 ∧ Blk A b4 #[.int .i64 x.1, .int .i64 x.2] 105 ∧
      a1 = { tmps := #[.func (.yield y) #[] #[], .pointer (some ⟨bL, 0, none⟩), .pointer (some ⟨bF, 0, none⟩), .pointer (some ⟨W.heap.size, 0, none⟩), .pointer (some ⟨b4, 0, none⟩), .func (.func 91) #[] #[], .agg #[.int .i64 x.1, .int .i64 x.2], undef, undef, undef, undef, undef, undef, undef, undef, undef], defers := [] })
    (fun cd pre A => cd = Code.ret ∧ ∃ p0 y0 q0, rolls.filter F = p0 ++ y0 :: q0 ∧ Jx (p0 ++ [y0]) A)
    (fun pre A B h hAB => ?stI) (fun pre x a A B h hAB => ?stM) (fun cd pre A B h hAB => ?stX) ⟨by simpa using HJ1.out, HO1.out, HY1.out⟩ ?assign ?body ?done ?stop
  case stI =>
    have hz := HZ1.out
    exact ⟨HJS.out _ _ _ h.1 (hAB.mono fun k _ e => by unfold Rng at *; omega), h.2.1.far hAB (fun k hk e => by have := HRd.out k hk; unfold Rng at e; omega), Boxed.alt h.2.2 hAB (fun e => by unfold Rng at e; omega)⟩
  case stM =>
    have hz := HZ1.out
    obtain ⟨h, b4, hb4, k4, e⟩ := h
    exact ⟨⟨HJS.out _ _ _ h.1 (hAB.mono fun k _ e => by unfold Rng at *; omega), h.2.1.far hAB (fun k hk e => by have := HRd.out k hk; unfold Rng at e; omega), Boxed.alt h.2.2 hAB (fun e => by unfold Rng at e; omega)⟩, b4, hb4, Blk.alt k4 hAB (fun e => by unfold Rng at e; omega), e⟩
  case stX =>
    have hz := HZ1.out
    obtain ⟨h1, p0, y0, q0, h2, h3⟩ := h
    exact ⟨h1, p0, y0, q0, h2, HJX.out _ _ _ h3 (hAB.mono fun k _ e => by unfold Rng at *; omega)⟩
  case assign =>
    intro l2 pre x post A hx hz2 hl2 hr h
    have HX := Lib.hid (show W.heap.size + 3 ≤ A.heap.size by have := HZ1.out; omega)
    have HH := Lib.hid h
    unfold rVal
    clear hx hz2 hl2 hr h
    gi_wp2
    exact ⟨(Alt.refl _ _).alloc _, ⟨HJS.out _ _ _ HH.out.1 ((Alt.refl _ _).alloc _), HH.out.2.1.far (p := fun _ => False) ((Alt.refl _ _).alloc _) (fun _ _ => id), Boxed.alt (p := fun _ => False) HH.out.2.2 ((Alt.refl _ _).alloc _) id⟩, A.heap.size, HX.out, Blk.new _ _ _, rfl⟩
  case body =>
    rintro l2 pre x post a1 A hx hzA hl2 hr ⟨⟨hj, hO, hy⟩, b4, hb4, k4, rfl⟩
    have FAX := Lib.hid (CallsIn.inRound l2 (callsIn_wide (n := 0).2 (FA.out x A hO)))
    have HFX : Hid (F x = fitsB l.ws s fr x.1 x.2) := Lib.hid (by rw [hF.out])
    have HM : F x = true → rolls.filter F = pre.filter F ++ x :: post.filter F := fun h => by rw [hx]; simp [List.filter_append, List.filter_cons, h]
    have HMM := Lib.hid HM
    have HS := Lib.hid (@filter_snoc F pre x)
    have HZA := Lib.hid (show W.heap.size + 3 ≤ A.heap.size by have := HZ1.out; omega)
    have ci := hO.is.cell
    have cl := hO.li.cell
    have cy := hy.cell
    have k40 := k4.cell 0 (show _ = some (Value.int .i64 x.1) from rfl)
    have k41 := k4.cell 1 (show _ = some (Value.int .i64 x.2) from rfl)
    have HJ := Lib.hid hj
    have HO := Lib.hid hO
    have HYB := Lib.hid hy
    have HK4 := Lib.hid k4
    rw [← HFX.out] at FAX
    generalize F x = FX at *
    clear hx hzA hl2 hr hj hO hy k4 FA HM hb4 HFX
    obtain ⟨p, q⟩ := x
    simp only at *
    cases FX
    · simp only [Bool.false_eq_true, if_false] at HS
      gi_wp2
      refine ⟨trivial, rfl, ?_⟩
      refine FAX.out.mono ?_
      rintro e w1 ⟨rfl, hb⟩
      have AB := Lib.hid (fun p => Alt.of_below (p := p) hb (fun k hk e => absurd hk (Nat.not_lt.2 e)))
      clear hb ci cl cy k40 k41 FAX
      gi_wp2
      refine ⟨fun f h => (by cases h), ?_⟩
      gi_wp2
      exact ⟨AB.out _, by rw [HS.out]; exact HJS.out _ _ _ HJ.out (AB.out _), HO.out.far (AB.out fun _ => False) (fun _ _ => id), Boxed.alt HYB.out (AB.out fun _ => False) id⟩
    · simp only [if_true] at HS
      gi_wp2
      refine ⟨trivial, rfl, ?_⟩
      refine FAX.out.mono ?_
      rintro e w1 ⟨rfl, hb⟩
      have AB := Lib.hid (fun p => Alt.of_below (p := p) hb (fun k hk e => absurd hk (Nat.not_lt.2 e)))
      have Z1 := Lib.hid (Nat.le_trans HZA.out hb.size)
      clear hb ci cl cy k40 k41 FAX
      have ci := (HO.out.far (AB.out fun _ => False) (fun _ _ => id)).is.cell
      have cy := (Boxed.alt HYB.out (AB.out fun _ => False) id).cell
      have k4 := Blk.alt HK4.out (AB.out fun _ => False) id
      have k40 := k4.cell 0 (show _ = some (Value.int .i64 p) from rfl)
      have k41 := k4.cell 1 (show _ = some (Value.int .i64 q) from rfl)
      have O1 := Lib.hid (HO.out.far (AB.out fun _ => False) (fun _ _ => id))
      have Y1 := Lib.hid (Boxed.alt HYB.out (AB.out fun _ => False) id)
      obtain ⟨fn, tmps, assign, body, hy, hR⟩ := HYY.out _ _ _ w1 (HMM.out (by first | rfl | trivial)) Z1.out (HJS.out _ _ _ HJ.out (AB.out _))
      unfold rVal at hy
      clear k4
      gi_wp2
      refine ⟨rfl, hR.mono ?_⟩
      rintro e w8 ⟨h8, a8⟩
      have A8 := Lib.hid ((AB.out (fun k => ¬ (RdO l bL bF k ∨ Rng W.heap.size 3 k))).trans a8)
      have O8 := Lib.hid (O1.out.far a8 (fun k hk h => h (.inl hk)))
      have Y8 := Lib.hid (Boxed.alt Y1.out a8 (fun h => h (.inr (by unfold Rng; omega))))
      clear a8 cy hy hR ci k40 k41
      rcases h8 with ⟨rfl, j8⟩ | ⟨rfl, j8⟩
      · gi_wp2
        exact ⟨A8.out, by rw [HS.out]; exact j8, O8.out, Y8.out⟩
      · gi_wp2
        exact ⟨A8.out, rfl, _, _, _, HMM.out (by first | rfl | trivial), j8⟩
  case done =>
    rintro B ⟨h1, h2⟩ hzB hK'
    have H1 := Lib.hid (HJS.out _ _ _ h1 (Alt.put (p := Rng W.heap.size 3) (l := W1.heap.size) (by have := HZ1.out; unfold Rng; omega) (.deferred none)))
    gi_wp2
    show bodyPostM Fence.wide 0 Try.prog Try.f90 _ Exit.ret _ _
    exact leave_ret hK' (results_none rfl _ _ _) ⟨⟨_, rfl⟩, .inl H1.out⟩
  case stop =>
    rintro cd pre x post B hx ⟨rfl, p0, y0, q0, h1, h2⟩ hzB hK'
    have HX : Hid (∃ p y q, rolls.filter F = p ++ y :: q ∧ Jx (p ++ [y]) (B.putObj W1.heap.size (.deferred none))) := Lib.hid ⟨p0, y0, q0, h1, HJX.out _ _ _ h2 (Alt.put (p := Rng W.heap.size 3) (l := W1.heap.size) (by have := HZ1.out; unfold Rng; omega) (.deferred none))⟩
    clear hx
    gi_wp2
    exact leave_ret hK' (results_none rfl _ _ _) ⟨⟨_, rfl⟩, .inr HX.out⟩

end Go.Proofs.Ytbbndcfnpfedpaa

namespace Go.Proofs.Ytbbndcfnpfedpaa
open Go.RowKit Go.Shelf

attribute [local go_sem] Oper.semAt_some

theorem allRolled_any (w : World) : Calls Try.prog 86 #[] w fun e w' => e = .returned (.func (.func 91) #[] #[]) ∧ w' = w := by
  go_enter Try.func86, Try.ntmps86
  go_wp2_with fail
  go_ret
  exact ⟨rfl, rfl⟩
theorem only_any (r : Value) (w : World) : Calls Try.prog 85 #[.func (.func 91) #[] #[], .func (.func 69) #[r] #[]] w fun e w' => e = .returned (.func (.func 90) #[] #[.pointer (some ⟨w.heap.size, 0, none⟩), .pointer (some ⟨w.heap.size + 1, 0, none⟩)]) ∧ w' = (w.alloc (.cells #[.func (.func 91) #[] #[]] 127)).alloc (.cells #[.func (.func 69) #[r] #[]] 120) := by
  go_enter Try.func85, Try.ntmps85
  go_wp2_with fail
  go_ret
  exact ⟨rfl, rfl⟩

structure GA (l : Lan) (s : Int → Bool) (fr : Int) (bL bF : Nat) (w W : World) : Prop where
  li : Boxed W bL 127 (.func (.func 91) #[] #[])
  is : Boxed W bF 120 (.func (.func 69) #[.agg (lookCells l s fr)] #[])
  bl : Below w.heap.size w W

theorem GA.mk' {l : Lan} {s : Int → Bool} {fr : Int} {w W : World} {N : Nat} (hN : W.heap.size = N) (h : Below w.heap.size w W) : GA l s fr N (N + 1) w ((W.alloc (.cells #[.func (.func 91) #[] #[]] 127)).alloc (.cells #[.func (.func 69) #[.agg (lookCells l s fr)] #[]] 120)) :=
  hN ▸ ⟨Boxed.alt (p := fun _ => False) (Boxed.new W 127 _) ((Alt.refl _ _).alloc _) id, by
    have := Boxed.new (W.alloc (.cells #[.func (.func 91) #[] #[]] 127)) 120 (.func (.func 69) #[.agg (lookCells l s fr)] #[])
    rwa [World.size_alloc] at this, below_al2 (below_al2 h _) _⟩
theorem GA.dr {l : Lan} {s : Int → Bool} {fr : Int} {bL bF : Nat} {w W : World} (h : GA l s fr bL bF w W) : GA l s fr bL bF w W.drew :=
  ⟨Boxed.alt (p := fun _ => False) h.li (Alt.refl _ _).drew id, Boxed.alt (p := fun _ => False) h.is (Alt.refl _ _).drew id, h.bl.drew⟩

set_option maxRecDepth 100000 in
set_option maxHeartbeats 4000000 in
theorem games_any (l : Lan) (s : Int → Bool) (fr : Int) (w : World) : Calls Try.prog 76 #[.agg (lookCells l s fr)] w fun e w' => ∃ bL bF, e = .returned (.func (.func 90) #[] #[.pointer (some ⟨bL, 0, none⟩), .pointer (some ⟨bF, 0, none⟩)]) ∧ GA l s fr bL bF w w' := by
  have GM := Lib.hid (fun W N (hN : W.heap.size = N) h => @GA.mk' l s fr w W N hN h)
  have B0 := Lib.hid (below_al w (.cells (lookCells l s fr) 118))
  have OA := Lib.hid (fun r W => only_any r W)
  have AR := Lib.hid (fun W => allRolled_any W)
  unfold lookCells at GM B0 ⊢
  go_enter Try.func76, Try.ntmps76
  go_wp2_with fail
  go_region_with (first
    | (go_at_call 86; (with_reducible refine (AR.out _).mono ?_); rintro e wA ⟨rfl, rfl⟩)
    | (go_at_call 85; (with_reducible refine (OA.out _ _).mono ?_); rintro e wB ⟨rfl, rfl⟩))
  all_goals
    go_wp2_with fail
    go_returns
    first
      | exact ⟨_, _, rfl, (GM.out _ _ (by simp) B0.out).dr⟩
      | exact ⟨_, _, rfl, GM.out _ _ (by simp) B0.out.drew⟩
      | exact ⟨_, _, rfl, GM.out _ _ (by simp) B0.out⟩

def wtCells (l : Lan) (s : Int → Bool) : Array Value := #[.int .i64 l.fs, .slice l.wa l.ws.length l.wc, .bool (s 0), .bool (s 1), .bool (s 2), .bool (s 3)]

set_option maxHeartbeats 2000000 in
theorem at_any (l : Lan) (s : Int → Bool) (fr : Int) (w : World) : Calls Try.prog 68 #[.agg (wtCells l s), .int .i64 fr] w fun e w' => e = .returned (.agg (lookCells l s fr)) ∧ Below w.heap.size w w' := by
  have B0 := Lib.hid (below_al2 (below_al w (.cells (wtCells l s) 90)) (.cells (lookCells l s fr) 118))
  unfold wtCells lookCells at *
  go_enter Try.func68, Try.ntmps68
  go_wp2_with fail
  go_returns
  exact ⟨rfl, by first | exact B0.out | skip⟩

def someB (ws : List Wd) (s : Int → Bool) (fr : Int) : Bool := !(gamesL ws s fr).isEmpty

set_option maxRecDepth 100000 in
set_option maxHeartbeats 4000000 in
theorem some_any (l : Lan) (s : Int → Bool) (fr : Int) (bL bF : Nat) (w : World) (hO : ONc l s fr bL bF w) (hT : ∀ x ∈ l.ws, 0 ≤ x.te ∧ x.te ≤ 3) (hn : l.ws.length ≤ 1000) (hga : ∀ g o, l.wa = some ⟨g, o, none⟩ → g < w.heap.size) :
    Calls Try.prog 75 #[.func (.func 90) #[] #[.pointer (some ⟨bL, 0, none⟩), .pointer (some ⟨bF, 0, none⟩)]] w fun e w' => e = .returned (.bool (someB l.ws s fr)) ∧ Below w.heap.size w w' := by
  have hRd : ∀ k, RdO l bL bF k → k < w.heap.size := fun k h => by
    rcases h with rfl | rfl | ⟨o, e⟩
    · exact hO.li.lt
    · exact hO.is.lt
    · exact hga _ _ e
  have HG : Hid (someB l.ws s fr = !(gamesL l.ws s fr).isEmpty) := Lib.hid rfl
  have IT := only1_iter l s fr bL bF (w.alloc (.cells #[.bool false] 4)) (hO.far (p := fun _ => False) ((Alt.refl _ _).alloc _) (fun _ _ => id)) hT hn (fun g o e => by have := hga g o e; simp; omega)
  have HRd := Lib.hid hRd
  have K0 := Lib.hid (Boxed.new w 4 (.bool false))
  have A0 := Lib.hid ((Alt.refl (fun k => w.heap.size ≤ k) w).alloc (.cells #[.bool false] 4))
  generalize gamesL l.ws s fr = xs at *
  generalize someB l.ws s fr = R at *
  have HIT := Lib.hid IT
  clear hO hT hn hga hRd IT
  refine (callsIn_wide (n := 0)).1 ?_
  refine callsIn_of_wp_marks Try.func75 rfl trivial ?_ rfl
  simp only [Try.ntmps75, List.size_toArray, List.length_cons, List.length_nil, Nat.reduceAdd, Nat.reduceSub, Array.replicate_succ, Array.replicate_zero, List.push_toArray, List.append_toArray, List.nil_append, List.cons_append]
  gi_wp2
  have hz0 : (w.alloc (.cells #[.bool false] 4)).heap.size = w.heap.size + 1 := by simp
  have HZ0 := Lib.hid hz0
  clear hz0
  generalize w.alloc _ = W0 at *
  refine wp_iterA (gf := 90) (lb := #[.pointer (some ⟨bL, 0, none⟩), .pointer (some ⟨bF, 0, none⟩)]) rfl eg90 HIT.out (fun k h => by have := HRd.out k h; have := HZ0.out; omega) (fun _ => rfl)
    (fun k => k = w.heap.size) (fun k h => ⟨fun h2 => by have := HRd.out k h2; omega, fun h2 => by have := HZ0.out; unfold Rng at h2; omega⟩)
    (fun pre A => pre = [] ∧ Boxed A w.heap.size 4 (.bool false) ∧ Alt (fun k => w.heap.size ≤ k) w A)
    (fun pre x a1 A => (pre = [] ∧ Boxed A w.heap.size 4 (.bool false) ∧ Alt (fun k => w.heap.size ≤ k) w A) ∧ a1 = { tmps := #[.func (.func 90) #[] #[.pointer (some ⟨bL, 0, none⟩), .pointer (some ⟨bF, 0, none⟩)], undef, .pointer (some ⟨w.heap.size, 0, none⟩), .func (.func 90) #[] #[.pointer (some ⟨bL, 0, none⟩), .pointer (some ⟨bF, 0, none⟩)], rVal x], defers := [] })
    (fun cd pre A => cd = Code.ret ∧ Boxed A w.heap.size 4 (.bool true) ∧ Alt (fun k => w.heap.size ≤ k) w A)
    (fun pre A B h hAB => ?stI) (fun pre x a A B h hAB => ?stM) (fun cd pre A B h hAB => ?stX) ⟨rfl, K0.out, A0.out⟩ ?assign ?body ?done ?stop
  case stI =>
    have := HZ0.out
    exact ⟨h.1, Boxed.alt h.2.1 hAB (fun e => by unfold Rng at e; omega), h.2.2.trans (hAB.mono fun k _ e => by unfold Rng at e; omega)⟩
  case stM =>
    have := HZ0.out
    exact ⟨⟨h.1.1, Boxed.alt h.1.2.1 hAB (fun e => by unfold Rng at e; omega), h.1.2.2.trans (hAB.mono fun k _ e => by unfold Rng at e; omega)⟩, h.2⟩
  case stX =>
    have := HZ0.out
    exact ⟨h.1, Boxed.alt h.2.1 hAB (fun e => by unfold Rng at e; omega), h.2.2.trans (hAB.mono fun k _ e => by unfold Rng at e; omega)⟩
  case assign =>
    intro l2 pre x post A hx hz hl hr h
    have HH := Lib.hid h
    clear hx hz hl hr h
    gi_wp2
    exact ⟨Alt.refl _ _, HH.out, by simp⟩
  case body =>
    rintro l2 pre x post a1 A hx hz hl hr ⟨⟨_, hb, hA⟩, rfl⟩
    have cb := hb.cell
    have fb := hb.frozen
    have HB := Lib.hid (hb.set (.bool true))
    have AS := Lib.hid ((Alt.refl (fun k => k = w.heap.size) A).setCell (q := ⟨w.heap.size, 0, none⟩) rfl (.bool true))
    have AT := Lib.hid hA
    clear hx hz hl hr hb hA
    gi_wp2
    exact ⟨AS.out, rfl, HB.out, AT.out.trans (AS.out.mono fun k _ e => by omega)⟩
  case done =>
    rintro B ⟨h1, h2, h3⟩ hz hK
    have HR : Hid (R = false) := Lib.hid (by rw [HG.out, h1]; rfl)
    have cb := h2.cell
    have fb := h2.frozen
    have HB := Lib.hid (h2.set (.bool false))
    have HA := Lib.hid ((h3.setCell (q := ⟨w.heap.size, 0, none⟩) (Nat.le_refl _) (.bool false)))
    have HK := Lib.hid (show (B.setCell ⟨w.heap.size, 0, none⟩ (.bool false)).heap[W0.heap.size]? = some (.deferred (some [])) from ((Alt.refl (fun k => k = w.heap.size) B).setCell (q := ⟨w.heap.size, 0, none⟩) rfl (.bool false)).obj hK (by have := HZ0.out; omega))
    clear h1 h2 h3 hK
    gi_wp2
    have c9 := (Boxed.alt HB.out (Alt.put (p := fun k => k = W0.heap.size) (w := B.setCell ⟨w.heap.size, 0, none⟩ (.bool false)) rfl (.deferred none)) (by have := HZ0.out; omega)).cell
    refine leave_ret (v := .bool false) HK.out (by simp [results, Try.results75, go_sem, c9]) ⟨by rw [HR.out], ?_⟩
    exact (HA.out.putObj (l := W0.heap.size) (by have := HZ0.out; show w.heap.size ≤ W0.heap.size; omega) _).below (Nat.le_refl _) (fun k h => h)
  case stop =>
    rintro c pre x post B hx ⟨rfl, h2, h3⟩ hz hK
    have HR : Hid (R = true) := Lib.hid (by rw [HG.out, hx]; simp)
    have HB := Lib.hid h2
    have HA := Lib.hid h3
    have HK := Lib.hid hK
    clear h2 h3 hK hx
    gi_wp2
    have c9 := (Boxed.alt HB.out (Alt.put (p := fun k => k = W0.heap.size) (w := B) rfl (.deferred none)) (by have := HZ0.out; omega)).cell
    refine leave_ret (v := .bool true) HK.out (by simp [results, Try.results75, go_sem, c9]) ⟨by rw [HR.out], ?_⟩
    exact (HA.out.putObj (l := W0.heap.size) (by have := HZ0.out; show w.heap.size ≤ W0.heap.size; omega) _).below (Nat.le_refl _) (fun k h => h)

def possB (l : Lan) (s : Int → Bool) : Bool := (List.range l.fs.toNat).all fun f => someB l.ws s (f : Int)

set_option maxRecDepth 100000 in
set_option maxHeartbeats 4000000 in
theorem possible_any (l : Lan) (s : Int → Bool) (w : World) (hL : WdsAt w l.wa l.ws) (hT : ∀ x ∈ l.ws, 0 ≤ x.te ∧ x.te ≤ 3) (hn : l.ws.length ≤ 1000) (h0 : 0 ≤ l.fs) (h5 : l.fs ≤ 5) (hga : ∀ g o, l.wa = some ⟨g, o, none⟩ → g < w.heap.size) :
    Calls Try.prog 53 #[.agg (wtCells l s)] w fun e w' => e = .returned (.bool (possB l s)) ∧ Below w.heap.size w w' := by
  have AT := Lib.hid (fun fr W => at_any l s fr W)
  have GG := Lib.hid (fun fr W => games_any l s fr W)
  have SO := Lib.hid (fun fr bL bF W (hO : ONc l s fr bL bF W) (hb : Below w.heap.size w W) => some_any l s fr bL bF W hO hT hn (fun g o e => Nat.lt_of_lt_of_le (hga g o e) hb.size))
  have HL := Lib.hid hL
  have HP : Hid (possB l s = (List.range l.fs.toNat).all fun f => someB l.ws s (f : Int)) := Lib.hid rfl
  have B0 := Lib.hid (below_al w (.cells (wtCells l s) 90))
  have K0 := Lib.hid (Blk.new w (wtCells l s) 90)
  generalize possB l s = R at *
  obtain ⟨f, hf⟩ : ∃ f : Nat → Bool, Hid (f = fun f : Nat => someB l.ws s (f : Int)) := ⟨_, Lib.hid rfl⟩
  rw [← hf.out] at HP
  have HS := Lib.hid (fun k : Nat => (show someB l.ws s (k : Int) = f k by rw [hf.out]))
  unfold wtCells at *
  obtain ⟨N, hN⟩ : ∃ N : Nat, l.fs = (N : Int) := ⟨l.fs.toNat, by omega⟩
  have HN5 := Lib.hid (show N ≤ 5 by omega)
  rw [hN] at HP B0 K0 AT ⊢
  rw [Int.toNat_natCast] at HP
  clear hL hT hn h0 h5 hga hN hf
  go_enter Try.func53, Try.ntmps53
  go_wp2_with fail
  generalize w.alloc _ = W0 at K0 B0 ⊢
  go_loopg [7] N (fun g s7 wx => ∃ i : Nat, i ≤ N ∧ g = N - i ∧ s7 = .int .i64 (i : Int) ∧ Hid ((List.range i).all f = true) ∧ Hid (Below w.heap.size w wx) ∧ Hid (Blk wx w.heap.size #[.int .i64 (N : Int), .slice l.wa l.ws.length l.wc, .bool (s 0), .bool (s 1), .bool (s 2), .bool (s 3)] 90))
  case atStart => exact ⟨0, by omega, by omega, rfl, Lib.hid rfl, B0, K0⟩
  case round =>
    obtain ⟨i, hi, rfl, rfl, hA, hB, hK⟩ := hrel
    clear K0 B0
    have k0 := hK.out.cell 0 (show _ = some (Value.int .i64 (N : Int)) from rfl)
    have k1 := hK.out.cell 1 (show _ = some (Value.slice l.wa l.ws.length l.wc) from rfl)
    have k2 := hK.out.cell 2 (show _ = some (Value.bool (s 0)) from rfl)
    have k3 := hK.out.cell 3 (show _ = some (Value.bool (s 1)) from rfl)
    have k4 := hK.out.cell 4 (show _ = some (Value.bool (s 2)) from rfl)
    have k5 := hK.out.cell 5 (show _ = some (Value.bool (s 3)) from rfl)
    by_cases hlt : i < N
    · have hz1 : (i : Int) < (N : Int) := by omega
      have HI := Lib.hid hlt
      have E2 := Lib.hid (show IntKind.i64.wrap ((i : Int) + 1) = (i : Int) + 1 from IntWalk.i64_in _ (by have := HN5.out; omega))
      clear hlt hi
      go_wp2_with fail
      refine (AT.out (i : Int) wr).mono ?_
      rintro e w1 ⟨rfl, hb1⟩
      have B1 := Lib.hid (below_go hB.out hb1)
      have K1 := Lib.hid (Blk.alt (p := fun _ => False) hK.out (Alt.of_below hb1 (fun k hk e => by omega)) id)
      clear hb1 k0 k1 k2 k3 k4 k5 hB hK
      have G1 := Lib.hid (GG.out (i : Int) w1)
      unfold lookCells at G1 ⊢
      go_wp2_with fail
      refine G1.out.mono ?_
      rintro e w2 ⟨bL, bF, rfl, hg⟩
      have B2 := Lib.hid (below_go B1.out hg.bl)
      have K2 := Lib.hid (Blk.alt (p := fun _ => False) K1.out (Alt.of_below hg.bl (fun k hk e => by omega)) id)
      have S2 := Lib.hid (SO.out (i : Int) bL bF w2 ⟨hg.li, hg.is, HL.out.lo B2.out⟩ B2.out)
      rw [HS.out i] at S2
      clear hg B1 K1 G1
      have HFI : Hid (f i = true → (List.range (i + 1)).all f = true) := Lib.hid fun h => by rw [List.range_succ, List.all_append, hA.out]; simp [h]
      have HFN : Hid (f i = false → R = false) := Lib.hid fun h => by rw [HP.out]; exact List.all_eq_false.2 ⟨i, List.mem_range.2 HI.out, by simp [h]⟩
      go_wp2_with fail
      generalize f i = FI at *
      refine S2.out.mono ?_
      rintro e w3 ⟨rfl, hb3⟩
      have B3 := Lib.hid (below_go B2.out hb3)
      have K3 := Lib.hid (Blk.alt (p := fun _ => False) K2.out (Alt.of_below hb3 (fun k hk e => by omega)) id)
      clear hb3 S2 B2 K2
      cases FI
      · have HR := Lib.hid (HFN.out rfl)
        go_wp2_with fail
        go_returns
        exact ⟨by rw [HR.out]; first | done | rfl, B3.out⟩
      · have HR := Lib.hid (HFI.out rfl)
        have e2 := E2.out
        go_wp2_with fail
        go_roundg (N - (i + 1))
        case measure => have := HI.out; omega
        case rel => exact ⟨i + 1, by have := HI.out; omega, rfl, by simp, HR, B3, K3⟩
    · have hz1 : ¬ (i : Int) < (N : Int) := by omega
      have HR : Hid (R = true) := Lib.hid (by rw [HP.out, ← hA.out]; congr 1; rw [show i = N by omega])
      clear hA hlt hi
      go_wp2_with fail
      go_returns
      exact ⟨by rw [HR.out]; first | done | rfl, hB.out⟩

end Go.Proofs.Ytbbndcfnpfedpaa

namespace Go.Proofs.Ytbbndcfnpfedpaa
open Go.RowKit Go.Shelf

attribute [local go_sem] Oper.semAt_some

theorem Blk.put6 {W : World} {b : Nat} {y0 y1 y2 y3 y4 y5 : Value} {t : TypeId} (h : Blk W b #[y0, y1, y2, y3, y4, y5] t) (x0 x1 x2 x3 x4 x5 : Value) :
    Blk ((((((W.setCell ⟨b, 0, none⟩ x0).setCell ⟨b, 1, none⟩ x1).setCell ⟨b, 2, none⟩ x2).setCell ⟨b, 3, none⟩ x3).setCell ⟨b, 4, none⟩ x4).setCell ⟨b, 5, none⟩ x5) b #[x0, x1, x2, x3, x4, x5] t ∧
    Alt (fun k => k = b) W ((((((W.setCell ⟨b, 0, none⟩ x0).setCell ⟨b, 1, none⟩ x1).setCell ⟨b, 2, none⟩ x2).setCell ⟨b, 3, none⟩ x3).setCell ⟨b, 4, none⟩ x4).setCell ⟨b, 5, none⟩ x5) :=
  ⟨((((((h.setAt 0 x0).setAt 1 x1).setAt 2 x2).setAt 3 x3).setAt 4 x4).setAt 5 x5), ((((((Alt.refl (fun k => k = b) W).setCell (q := ⟨b, 0, none⟩) rfl x0).setCell (q := ⟨b, 1, none⟩) rfl x1).setCell (q := ⟨b, 2, none⟩) rfl x2).setCell (q := ⟨b, 3, none⟩) rfl x3).setCell (q := ⟨b, 4, none⟩) rfl x4).setCell (q := ⟨b, 5, none⟩) rfl x5⟩

theorem Alt.lowN {p : Nat → Prop} {a b : World} {B : Nat} (h : Below B a b) (hp : ∀ k, k < a.heap.size → ¬ p k) (hB : a.heap.size ≤ B) : Alt p a b := Alt.of_below h (fun k hk e => absurd hk (by omega))

/-- The error of a list of tellers, for a lane. -/
def chkE (l : Lan) (ts : List Int) : Int := if faultW l = 0 then (if riseIn 0 3 ts = true then 0 else 2) else faultW l
def offS (ts : List Int) : Int → Bool := withS (fun _ => false) ts
def wtZero : Array Value := #[.int .i64 0, .slice none 0 0, .bool false, .bool false, .bool false, .bool false]
def chkV (l : Lan) (ts : List Int) : Value := .agg (if chkE l ts = 0 then wtCells l (offS ts) else wtZero)

theorem riseIn_all {lo hi : Int} {ts : List Int} (h : riseIn lo hi ts = true) : ∀ x ∈ ts, lo ≤ x ∧ x ≤ hi := by
  unfold riseIn at h
  simp only [Bool.and_eq_true, List.all_eq_true] at h
  exact fun x hx => inB_iff.1 (h.2 x hx)

set_option maxRecDepth 100000 in
set_option maxHeartbeats 8000000 in
theorem check_any (l : Lan) (ts : List Int) (a : Option Addr) (c : Nat) (w : World) (hL : WdsAt w l.wa l.ws) (hX : IntsAt w a ts) (hn : l.ws.length ≤ 1000) (hm : ts.length ≤ 1000) :
    Calls Try.prog 52 #[l.val, .slice a ts.length c] w fun e w' => e = .returned (.tuple #[chkV l ts, .int .i64 (chkE l ts)]) ∧ Below w.heap.size w w' := by
  have CL := Lib.hid (fun W (hb : Below w.heap.size w W) => checkLane_any l W (hL.lo hb) hn)
  have RI := Lib.hid (fun W (hb : Below w.heap.size w W) => rises_any ts 0 3 a c W (hX.lo hb) hm)
  have WI := Lib.hid (fun W (hb : Below w.heap.size w W) (h : ∀ x ∈ ts, 0 ≤ x ∧ x ≤ 3) => with_any (fun _ => false) ts a c W (hX.lo hb) h hm)
  have HE : Hid (chkE l ts = if faultW l = 0 then (if riseIn 0 3 ts = true then 0 else 2) else faultW l) := Lib.hid rfl
  have HV : Hid (chkV l ts = .agg (if chkE l ts = 0 then wtCells l (offS ts) else wtZero)) := Lib.hid rfl
  have K0 := Lib.hid (show Blk ((w.alloc (.cells #[.int .i64 l.fs, .slice l.wa l.ws.length l.wc] 32)).alloc (.cells #[.int .i64 0, .slice none 0 0, .bool false, .bool false, .bool false, .bool false] 90)) w.heap.size #[.int .i64 l.fs, .slice l.wa l.ws.length l.wc] 32 from Blk.alt (p := fun _ => False) (Blk.new w _ _) ((Alt.refl _ _).alloc _) id)
  have T0 := Lib.hid (show Blk ((w.alloc (.cells #[.int .i64 l.fs, .slice l.wa l.ws.length l.wc] 32)).alloc (.cells #[.int .i64 0, .slice none 0 0, .bool false, .bool false, .bool false, .bool false] 90)) (w.heap.size + 1) #[.int .i64 0, .slice none 0 0, .bool false, .bool false, .bool false, .bool false] 90 from by
    have := Blk.new (w.alloc (.cells #[.int .i64 l.fs, .slice l.wa l.ws.length l.wc] 32)) #[.int .i64 0, .slice none 0 0, .bool false, .bool false, .bool false, .bool false] 90
    rwa [World.size_alloc] at this)
  have B0 := Lib.hid (below_al2 (below_al w (.cells #[.int .i64 l.fs, .slice l.wa l.ws.length l.wc] 32)) (.cells #[.int .i64 0, .slice none 0 0, .bool false, .bool false, .bool false, .bool false] 90))
  have HFA := Lib.hid (@riseIn_all 0 3 ts)
  have HOS : Hid (offS ts = withS (fun _ => false) ts) := Lib.hid rfl
  unfold wtCells at HV
  unfold wtZero at HV
  generalize faultW l = F at *
  generalize riseIn 0 3 ts = RB at *
  generalize chkE l ts = E at *
  generalize chkV l ts = V at *
  unfold Lan.val at *
  obtain ⟨fs, wa, wc, ws⟩ := l
  simp only at *
  clear hL hX hn hm
  go_enter Try.func52, Try.ntmps52
  go_wp2_with fail
  generalize (w.alloc _).alloc _ = W0 at K0 T0 B0 ⊢
  have k0 := K0.out.cell 0 (show _ = some (Value.int .i64 fs) from rfl)
  have k1 := K0.out.cell 1 (show _ = some (Value.slice wa ws.length wc) from rfl)
  go_wp2_with fail
  refine (CL.out _ B0.out).mono ?_
  rintro e w1 ⟨rfl, hb1⟩
  have B1 := Lib.hid (below_go B0.out hb1)
  have K1 := Lib.hid (Blk.alt (p := fun _ => False) K0.out (Alt.of_below hb1 (fun k hk e => by omega)) id)
  have T1 := Lib.hid (Blk.alt (p := fun _ => False) T0.out (Alt.of_below hb1 (fun k hk e => by omega)) id)
  clear hb1 k0 k1 K0 T0 B0 CL
  by_cases hF : F = 0
  · subst hF
    have HE2 : Hid (E = if RB = true then 0 else 2) := Lib.hid (by rw [HE.out, if_pos rfl])
    clear HE
    go_wp2_with fail
    refine (RI.out _ B1.out).mono ?_
    rintro e w2 ⟨rfl, hb2⟩
    have B2 := Lib.hid (below_go B1.out hb2)
    have K2 := Lib.hid (Blk.alt (p := fun _ => False) K1.out (Alt.of_below hb2 (fun k hk e => by omega)) id)
    have T2 := Lib.hid (Blk.alt (p := fun _ => False) T1.out (Alt.of_below hb2 (fun k hk e => by omega)) id)
    clear hb2 K1 T1 B1 RI
    cases RB
    · have HE3 := Lib.hid (show E = 2 from HE2.out)
      have HV3 : Hid (V = .agg #[.int .i64 0, .slice none 0 0, .bool false, .bool false, .bool false, .bool false]) := Lib.hid (by rw [HV.out, HE3.out, if_neg (by omega)])
      clear HE2 HV WI HFA HOS
      have f0 := T2.out.fr 0
      have f1 := T2.out.fr 1
      have f2 := T2.out.fr 2
      have f3 := T2.out.fr 3
      have f4 := T2.out.fr 4
      have f5 := T2.out.fr 5
      have t0 := T2.out.cell 0 (show _ = some (Value.int .i64 0) from rfl)
      have t1 := T2.out.cell 1 (show _ = some (Value.slice none 0 0) from rfl)
      have t2 := T2.out.cell 2 (show _ = some (Value.bool false) from rfl)
      have t3 := T2.out.cell 3 (show _ = some (Value.bool false) from rfl)
      have t4 := T2.out.cell 4 (show _ = some (Value.bool false) from rfl)
      have t5 := T2.out.cell 5 (show _ = some (Value.bool false) from rfl)
      have PT := Lib.hid (T2.out.put6 (.int .i64 0) (.slice none 0 0) (.bool false) (.bool false) (.bool false) (.bool false))
      go_wp2_with fail
      have pt := PT.out
      generalize World.setCell _ _ _ = X at pt ⊢
      have h0 := pt.1.cell 0 (show _ = some (Value.int .i64 0) from rfl)
      have h1 := pt.1.cell 1 (show _ = some (Value.slice none 0 0) from rfl)
      have h2 := pt.1.cell 2 (show _ = some (Value.bool false) from rfl)
      have h3 := pt.1.cell 3 (show _ = some (Value.bool false) from rfl)
      have h4 := pt.1.cell 4 (show _ = some (Value.bool false) from rfl)
      have h5 := pt.1.cell 5 (show _ = some (Value.bool false) from rfl)
      refine bodyPost_ret (v := .tuple #[.agg #[.int .i64 0, .slice none 0 0, .bool false, .bool false, .bool false, .bool false], .int .i64 2]) (by simp [results, Try.results52, go_sem, h0, h1, h2, h3, h4, h5]) rfl ⟨by rw [HE3.out, HV3.out], ?_⟩
      exact ((Alt.of_below (p := fun k => w.heap.size ≤ k) B2.out (fun k hk e => e)).trans (pt.2.mono fun k _ e => by omega)).below (Nat.le_refl _) fun _ e => e
    · have HE3 := Lib.hid (show E = 0 from HE2.out)
      have W2 := Lib.hid (fun W (hb : Below w.heap.size w W) => WI.out W hb (HFA.out rfl))
      rw [← HOS.out] at W2
      generalize offS ts = S at *
      have HV3 : Hid (V = .agg #[.int .i64 fs, .slice wa ws.length wc, .bool (S 0), .bool (S 1), .bool (S 2), .bool (S 3)]) := Lib.hid (by rw [HV.out, HE3.out, if_pos rfl])
      have hfv : fVal (fun _ => false) = .agg #[.bool false, .bool false, .bool false, .bool false] := rfl
      rw [hfv] at W2
      unfold fVal fCells at W2
      clear HE2 HV WI HFA HOS hfv
      have k0 := K2.out.cell 0 (show _ = some (Value.int .i64 fs) from rfl)
      have k1 := K2.out.cell 1 (show _ = some (Value.slice wa ws.length wc) from rfl)
      have BD := Lib.hid (show Below w.heap.size w w2.drew from B2.out.drew)
      have SP := Lib.hid (show ∀ W, Below w2.heap.size w2 W → (W.cell? ⟨w.heap.size, 0, none⟩ = some (.int .i64 fs) ∧ W.cell? ⟨w.heap.size, 1, none⟩ = some (.slice wa ws.length wc)) from fun W hb => ⟨cell_lo hb (K2.out.cell 0 rfl), cell_lo hb (K2.out.cell 1 rfl)⟩)
      have TP := Lib.hid (show ∀ W, Below w2.heap.size w2 W → Blk W (w.heap.size + 1) #[.int .i64 0, .slice none 0 0, .bool false, .bool false, .bool false, .bool false] 90 from fun W hb => Blk.alt (p := fun _ => False) T2.out (Alt.of_below hb (fun k hk e => by omega)) id)
      go_wp2_with fail
      go_region_with (first | (go_at_call 64; (with_reducible refine (W2.out _ BD.out).mono ?_); rintro e w3 ⟨rfl, hb3⟩; have H3 := Lib.hid (below_go (Below.refl _ w2).drew hb3); have T3 := Lib.hid (TP.out _ H3.out); obtain ⟨k0, k1⟩ := SP.out _ H3.out; have f0 := T3.out.fr 0; have f1 := T3.out.fr 1; have f2 := T3.out.fr 2; have f3 := T3.out.fr 3; have f4 := T3.out.fr 4; have f5 := T3.out.fr 5; have t0 := T3.out.cell 0 (show _ = some (Value.int .i64 0) from rfl); have t1 := T3.out.cell 1 (show _ = some (Value.slice none 0 0) from rfl); have t2 := T3.out.cell 2 (show _ = some (Value.bool false) from rfl); have t3 := T3.out.cell 3 (show _ = some (Value.bool false) from rfl); have t4 := T3.out.cell 4 (show _ = some (Value.bool false) from rfl); have t5 := T3.out.cell 5 (show _ = some (Value.bool false) from rfl); have PT := Lib.hid (T3.out.put6 (.int .i64 fs) (.slice wa ws.length wc) (.bool (S 0)) (.bool (S 1)) (.bool (S 2)) (.bool (S 3)))))
      all_goals
        go_wp2_with fail
        have pt := PT.out
        clear t0 t1 t2 t3 t4 t5 f0 f1 f2 f3 f4 f5
        generalize World.setCell _ _ _ = X at pt ⊢
        have h0 := pt.1.cell 0 (show _ = some (Value.int .i64 fs) from rfl)
        have h1 := pt.1.cell 1 (show _ = some (Value.slice wa ws.length wc) from rfl)
        have h2 := pt.1.cell 2 (show _ = some (Value.bool (S 0)) from rfl)
        have h3 := pt.1.cell 3 (show _ = some (Value.bool (S 1)) from rfl)
        have h4 := pt.1.cell 4 (show _ = some (Value.bool (S 2)) from rfl)
        have h5 := pt.1.cell 5 (show _ = some (Value.bool (S 3)) from rfl)
        refine bodyPost_ret (v := .tuple #[.agg #[.int .i64 fs, .slice wa ws.length wc, .bool (S 0), .bool (S 1), .bool (S 2), .bool (S 3)], .int .i64 0]) (by simp [results, Try.results52, go_sem, h0, h1, h2, h3, h4, h5]) rfl ⟨by rw [HE3.out, HV3.out], ?_⟩
        exact ((Alt.of_below (p := fun k => w.heap.size ≤ k) (below_go B2.out H3.out) (fun k hk e => e)).trans (pt.2.mono fun k _ e => by omega)).below (Nat.le_refl _) fun _ e => e
  · have HE3 : Hid (E = F) := Lib.hid (by rw [HE.out, if_neg hF])
    have HV3 : Hid (V = .agg #[.int .i64 0, .slice none 0 0, .bool false, .bool false, .bool false, .bool false]) := Lib.hid (by rw [HV.out, HE3.out, if_neg hF])
    have hF2 : (F == 0) = false := by simpa using hF
    clear HE HV WI HFA HOS RI
    have f0 := T1.out.fr 0
    have f1 := T1.out.fr 1
    have f2 := T1.out.fr 2
    have f3 := T1.out.fr 3
    have f4 := T1.out.fr 4
    have f5 := T1.out.fr 5
    have t0 := T1.out.cell 0 (show _ = some (Value.int .i64 0) from rfl)
    have t1 := T1.out.cell 1 (show _ = some (Value.slice none 0 0) from rfl)
    have t2 := T1.out.cell 2 (show _ = some (Value.bool false) from rfl)
    have t3 := T1.out.cell 3 (show _ = some (Value.bool false) from rfl)
    have t4 := T1.out.cell 4 (show _ = some (Value.bool false) from rfl)
    have t5 := T1.out.cell 5 (show _ = some (Value.bool false) from rfl)
    have PT := Lib.hid (T1.out.put6 (.int .i64 0) (.slice none 0 0) (.bool false) (.bool false) (.bool false) (.bool false))
    go_wp2_with fail
    have pt := PT.out
    generalize World.setCell _ _ _ = X at pt ⊢
    have h0 := pt.1.cell 0 (show _ = some (Value.int .i64 0) from rfl)
    have h1 := pt.1.cell 1 (show _ = some (Value.slice none 0 0) from rfl)
    have h2 := pt.1.cell 2 (show _ = some (Value.bool false) from rfl)
    have h3 := pt.1.cell 3 (show _ = some (Value.bool false) from rfl)
    have h4 := pt.1.cell 4 (show _ = some (Value.bool false) from rfl)
    have h5 := pt.1.cell 5 (show _ = some (Value.bool false) from rfl)
    refine bodyPost_ret (v := .tuple #[.agg #[.int .i64 0, .slice none 0 0, .bool false, .bool false, .bool false, .bool false], .int .i64 F]) (by simp [results, Try.results52, go_sem, h0, h1, h2, h3, h4, h5]) rfl ⟨by rw [HE3.out, HV3.out], ?_⟩
    exact ((Alt.of_below (p := fun k => w.heap.size ≤ k) B1.out (fun k hk e => e)).trans (pt.2.mono fun k _ e => by omega)).below (Nat.le_refl _) fun _ e => e

/-- What a lane without an error says of itself. -/
theorem fault0 {l : Lan} (h : faultW l = 0) : (∀ x ∈ l.ws, 0 ≤ x.te ∧ x.te ≤ 3) ∧ l.ws.length ≤ 30 ∧ 1 ≤ l.fs ∧ l.fs ≤ 5 ∧ (∀ x ∈ l.ws, wrongW l.fs x = false) := by
  unfold faultW at h
  split at h
  · omega
  · next h30 =>
    split at h
    · next hv =>
      unfold validW at hv
      simp only [Bool.and_eq_true, Bool.not_eq_true', List.any_eq_false] at hv
      have h1 := inB_iff.1 hv.1
      refine ⟨fun x hx => ?_, by omega, h1.1, h1.2, fun x hx => by simpa using hv.2 x hx⟩
      have := hv.2 x hx
      unfold wrongW at this
      simp only [Bool.or_eq_true, Bool.not_eq_true', decide_eq_true_eq, not_or] at this
      have h3 : inB x.te 0 3 = true := by simpa using this.2.2.1
      exact inB_iff.1 h3
    · omega

theorem chkE_zero {l : Lan} {ts : List Int} (h : chkE l ts = 0) : faultW l = 0 ∧ riseIn 0 3 ts = true := by
  unfold chkE at h
  split at h
  · next h0 =>
    refine ⟨h0, ?_⟩
    split at h
    · next h1 => exact h1
    · omega
  · next h0 => exact absurd h h0

def explB (l : Lan) (ts : List Int) : Bool := decide (chkE l ts = 0) && possB l (offS ts)

set_option maxRecDepth 100000 in
set_option maxHeartbeats 4000000 in
theorem explains_any (l : Lan) (ts : List Int) (a : Option Addr) (c : Nat) (w : World) (hL : WdsAt w l.wa l.ws) (hX : IntsAt w a ts) (hn : l.ws.length ≤ 1000) (hm : ts.length ≤ 1000) (hga : ∀ g o, l.wa = some ⟨g, o, none⟩ → g < w.heap.size) :
    Calls Try.prog 21 #[l.val, .slice a ts.length c] w fun e w' => e = .returned (.tuple #[.bool (explB l ts), .int .i64 (chkE l ts)]) ∧ Below w.heap.size w w' := by
  have CK := Lib.hid (fun W (hb : Below w.heap.size w W) => check_any l ts a c W (hL.lo hb) (hX.lo hb) hn hm)
  have PO := Lib.hid (fun W (hb : Below w.heap.size w W) (h : chkE l ts = 0) => possible_any l (offS ts) W (hL.lo hb) (fault0 (chkE_zero h).1).1 hn (by have := (fault0 (chkE_zero h).1).2.2.1; omega) (fault0 (chkE_zero h).1).2.2.2.1 (fun g o e => Nat.lt_of_lt_of_le (hga g o e) hb.size))
  have HB : Hid (explB l ts = (decide (chkE l ts = 0) && possB l (offS ts))) := Lib.hid rfl
  have HV : Hid (chkV l ts = .agg (if chkE l ts = 0 then wtCells l (offS ts) else wtZero)) := Lib.hid rfl
  have B0 := Lib.hid (below_al w (.cells #[.int .i64 l.fs, .slice l.wa l.ws.length l.wc] 32))
  generalize chkE l ts = E at *
  generalize chkV l ts = V at *
  generalize explB l ts = R at *
  generalize offS ts = S at *
  generalize possB l S = PB at *
  unfold wtCells at HV PO
  unfold wtZero at HV
  unfold Lan.val at *
  obtain ⟨fs, wa, wc, ws⟩ := l
  simp only at *
  clear hL hX hn hm hga
  by_cases hE : E = 0
  · subst hE
    have HV2 := HV.out
    rw [if_pos rfl] at HV2
    have HR : Hid (R = PB) := Lib.hid (by rw [HB.out]; simp)
    have PO2 := Lib.hid (fun W hb => PO.out W hb rfl)
    clear HV HB PO
    subst HV2
    go_enter Try.func21, Try.ntmps21
    go_wp2_with fail
    refine (CK.out _ B0.out).mono ?_
    rintro e w1 ⟨rfl, hb1⟩
    have B1 := Lib.hid (below_go B0.out hb1)
    clear hb1 B0 CK
    have B2 := Lib.hid (below_al2 B1.out (.cells #[.int .i64 fs, .slice wa ws.length wc, .bool (S 0), .bool (S 1), .bool (S 2), .bool (S 3)] 90))
    go_wp2_with fail
    refine (PO2.out _ B2.out).mono ?_
    rintro e w3 ⟨rfl, hb3⟩
    have B3 := Lib.hid (below_go B2.out hb3)
    clear hb3 PO2
    go_wp2_with fail
    go_returns
    exact ⟨by rw [HR.out]; first | done | rfl, B3.out⟩
  · have HV2 := HV.out
    rw [if_neg hE] at HV2
    have HR : Hid (R = false) := Lib.hid (by rw [HB.out]; simp [hE])
    have hE2 : (E == 0) = false := by simpa using hE
    clear HV HB PO
    subst HV2
    go_enter Try.func21, Try.ntmps21
    go_wp2_with fail
    refine (CK.out _ B0.out).mono ?_
    rintro e w1 ⟨rfl, hb1⟩
    have B1 := Lib.hid (below_go B0.out hb1)
    clear hb1 B0 CK
    have B2 := Lib.hid (below_al2 B1.out (.cells #[.int .i64 0, .slice none 0 0, .bool false, .bool false, .bool false, .bool false] 90))
    go_wp2_with fail
    go_returns
    exact ⟨by rw [HR.out]; first | done | rfl, B2.out⟩

end Go.Proofs.Ytbbndcfnpfedpaa

namespace Go.Proofs.Ytbbndcfnpfedpaa
open Go.RowKit Go.Shelf

attribute [local go_sem] Oper.semAt_some

theorem info105 : (Try.prog.info? 105).map (fun i => (i.zero, i.size, i.bytes)) = some (some (.agg #[.int .i64 0, .int .i64 0]), 2, 16) := by kernel_rfl

def p2C (p : Int × Int) : List Value := [.int .i64 p.1, .int .i64 p.2]
def p2Cells (L : List (Int × Int)) : List Value := L.flatMap p2C
theorem p2Cells_snoc (L : List (Int × Int)) (x : Int × Int) : p2Cells (L ++ [x]) = p2Cells L ++ p2C x := by unfold p2Cells; simp
theorem p2Cells_at : ∀ (L : List (Int × Int)) (i : Nat) (b : Int × Int), L[i]? = some b → (p2Cells L)[i * 2]? = some (.int .i64 b.1) ∧ (p2Cells L)[i * 2 + 1]? = some (.int .i64 b.2)
  | x :: L, 0, b, h => by simp at h; subst h; exact ⟨rfl, rfl⟩
  | x :: L, i + 1, b, h => by
    have := p2Cells_at L i b (by simpa using h)
    have e : p2Cells (x :: L) = .int .i64 x.1 :: .int .i64 x.2 :: p2Cells L := rfl
    rw [e, show (i + 1) * 2 = i * 2 + 1 + 1 by omega]
    exact this
/-- Pairs of numbers lie in a slice. -/
def P2At (w : World) (a : Option Addr) (L : List (Int × Int)) : Prop := ∀ (i : Nat) (x : Int × Int), L[i]? = some x → ∃ (g o : Nat), a = some ⟨g, o, none⟩ ∧ w.cell? ⟨g, o + i * 2, none⟩ = some (.int .i64 x.1) ∧ w.cell? ⟨g, o + i * 2 + 1, none⟩ = some (.int .i64 x.2)
theorem P2At.lo {w W : World} {a : Option Addr} {L : List (Int × Int)} (h : P2At w a L) (hb : Below w.heap.size w W) : P2At W a L := by
  intro i x hx
  obtain ⟨g, o, e, h1, h2⟩ := h i x hx
  exact ⟨g, o, e, cell_lo hb h1, cell_lo hb h2⟩
theorem P2At.alt {w W : World} {a : Option Addr} {L : List (Int × Int)} {p : Nat → Prop} (h : P2At w a L) (hb : Alt p w W) (hp : ∀ g o, a = some ⟨g, o, none⟩ → ¬ p g) : P2At W a L := by
  intro i x hx
  obtain ⟨g, o, e, h1, h2⟩ := h i x hx
  exact ⟨g, o, e, alt_cell hb h1 (hp g o e), alt_cell hb h2 (hp g o e)⟩
theorem P2At.nil (w : World) (a : Option Addr) : P2At w a [] := fun i x h => by simp at h
theorem own_p2 {W : World} {base : Nat} {t : TypeId} {v : Value} {L : List (Int × Int)} (h : W.ownsRow base t 2 v L.length (p2Cells L)) : ∃ a c, v = .slice a L.length c ∧ P2At W a L ∧ ∀ g o, a = some ⟨g, o, none⟩ → base ≤ g ∧ g < W.heap.size := by
  by_cases h0 : 0 < L.length
  · obtain ⟨g, cap, rfl, hb, hl⟩ := h.form h0
    refine ⟨some ⟨g, 0, none⟩, cap, rfl, ?_, fun g' o e => by cases e; exact ⟨hb, hl⟩⟩
    intro i l hi
    obtain ⟨k1, k2⟩ := p2Cells_at L i l hi
    have hc : ∀ j u, (p2Cells L)[j]? = some u → W.cell? ⟨g, j, none⟩ = some u := fun j u hj => (h.cellAt j (by have := (List.getElem?_eq_some_iff.1 hj).1; have := h.1; omega)).trans hj
    exact ⟨g, 0, rfl, by rw [Nat.zero_add]; exact hc _ _ k1, by rw [Nat.zero_add]; exact hc _ _ k2⟩
  · have : L = [] := List.eq_nil_of_length_eq_zero (by omega)
    subst this
    rcases h.2 with ⟨rfl, _⟩ | ⟨g, cap, cur, rfl, hb, hg, _⟩
    · exact ⟨none, 0, rfl, fun i l h => by simp at h, fun g o e => by cases e⟩
    · refine ⟨some ⟨g, 0, none⟩, cap, rfl, fun i l h => by simp at h, fun g' o e => by cases e; exact ⟨hb, (Array.getElem?_eq_some_iff.1 hg).1⟩⟩

/-- 'out = append(out, ..)': the variable's box, and the row. -/
theorem boxed_app {W w1 : World} {base B : Nat} {t e : TypeId} {size : Nat} {v v' : Value} {k m : Nat} {xs ys : List Value} {tmp : Obj}
    (hv : Boxed W B t v) (hte : t ≠ e) (hrow : W.ownsRow base e size v k xs) (hown' : w1.ownsRow base e size v' m ys) (hgrow : (W.alloc tmp).grownBy w1 v.ownBlock) :
    Boxed w1 B t v ∧ Boxed (w1.setCell ⟨B, 0, none⟩ v') B t v' ∧ (w1.setCell ⟨B, 0, none⟩ v').ownsRow base e size v' m ys ∧ Alt (fun k => k = B ∨ base ≤ k) W (w1.setCell ⟨B, 0, none⟩ v') := by
  have hv1 : Boxed w1 B t v := (hv.alloc tmp).kept hgrow (hv.not_row hte hrow)
  refine ⟨hv1, hv1.set v', hown'.kept (grownBy_setCell' w1 B v') (.inr (hv1.not_row hte hown').symm), ?_⟩
  exact ((((Alt.refl _ W).alloc tmp).grown hgrow (fun k hk => .inr (own_base hrow hk))).setCell (q := ⟨B, 0, none⟩) (.inl rfl) v')

theorem IterA.later {α : Type} {P : Program} {g : Nat} {lb : Array Value} {encs : α → Array Value} {xs : List α} {K : Nat} {Rd : Nat → Prop} {w w1 : World} (h : IterA P g lb encs xs K Rd w) (hA : Alt (fun k => ¬ Rd k) w w1) : IterA P g lb encs xs K Rd w1 :=
  fun l J Jx W hW => h l J Jx W (hA.trans hW)

set_option maxRecDepth 100000 in
set_option maxHeartbeats 8000000 in
theorem appSeqR_any (lb : Array Value) (xs : List (Int × Int)) (K : Nat) (Rd : Nat → Prop) (w : World)
    (hI : IterA Try.prog 90 lb (fun p : Int × Int => #[rVal p]) xs K Rd w) (hRd : ∀ k, Rd k → k < w.heap.size) (hn : xs.length ≤ 1000) :
    Calls Try.prog 87 #[.slice none 0 0, .func (.func 90) #[] lb] w fun e W' => ∃ v, e = .returned v ∧ W'.ownsRow w.heap.size 105 2 v xs.length (p2Cells xs) ∧ Below w.heap.size w W' := by
  obtain ⟨i0, hi, hz0, hz1, hz2⟩ := info_parts info105
  refine (callsIn_wide (n := 0)).1 ?_
  refine callsIn_of_wp_marks Try.func87 rfl trivial ?_ rfl
  simp only [Try.ntmps87, List.size_toArray, List.length_cons, List.length_nil, Nat.reduceAdd, Nat.reduceSub, Array.replicate_succ, Array.replicate_zero, List.push_toArray, List.append_toArray, List.nil_append, List.cons_append]
  gi_wp2
  have bO := Boxed.new w 100 (.slice none 0 0)
  have A0 : Alt (fun k => w.heap.size ≤ k) w (w.alloc (.cells #[.slice none 0 0] 100)) := (Alt.refl _ _).alloc _
  have I0 := hI.later ((Alt.refl (fun k => ¬ Rd k) w).alloc (.cells #[.slice none 0 0] 100))
  have hsz : (w.alloc (.cells #[.slice none 0 0] 100)).heap.size = w.heap.size + 1 := by simp
  generalize w.alloc (.cells #[.slice none 0 0] 100) = W0 at *
  refine wp_iterA (gf := 90) (lb := lb) rfl eg90 I0 (fun k h => by have := hRd k h; omega) (fun _ => rfl)
    (fun k => w.heap.size ≤ k ∧ ¬ Rng W0.heap.size (2 + K) k) (fun k h => ⟨fun e => by have := hRd k e; omega, h.2⟩)
    (fun pre W => (∃ v, Boxed W w.heap.size 100 v ∧ W.ownsRow (W0.heap.size + (2 + K)) 105 2 v pre.length (p2Cells pre)) ∧ Alt (fun k => w.heap.size ≤ k) w W)
    (fun pre x a1 W => ((∃ v, Boxed W w.heap.size 100 v ∧ W.ownsRow (W0.heap.size + (2 + K)) 105 2 v pre.length (p2Cells pre)) ∧ Alt (fun k => w.heap.size ≤ k) w W) ∧ ∃ b5, W0.heap.size + (2 + K) ≤ b5 ∧ Blk W b5 #[.int .i64 x.1, .int .i64 x.2] 105 ∧ a1 = { tmps := #[.slice none 0 0, .func (.func 90) #[] lb, .pointer (some ⟨w.heap.size, 0, none⟩), undef, .slice none 0 0, .pointer (some ⟨b5, 0, none⟩), .func (.func 90) #[] lb, .agg #[.int .i64 x.1, .int .i64 x.2], undef, undef, undef, undef, undef], defers := [] })
    (fun _ _ _ => False)
    (fun pre A B h hAB => ?stI) (fun pre x a A B h hAB => ?stM) (fun _ _ _ _ h _ => h) ⟨⟨_, bO, World.ownsRow_nil _ _ _ _⟩, A0⟩ ?assign ?body ?done ?stop
  case stI =>
    obtain ⟨⟨v, hv, hr⟩, hA⟩ := h
    exact ⟨⟨v, Boxed.alt hv hAB (fun e => by unfold Rng at e; omega), ownsRow_alt hr hAB (fun g hg e => by unfold Rng at e; omega)⟩, hA.trans (hAB.mono fun k _ e => by unfold Rng at e; omega)⟩
  case stM =>
    obtain ⟨⟨⟨v, hv, hr⟩, hA⟩, b5, hb5, k5, e⟩ := h
    exact ⟨⟨⟨v, Boxed.alt hv hAB (fun e => by unfold Rng at e; omega), ownsRow_alt hr hAB (fun g hg e => by unfold Rng at e; omega)⟩, hA.trans (hAB.mono fun k _ e => by unfold Rng at e; omega)⟩, b5, hb5, Blk.alt k5 hAB (fun e => by unfold Rng at e; omega), e⟩
  case assign =>
    intro l pre x post A hx hz hl hr h
    have HX := Lib.hid hz
    have HH := Lib.hid h
    unfold rVal
    clear hx hz hl hr h
    gi_wp2
    obtain ⟨⟨v, hv, hrow⟩, hA⟩ := HH.out
    exact ⟨(Alt.refl _ _).alloc _, ⟨⟨v, Boxed.alt (p := fun _ => False) hv ((Alt.refl _ _).alloc _) id, ownsRow_alt (p := fun _ => False) hrow ((Alt.refl _ _).alloc _) (fun _ _ => id)⟩, hA.alloc _⟩, A.heap.size, HX.out, Blk.new _ _ _, rfl⟩
  case body =>
    rintro l pre x post a1 A hx hz hl hr ⟨⟨⟨v, hv, hrow⟩, hA⟩, b5, hb5, k5, rfl⟩
    have hc := hv.cell
    have hpl : pre.length + 1 ≤ 1000 := by rw [hx] at hn; simp at hn; omega
    have hBS : w.heap.size ≤ A.heap.size := hA.size
    have c1 := k5.cell 0 (show _ = some (Value.int .i64 x.1) from rfl)
    have c2 := k5.cell 1 (show _ = some (Value.int .i64 x.2) from rfl)
    obtain ⟨p, q⟩ := x
    simp only at c1 c2
    have HPS := Lib.hid (p2Cells_snoc pre (p, q))
    gi_wp2_with (gi_at_builtin; refine wpListIn_append_own _ rfl _ _ 100 rfl (W0.heap.size + (2 + K)) 105 i0 _ 2 16 Try.underlying100 hi hz0 hz1 hz2 rfl (by decide) _ _ _ rfl (hrow.alloc _) ⟨A.heap.size, 0, none⟩ 1 1 (p2C (p, q)) rfl rfl (World.news_of_block (cs := #[.int .i64 p, .int .i64 q]) (t := 105) (fr := (0, 0)) (heap_alloc_new A _)) (by simp [Value.oneCell', p2C]) (by unfold maxLen; omega) (by omega) (by simp; omega) ?_; intro v' w1 hown' hgrow _; obtain ⟨g', cap', rfl, _, _⟩ := hown'.form (by omega); obtain ⟨hv1, hv2, hr2, ha2⟩ := boxed_app hv (by decide) hrow hown' hgrow; have hc1 := hv1.cell; have hf1 := hv1.frozen)
    exact ⟨ha2.mono fun k _ e => by unfold Rng; omega, ⟨_, hv2, by rw [HPS.out, List.length_append]; first | exact hr2 | (rw [hsz] at hr2; exact hr2)⟩, hA.trans (ha2.mono fun k _ e => by omega)⟩
  case done =>
    rintro B ⟨⟨v, hv, hrow⟩, hA⟩ hz hK
    have hc := hv.cell
    gi_wp2
    refine leave_ret hK (results_tmp rfl _ _ _) ⟨v, rfl, ?_, ?_⟩
    · exact own_mono (ownsRow_alt hrow (Alt.put (p := fun k => k = W0.heap.size) rfl _) (fun g hg e => by omega)) (by omega)
    · exact (hA.putObj (l := W0.heap.size) (by show w.heap.size ≤ W0.heap.size; omega) _).below (Nat.le_refl _) (fun k h => h)
  case stop =>
    intro c pre x post B hx h
    exact h.elim

theorem collect_any (lb : Array Value) (xs : List (Int × Int)) (K : Nat) (Rd : Nat → Prop) (w : World)
    (hI : IterA Try.prog 90 lb (fun p : Int × Int => #[rVal p]) xs K Rd w) (hRd : ∀ k, Rd k → k < w.heap.size) (hn : xs.length ≤ 1000) :
    Calls Try.prog 77 #[.func (.func 90) #[] lb] w fun e W' => ∃ v, e = .returned v ∧ W'.ownsRow w.heap.size 105 2 v xs.length (p2Cells xs) ∧ Below w.heap.size w W' := by
  have C := Lib.hid (appSeqR_any lb xs K Rd w hI hRd hn)
  clear hI hRd hn
  go_enter Try.func77, Try.ntmps77
  go_wp2_with fail
  refine C.out.mono ?_
  rintro e W ⟨v, rfl, ho, hb⟩
  have HO := Lib.hid ho; have HB := Lib.hid hb
  clear ho hb
  go_wp2_with fail
  go_ret
  exact ⟨v, rfl, HO.out, HB.out⟩

theorem rolls_len : rolls.length = 66 := by kernel_rfl
theorem games_len (ws : List Wd) (s : Int → Bool) (fr : Int) : (gamesL ws s fr).length ≤ 66 := by
  have := List.length_filter_le (fun p : Int × Int => fitsB ws s fr p.1 p.2) rolls
  rw [rolls_len] at this
  exact this

/-- What is read of the games of a frame: a list in memory. -/
def RowR (w : World) (e : Ending) (gs : List (Int × Int)) (w' : World) : Prop := ∃ a c, e = .returned (.slice a gs.length c) ∧ P2At w' a gs ∧ (∀ g o, a = some ⟨g, o, none⟩ → w.heap.size ≤ g ∧ g < w'.heap.size) ∧ Below w.heap.size w w'
theorem collectR_any (l : Lan) (s : Int → Bool) (fr : Int) (bL bF : Nat) (w : World) (hO : ONc l s fr bL bF w) (hT : ∀ x ∈ l.ws, 0 ≤ x.te ∧ x.te ≤ 3) (hn : l.ws.length ≤ 1000) (hga : ∀ g o, l.wa = some ⟨g, o, none⟩ → g < w.heap.size) :
    Calls Try.prog 77 #[.func (.func 90) #[] #[.pointer (some ⟨bL, 0, none⟩), .pointer (some ⟨bF, 0, none⟩)]] w fun e w' => RowR w e (gamesL l.ws s fr) w' := by
  have hRd : ∀ k, RdO l bL bF k → k < w.heap.size := fun k h => by
    rcases h with rfl | rfl | ⟨o, e⟩
    · exact hO.li.lt
    · exact hO.is.lt
    · exact hga _ _ e
  refine (collect_any _ _ _ _ w (only1_iter l s fr bL bF w hO hT hn hga) hRd (by have := games_len l.ws s fr; omega)).mono ?_
  rintro e W ⟨v, rfl, ho, hb⟩
  obtain ⟨a, c, rfl, h1, h2⟩ := own_p2 ho
  exact ⟨a, c, rfl, h1, h2, hb⟩

end Go.Proofs.Ytbbndcfnpfedpaa

namespace Go.Proofs.Ytbbndcfnpfedpaa
open Go.RowKit Go.Shelf

attribute [local go_sem] Oper.semAt_some

theorem info100 : (Try.prog.info? 100).map (fun i => (i.zero, i.size, i.bytes)) = some (some (.slice none 0 0), 1, 24) := by kernel_rfl

def frmL (l : Lan) (s : Int → Bool) : List (List (Int × Int)) := (List.range l.fs.toNat).map fun (f : Nat) => gamesL l.ws s (f : Int)
def gofE (l : Lan) (ts : List Int) : Int := if chkE l ts = 0 then (if possB l (offS ts) = true then 0 else 9) else chkE l ts
def gofL (l : Lan) (ts : List Int) : List (List (Int × Int)) := if gofE l ts = 0 then frmL l (offS ts) else []

/-- Rows of pairs lie in a slice, in blocks from lo up to hi. -/
def FrAt (lo hi : Nat) (w : World) (a : Option Addr) (L : List (List (Int × Int))) : Prop := ∀ (i : Nat) (gs : List (Int × Int)), L[i]? = some gs → ∃ (g o : Nat) (a' : Option Addr) (c' : Nat), a = some ⟨g, o, none⟩ ∧ (lo ≤ g ∧ g < hi) ∧ w.cell? ⟨g, o + i, none⟩ = some (.slice a' gs.length c') ∧ P2At w a' gs ∧ ∀ g' o', a' = some ⟨g', o', none⟩ → lo ≤ g' ∧ g' < hi
theorem FrAt.alt {lo hi : Nat} {w W : World} {a : Option Addr} {L : List (List (Int × Int))} {p : Nat → Prop} (h : FrAt lo hi w a L) (hb : Alt p w W) (hp : ∀ k, lo ≤ k → k < hi → ¬ p k) : FrAt lo hi W a L := fun i gs hi => by
  obtain ⟨g, o, a', c', e, h0, h1, h2, h3⟩ := h i gs hi
  exact ⟨g, o, a', c', e, h0, alt_cell hb h1 (hp _ h0.1 h0.2), h2.alt hb (fun g o e => hp _ (h3 g o e).1 (h3 g o e).2), h3⟩

def FrOk (lo : Nat) (W : World) (ob : Option Nat) (L : List (List (Int × Int))) (hs : List Value) : Prop := ∀ (i : Nat) (gs : List (Int × Int)), L[i]? = some gs → ∃ (a : Option Addr) (c : Nat), hs[i]? = some (.slice a gs.length c) ∧ P2At W a gs ∧ ∀ g o, a = some ⟨g, o, none⟩ → (lo ≤ g ∧ g < W.heap.size) ∧ ob ≠ some g
/-- A list of rows that may grow, in a block from base on. -/
def FW (lo base : Nat) (W : World) (v : Value) (L : List (List (Int × Int))) : Prop := ∃ hs, W.ownsRow base 100 1 v L.length hs ∧ FrOk lo W v.ownBlock L hs
theorem FW.nil (lo base : Nat) (W : World) : FW lo base W (.slice none 0 0) [] := ⟨[], ⟨rfl, .inl ⟨rfl, rfl⟩⟩, fun i l h => by simp at h⟩
theorem FW.lo {lo base : Nat} {W W' : World} {v : Value} {L : List (List (Int × Int))} (h : FW lo base W v L) (hb : Below W.heap.size W W') : FW lo base W' v L := by
  obtain ⟨hs, h1, h2⟩ := h
  refine ⟨hs, h1.kept (below_row hb) (by cases hk : v.ownBlock with | none => exact .inl rfl | some k => exact .inr (fun e => by cases e)), fun i gs hi => ?_⟩
  obtain ⟨a, c, e1, e2, e3⟩ := h2 i gs hi
  exact ⟨a, c, e1, e2.lo hb, fun g o e => ⟨⟨(e3 g o e).1.1, Nat.lt_of_lt_of_le (e3 g o e).1.2 hb.size⟩, (e3 g o e).2⟩⟩
theorem FW.push {lo base : Nat} {W w1 : World} {v v' : Value} {L : List (List (Int × Int))} {hs : List Value} {gs : List (Int × Int)} {a3 : Option Addr} {c3 : Nat} {o : Obj} (hr : FrOk lo W v.ownBlock L hs) (hlen : hs.length = L.length)
    (hg : (W.alloc o).grownBy w1 v.ownBlock) (ho : w1.ownsRow base 100 1 v' (L.length + 1) (hs ++ [.slice a3 gs.length c3])) (hloc : v'.ownBlock = v.ownBlock ∨ v'.ownBlock = some (W.alloc o).heap.size)
    (h3 : P2At W a3 gs) (h4 : ∀ g o, a3 = some ⟨g, o, none⟩ → (lo ≤ g ∧ g < W.heap.size) ∧ v.ownBlock ≠ some g) : FW lo base w1 v' (L ++ [gs]) := by
  have hA : Alt (fun k => v.ownBlock = some k) W w1 := ((Alt.refl _ W).alloc o).grown hg (fun k e => e)
  have keep : ∀ a (l : List (Int × Int)), P2At W a l → (∀ g o, a = some ⟨g, o, none⟩ → (lo ≤ g ∧ g < W.heap.size) ∧ v.ownBlock ≠ some g) → P2At w1 a l ∧ ∀ g o, a = some ⟨g, o, none⟩ → (lo ≤ g ∧ g < w1.heap.size) ∧ v'.ownBlock ≠ some g := fun a l hp hq => by
    refine ⟨hp.alt hA (fun g o e => (hq g o e).2), fun g o' e => ⟨⟨(hq g o' e).1.1, Nat.lt_of_lt_of_le (hq g o' e).1.2 hA.size⟩, ?_⟩⟩
    rcases hloc with e' | e'
    · rw [e']; exact (hq g o' e).2
    · rw [e']; intro e''; cases e''; have := (hq _ _ e).1.2; simp at this; omega
  refine ⟨_, by rw [List.length_append]; exact ho, fun i l hl => ?_⟩
  by_cases hi : i < L.length
  · rw [List.getElem?_append_left hi] at hl
    obtain ⟨a, c, e1, e2, e3⟩ := hr i l hl
    obtain ⟨k1, k2⟩ := keep a l e2 e3
    exact ⟨a, c, by rw [List.getElem?_append_left (by omega)]; exact e1, k1, k2⟩
  · rw [List.getElem?_append_right (by omega)] at hl
    obtain ⟨k1, k2⟩ := keep a3 gs h3 h4
    have hi2 : i - L.length = 0 := by
      have := (List.getElem?_eq_some_iff.1 hl).1; simp at this; omega
    rw [hi2] at hl
    have hl2 : gs = l := by simpa using hl
    subst hl2
    exact ⟨a3, c3, by rw [List.getElem?_append_right (by omega), hlen, hi2]; rfl, k1, k2⟩
theorem FW.out {lo base : Nat} {W : World} {v : Value} {L : List (List (Int × Int))} (h : FW lo base W v L) (hlo : lo ≤ base) : ∃ a c, v = .slice a L.length c ∧ FrAt lo W.heap.size W a L := by
  obtain ⟨hs, h1, h2⟩ := h
  have hlt := h1.lt
  rcases h1.2 with ⟨e1, e2⟩ | ⟨g, cap, cur, e1, e2, e3, e4⟩
  · refine ⟨none, 0, by rw [e1, e2], fun i l hl => ?_⟩
    have : L = [] := List.eq_nil_of_length_eq_zero e2
    subst this; simp at hl
  · refine ⟨some ⟨g, 0, none⟩, cap, e1, fun i l hl => ?_⟩
    obtain ⟨a, c, x1, x2, x3⟩ := h2 i l hl
    have := h1.cells (g := g) (by rw [e1]; rfl) i _ x1
    rw [add_pl] at this
    have hg := hlt g (by rw [e1]; rfl)
    exact ⟨g, 0, a, c, rfl, ⟨by omega, hg.2⟩, this, x2, fun g' o' e => (x3 g' o' e).1⟩

/-- What gamesOf stands on: the watch, and the rows that grow. -/
structure FS (l : Lan) (S : Int → Bool) (N6 : Nat) (w W : World) (v : Value) (L : List (List (Int × Int))) : Prop where
  b6 : Blk W N6 (wtCells l S) 90
  fw : FW w.heap.size (N6 + 1) W v L
  bl : Below w.heap.size w W
  sz : N6 + 1 ≤ W.heap.size
theorem FS.lo {l : Lan} {S : Int → Bool} {N6 : Nat} {w W W' : World} {v : Value} {L : List (List (Int × Int))} (h : FS l S N6 w W v L) (hb : Below W.heap.size W W') : FS l S N6 w W' v L :=
  ⟨Blk.alt (p := fun _ => False) h.b6 (Alt.of_below hb (fun k hk e => by omega)) id, h.fw.lo hb, below_go h.bl hb, Nat.le_trans h.sz hb.size⟩
theorem FS.push {l : Lan} {S : Int → Bool} {N6 : Nat} {w W w1 : World} {v v' : Value} {L : List (List (Int × Int))} {gs : List (Int × Int)} {a3 : Option Addr} {c3 : Nat} {o : Obj} (h : FS l S N6 w W v L) (h6 : w.heap.size ≤ N6)
    {hs : List Value} (hr : FrOk w.heap.size W v.ownBlock L hs) (hw : W.ownsRow (N6 + 1) 100 1 v L.length hs)
    (hg : (W.alloc o).grownBy w1 v.ownBlock) (ho : w1.ownsRow (N6 + 1) 100 1 v' (L.length + 1) (hs ++ [.slice a3 gs.length c3])) (hloc : v'.ownBlock = v.ownBlock ∨ v'.ownBlock = some (W.alloc o).heap.size)
    (h3 : P2At W a3 gs) (h4 : ∀ g o, a3 = some ⟨g, o, none⟩ → (w.heap.size ≤ g ∧ g < W.heap.size) ∧ v.ownBlock ≠ some g) : FS l S N6 w w1 v' (L ++ [gs]) := by
  have hA : Alt (fun k => N6 + 1 ≤ k) W w1 := ((Alt.refl _ W).alloc o).grown hg (fun k e => own_base hw e)
  exact ⟨Blk.alt h.b6 hA (by omega), FW.push hr (by have := hw.1; omega) hg ho hloc h3 h4, ((Alt.of_below (p := fun k => w.heap.size ≤ k) h.bl (fun k _ e => e)).trans (hA.mono fun k _ e => by omega)).below (Nat.le_refl _) fun _ e => e, Nat.le_trans h.sz hA.size⟩

/-- What gamesOf gives. -/
def GofR (l : Lan) (ts : List Int) (w : World) (e : Ending) (w' : World) : Prop := ∃ a c, e = .returned (.tuple #[.slice a (gofL l ts).length c, .int .i64 (gofE l ts)]) ∧ FrAt w.heap.size w'.heap.size w' a (gofL l ts) ∧ Below w.heap.size w w'

set_option maxRecDepth 100000 in
set_option maxHeartbeats 8000000 in
theorem gamesOf_any (l : Lan) (ts : List Int) (a : Option Addr) (c : Nat) (w : World) (hL : WdsAt w l.wa l.ws) (hX : IntsAt w a ts) (hn : l.ws.length ≤ 1000) (hm : ts.length ≤ 1000) (hga : ∀ g o, l.wa = some ⟨g, o, none⟩ → g < w.heap.size) :
    Calls Try.prog 56 #[l.val, .slice a ts.length c] w (GofR l ts w) := by
  have CK := Lib.hid (fun W (hb : Below w.heap.size w W) => check_any l ts a c W (hL.lo hb) (hX.lo hb) hn hm)
  have PO := Lib.hid (fun W (hb : Below w.heap.size w W) (h : chkE l ts = 0) => possible_any l (offS ts) W (hL.lo hb) (fault0 (chkE_zero h).1).1 hn (by have := (fault0 (chkE_zero h).1).2.2.1; omega) (fault0 (chkE_zero h).1).2.2.2.1 (fun g o e => Nat.lt_of_lt_of_le (hga g o e) hb.size))
  have CO := Lib.hid (fun (fr : Int) bL bF W (hO : ONc l (offS ts) fr bL bF W) (hb : Below w.heap.size w W) (h : chkE l ts = 0) => collectR_any l (offS ts) fr bL bF W hO (fault0 (chkE_zero h).1).1 hn (fun g o e => Nat.lt_of_lt_of_le (hga g o e) hb.size))
  have HFS : Hid (chkE l ts = 0 → 1 ≤ l.fs ∧ l.fs ≤ 5) := Lib.hid fun h => ⟨(fault0 (chkE_zero h).1).2.2.1, (fault0 (chkE_zero h).1).2.2.2.1⟩
  have HL := Lib.hid hL
  have HB : Hid (gofE l ts = if chkE l ts = 0 then (if possB l (offS ts) = true then 0 else 9) else chkE l ts) := Lib.hid rfl
  have HG : Hid (gofL l ts = if gofE l ts = 0 then frmL l (offS ts) else []) := Lib.hid rfl
  have HV : Hid (chkV l ts = .agg (if chkE l ts = 0 then wtCells l (offS ts) else wtZero)) := Lib.hid rfl
  have K0 := Lib.hid (Blk.new w #[.int .i64 l.fs, .slice l.wa l.ws.length l.wc] 32)
  have B0 := Lib.hid (below_al w (.cells #[.int .i64 l.fs, .slice l.wa l.ws.length l.wc] 32))
  unfold GofR
  generalize chkE l ts = E at *
  generalize chkV l ts = V at *
  generalize gofE l ts = GE at *
  generalize gofL l ts = GL at *
  generalize offS ts = S at *
  generalize possB l S = PB at *
  by_cases hE : E = 0
  · subst hE
    have HV2 := HV.out
    rw [if_pos rfl] at HV2
    have HB2 : Hid (GE = if PB = true then 0 else 9) := Lib.hid (by rw [HB.out, if_pos rfl])
    have PO2 := Lib.hid (fun W hb => PO.out W hb rfl)
    have CO2 := Lib.hid (fun fr bL bF W hO hb => CO.out fr bL bF W hO hb rfl)
    obtain ⟨f1, f5⟩ := HFS.out rfl
    have AT := Lib.hid (fun fr W => at_any l S fr W)
    have GG := Lib.hid (fun fr W => games_any l S fr W)
    obtain ⟨F, hF⟩ : ∃ F : Nat → List (Int × Int), Hid (F = fun f : Nat => gamesL l.ws S (f : Int)) := ⟨_, Lib.hid rfl⟩
    have HFR : Hid (frmL l S = (List.range l.fs.toNat).map F) := Lib.hid (by rw [hF.out]; rfl)
    have HFk := Lib.hid (fun k : Nat => (show gamesL l.ws S (k : Int) = F k by rw [hF.out]))
    obtain ⟨N, hN⟩ : ∃ N : Nat, l.fs = (N : Int) := ⟨l.fs.toNat, by omega⟩
    have HN5 := Lib.hid (show N ≤ 5 by omega)
    have F6 := Lib.hid (fun (N6 : Nat) (wx : World) (h6 : N6 = wx.heap.size) (hb : Below w.heap.size w wx) => (show FS l S N6 w (wx.alloc (.cells (wtCells l S) 90)) (.slice none 0 0) [] from
      ⟨by rw [h6]; exact Blk.new _ _ _, FW.nil _ _ _, below_al2 hb _, by rw [h6]; simp⟩))
    have HWT : Hid (wtCells l S = #[.int .i64 (N : Int), .slice l.wa l.ws.length l.wc, .bool (S 0), .bool (S 1), .bool (S 2), .bool (S 3)]) := Lib.hid (by unfold wtCells; rw [hN])
    rw [HWT.out] at HV2 PO2 AT F6
    unfold Lan.val at *
    rw [hN] at CK K0 B0 HFR ⊢
    rw [Int.toNat_natCast] at HFR
    clear HV HB PO CO hL hX hn hm hga HFS f1 f5 hF hN
    subst HV2
    go_enter Try.func56, Try.ntmps56
    go_wp2_with fail
    refine (CK.out _ B0.out).mono ?_
    rintro e w1 ⟨rfl, hb1⟩
    have B1 := Lib.hid (below_go B0.out hb1)
    have K1 := Lib.hid (Blk.alt (p := fun _ => False) K0.out (Alt.of_below hb1 (fun k hk e => by omega)) id)
    clear hb1 B0 CK K0
    have F2 := Lib.hid (F6.out _ w1 rfl B1.out)
    have K2 := Lib.hid (Blk.alt (p := fun _ => False) K1.out ((Alt.refl _ _).alloc (.cells #[.int .i64 (N : Int), .slice l.wa l.ws.length l.wc, .bool (S 0), .bool (S 1), .bool (S 2), .bool (S 3)] 90)) id)
    have HS6 := Lib.hid B1.out.size
    clear B1 K1 F6
    go_wp2_with fail
    refine (PO2.out _ F2.out.bl).mono ?_
    rintro e w3 ⟨rfl, hb3⟩
    have F3 := Lib.hid (F2.out.lo hb3)
    have K3 := Lib.hid (Blk.alt (p := fun _ => False) K2.out (Alt.of_below hb3 (fun k hk e => by omega)) id)
    clear hb3 PO2 F2 K2
    generalize w1.heap.size = N6 at *
    cases PB
    · have HE9 : Hid (GE = 9) := HB2
      have HGL : Hid (GL = []) := Lib.hid (by rw [HG.out, HE9.out, if_neg (by omega)])
      clear HG HB2
      go_wp2_with fail
      go_returns
      refine ⟨none, 0, ?_, ?_, F3.out.bl⟩
      · rw [HE9.out, HGL.out]; first | done | rfl
      · rw [HGL.out]; exact fun i gs h => by simp at h
    · have HE0 : Hid (GE = 0) := HB2
      have HGL : Hid (GL = (List.range N).map F) := Lib.hid (by rw [HG.out, HE0.out, if_pos rfl, HFR.out])
      clear HG HB2 HFR
      have k0 := K3.out.cell 0 (show _ = some (Value.int .i64 (N : Int)) from rfl)
      obtain ⟨i0, hi0, hy0, hy1, hy2⟩ := info_parts info100
      go_wp2_with fail
      go_loopg [8, 26] N (fun g s8 s26 wx => ∃ (i : Nat) (v : Value), i ≤ N ∧ g = N - i ∧ s26 = .int .i64 (i : Int) ∧ v = s8 ∧ Hid (FS l S N6 w wx v ((List.range i).map F)))
      case atStart => exact ⟨0, _, by omega, by omega, rfl, rfl, F3⟩
      case round =>
        obtain ⟨i, v, hi, rfl, rfl, rfl, hF⟩ := hrel
        clear F3 K3 k0
        by_cases hlt : i < N
        · have hz1 : (i : Int) < (N : Int) := by omega
          have e2 : IntKind.i64.wrap ((i : Int) + 1) = (i : Int) + 1 := IntWalk.i64_in _ (by have := HN5.out; omega)
          have HI := Lib.hid hlt
          have b6 := hF.out.b6
          rw [HWT.out] at b6
          have k60 := b6.cell 0 (show _ = some (Value.int .i64 (N : Int)) from rfl)
          have k61 := b6.cell 1 (show _ = some (Value.slice l.wa l.ws.length l.wc) from rfl)
          have k62 := b6.cell 2 (show _ = some (Value.bool (S 0)) from rfl)
          have k63 := b6.cell 3 (show _ = some (Value.bool (S 1)) from rfl)
          have k64 := b6.cell 4 (show _ = some (Value.bool (S 2)) from rfl)
          have k65 := b6.cell 5 (show _ = some (Value.bool (S 3)) from rfl)
          clear hlt hi b6
          go_wp2_with fail
          refine (AT.out (i : Int) wr).mono ?_
          rintro e x1 ⟨rfl, hb1⟩
          have F1 := Lib.hid (hF.out.lo hb1)
          clear hb1 k60 k61 k62 k63 k64 k65 hF
          have G1 := Lib.hid (GG.out (i : Int) x1)
          unfold lookCells at G1 ⊢
          go_wp2_with fail
          refine G1.out.mono ?_
          rintro e x2 ⟨bL, bF, rfl, hg⟩
          have F2 := Lib.hid (F1.out.lo hg.bl)
          have C2 := Lib.hid (CO2.out (i : Int) bL bF x2 ⟨hg.li, hg.is, HL.out.lo F2.out.bl⟩ F2.out.bl)
          rw [HFk.out i] at C2
          clear hg F1 G1
          go_wp2_with fail
          have HRS := Lib.hid (show (List.range (i + 1)).map F = (List.range i).map F ++ [F i] by rw [List.range_succ, List.map_append]; rfl)
          have HRL := Lib.hid (show ((List.range i).map F).length = i by simp)
          generalize F i = gs at *
          generalize (List.range i).map F = L at *
          refine C2.out.mono ?_
          rintro e x3 ⟨a3, c3, rfl, hp3, hg3, hb3⟩
          have F3 := Lib.hid (F2.out.lo hb3)
          obtain ⟨hs, hown, hok⟩ := F3.out.fw
          obtain ⟨_, hown2, _⟩ := F2.out.fw
          have H4 : Hid (∀ g o, a3 = some ⟨g, o, none⟩ → (w.heap.size ≤ g ∧ g < x3.heap.size) ∧ v.ownBlock ≠ some g) := Lib.hid (fun g o e => ⟨⟨Nat.le_trans F2.out.bl.size (hg3 g o e).1, (hg3 g o e).2⟩, fun e2 => by have := (hown2.lt g e2).2; have := (hg3 g o e).1; omega⟩)
          have PS := Lib.hid (fun w1 v' h1 h2 h3 => FS.push (w1 := w1) (v' := v') (gs := gs) (a3 := a3) (c3 := c3) (o := .cells #[.slice a3 gs.length c3] 100) F3.out HS6.out hok hown h1 h2 h3 hp3 H4.out)
          have HSZ := Lib.hid F3.out.sz
          rw [HRL.out] at hown PS
          have HNC : Hid (i + 1 ≤ maxLen) := Lib.hid (by unfold maxLen; have := HI.out; have := HN5.out; omega)
          have HIB : Hid ((i + 1) * 24 ≤ 140737488355328) := Lib.hid (by have := HI.out; have := HN5.out; omega)
          clear hb3 C2 F2 hown2 hok hp3 hg3
          go_wp2_with (at_builtin; go_must (refine wpList_append_own_at _ rfl _ _ 94 rfl (N6 + 1) 100 i0 _ 1 24 Try.underlying94 hi0 hy0 hy1 hy2 rfl (by decide) v i hs rfl (hown.alloc _) ⟨x3.heap.size, 0, none⟩ 1 1 [.slice a3 gs.length c3] rfl (by rfl) (cell_one_new _ _ _) (by simp [Value.oneCell']) HNC.out HIB.out (by have := HSZ.out; simp; omega) ?_); intro v' w1 hown' hgrow hnil hloc; have KN := Lib.hid (PS.out w1 v' hgrow hown' hloc); clear hown' hgrow hnil hloc)
          rw [← HRS.out] at KN
          clear PS F3 hown H4 HRS HRL
          go_roundg (N - (i + 1))
          case measure => have := HI.out; omega
          case rel => exact ⟨i + 1, _, by have := HI.out; omega, rfl, by simp, rfl, KN⟩
        · have hz1 : ¬ (i : Int) < (N : Int) := by omega
          have hiN : i = N := by omega
          rw [hiN] at hF
          obtain ⟨a, c, rfl, h1⟩ := hF.out.fw.out (by have := HS6.out; omega)
          have H1 := Lib.hid h1
          have HLN := Lib.hid (show ((List.range N).map F).length = GL.length by rw [HGL.out])
          clear h1 hlt hi hiN
          go_wp2_with fail
          go_returns
          refine ⟨a, ⟨c, ?_⟩, ?_, hF.out.bl⟩
          · rw [HE0.out, HGL.out]; first | done | simp
          · rw [HGL.out]; exact H1.out
  · have HV2 := HV.out
    rw [if_neg hE] at HV2
    have HR : Hid (GE = E) := Lib.hid (by rw [HB.out, if_neg hE])
    have HGL : Hid (GL = []) := Lib.hid (by rw [HG.out, HR.out, if_neg hE])
    have hE2 : (E == 0) = false := by simpa using hE
    unfold Lan.val wtZero at *
    clear HV HB PO CO hL hX hn hm hga HFS HG hE
    subst HV2
    go_enter Try.func56, Try.ntmps56
    go_wp2_with fail
    refine (CK.out _ B0.out).mono ?_
    rintro e w1 ⟨rfl, hb1⟩
    have B1 := Lib.hid (below_go B0.out hb1)
    clear hb1 B0 CK
    have B2 := Lib.hid (below_al2 B1.out (.cells #[.int .i64 0, .slice none 0 0, .bool false, .bool false, .bool false, .bool false] 90))
    go_wp2_with fail
    go_returns
    refine ⟨none, 0, ?_, ?_, B2.out⟩
    · rw [HR.out, HGL.out]; first | done | rfl
    · rw [HGL.out]; exact fun i gs h => by simp at h

end Go.Proofs.Ytbbndcfnpfedpaa
