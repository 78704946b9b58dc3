/- The contracts of the iterators over the games of a frame. -/
import Derived.Test.YtbbndcfnpfedpaaSh
set_option linter.unusedVariables false
set_option linter.unusedSimpArgs false
namespace Go.Proofs.Ytbbndcfnpfedpaa
open Go.RowKit Go.Shelf

attribute [local go_sem] Oper.semAt_some

def rVal (p : Int × Int) : Value := .agg #[.int .i64 p.1, .int .i64 p.2]
def rollsF (a : Nat) : List (Int × Int) := (List.range (a + 1)).map fun (b : Nat) => ((a : Int), (b : Int))
def rolls : List (Int × Int) := (List.range 11).flatMap rollsF
def rollsTo (a j : Nat) : List (Int × Int) := (List.range j).map fun (b : Nat) => ((a : Int), (b : Int))

theorem rollsF_split {a j : Nat} (h : j < a + 1) : (∃ T, rollsF a = rollsTo a j ++ ((a : Int), (j : Int)) :: T) ∧ rollsTo a (j + 1) = rollsTo a j ++ [((a : Int), (j : Int))] := by
  obtain ⟨k, hk⟩ : ∃ k, a + 1 = (j + 1) + k := ⟨a + 1 - (j + 1), by omega⟩
  refine ⟨⟨((List.range k).map (j + 1 + ·)).map fun (b : Nat) => ((a : Int), (b : Int)), ?_⟩, ?_⟩
  · unfold rollsF rollsTo
    rw [hk, List.range_add, List.map_append, List.range_succ, List.map_append]; simp
  · unfold rollsTo
    rw [List.range_succ, List.map_append]; rfl

set_option maxRecDepth 100000 in
set_option maxHeartbeats 4000000 in
theorem all1_iter (w : World) : Iter Try.prog 91 #[] (fun p : Int × Int => #[rVal p]) rolls 0 (fun _ => False) w := by
  intro l J Jx W hW hJ hJx hY h0
  have HY := Lib.hid hY
  have H0 := Lib.hid h0
  clear hW hJ hJx hY h0
  refine callsIn_of_wp Try.func91 rfl trivial ?_ rfl
  simp only [Try.ntmps91, List.size_toArray, List.length_cons, List.length_nil, Nat.reduceAdd, Nat.reduceSub, Array.replicate_succ, Array.replicate_zero, List.push_toArray, List.append_toArray, List.nil_append, List.cons_append]
  gi_wp2
  gi_loopw [4] (fun s wr => ∃ i : Nat, i ≤ 11 ∧ s = .int .i64 (i : Int) ∧ Hid (J ((List.range i).flatMap rollsF) wr) ∧ Hid (W.heap.size ≤ wr.heap.size)) (fun s wr => (11 - intOf s).toNat)
  case atStart => exact ⟨0, by omega, rfl, Lib.hid (by simpa using H0.out), Lib.hid (Nat.le_refl _)⟩
  case round =>
    obtain ⟨i, hi, rfl, hJi, hZ⟩ := hrel
    clear H0
    by_cases hlt : i < 11
    · have hc : (i : Int) < 11 := by omega
      have HU := Lib.hid (flat_split rollsF hlt)
      have HL := Lib.hid hlt
      clear hlt hi
      gi_wp2
      gi_loopw [9] (fun s wx => ∃ j : Nat, j ≤ i + 1 ∧ s = .int .i64 (j : Int) ∧ Hid (J ((List.range i).flatMap rollsF ++ rollsTo i j) wx) ∧ Hid (W.heap.size ≤ wx.heap.size)) (fun s wx => ((i : Int) + 1 - intOf s).toNat)
      case atStart => exact ⟨0, by omega, rfl, Lib.hid (by simpa [rollsTo] using hJi.out), hZ⟩
      case round =>
        obtain ⟨j, hj, rfl, hJj, hZj⟩ := hrel
        clear hJi hZ
        by_cases hlj : j < i + 1
        · have hcj : (j : Int) < (i : Int) + 1 := by omega
          obtain ⟨⟨T, t1⟩, t2⟩ := rollsF_split hlj
          obtain ⟨T2, u1, u2⟩ := HU.out
          have HE : Hid (rolls = ((List.range i).flatMap rollsF ++ rollsTo i j) ++ ((i : Int), (j : Int)) :: (T ++ T2)) := Lib.hid (by unfold rolls; rw [u1, t1]; simp)
          obtain ⟨fn, tmps, assign, body, hy, hR⟩ := HY.out _ _ _ wr HE.out (by simpa using hZj.out) hJj.out
          have HT2 := Lib.hid t2
          have HJ := Lib.hid hlj
          unfold rVal at hy
          clear t1 t2 u1 u2 hlj hj hJj
          gi_wp2
          refine ⟨rfl, hR.mono ?_⟩
          rintro e W3 (⟨rfl, hJ3, hk3⟩ | ⟨rfl, hx3⟩)
          · have J3 := Lib.hid hJ3
            have Z3 := Lib.hid (Nat.le_trans hZj.out hk3.size)
            clear hJ3 hk3 hy hR
            gi_wp2
            go_roundw
            case rel => exact ⟨j + 1, by have := HJ.out; omega, by go_num, Lib.hid (by rw [HT2.out, ← List.append_assoc]; exact J3.out), Z3⟩
            case measure => simp [intOf]; omega
          · have X3 := Lib.hid hx3
            clear hx3 hy hR
            gi_wp2
            refine bodyPost_ret (results_none rfl _ _ _) rfl ?_
            exact ⟨⟨_, rfl⟩, .inr ⟨_, _, _, HE.out, X3.out⟩⟩
        · have hcj : ¬ (j : Int) < (i : Int) + 1 := by omega
          have hji : j = i + 1 := by omega
          have JN : Hid (J ((List.range (i + 1)).flatMap rollsF) wr) := Lib.hid (by
            obtain ⟨T2, u1, u2⟩ := HU.out
            rw [u2]; have := hJj.out; rw [hji] at this; exact this)
          clear hji hj hlj hJj
          gi_wp2
          go_roundw
          case rel => exact ⟨i + 1, by have := HL.out; omega, by go_num, JN, hZj⟩
          case measure => have := HL.out; simp [intOf]; omega
    · have hc : ¬ (i : Int) < 11 := by omega
      have hi11 : i = 11 := by omega
      have JN : Hid (J rolls wr) := Lib.hid (by have := hJi.out; rw [hi11] at this; exact this)
      clear hi11 hi hlt
      gi_wp2
      go_end0
      exact ⟨⟨_, rfl⟩, .inl JN.out⟩

def gamesL (ws : List Wd) (s : Int → Bool) (fr : Int) : List (Int × Int) := rolls.filter fun p => fitsB ws s fr p.1 p.2

theorem eg91 : ∀ args w, (callFunc 91 args).run Try.prog w = .ok (.enter 91 args) w := enters_of Try.func91 (by kernel_rfl) rfl
theorem eg90 : ∀ args w, (callFunc 90 args).run Try.prog w = .ok (.enter 90 args) w := enters_of Try.func90 (by kernel_rfl) rfl

/-- What only stands on, apart from its yield. -/
structure ONc (l : Lan) (s : Int → Bool) (fr : Int) (bL bF : Nat) (W : World) : Prop where
  li : Boxed W bL 127 (.func (.func 91) #[] #[])
  is : Boxed W bF 120 (.func (.func 69) #[.agg (lookCells l s fr)] #[])
  ws : WdsAt W l.wa l.ws
def RdO (l : Lan) (bL bF : Nat) (k : Nat) : Prop := k = bL ∨ k = bF ∨ ∃ o, l.wa = some ⟨k, o, none⟩
theorem ONc.far {l : Lan} {s : Int → Bool} {fr : Int} {bL bF : Nat} {W W' : World} {p : Nat → Prop} (h : ONc l s fr bL bF W) (ha : Alt p W W') (hp : ∀ k, RdO l bL bF k → ¬ p k) : ONc l s fr bL bF W' :=
  ⟨Boxed.alt h.li ha (hp _ (by unfold RdO; simp)), Boxed.alt h.is ha (hp _ (by unfold RdO; simp)), h.ws.alt ha (fun g o e => hp _ (by unfold RdO; exact .inr (.inr ⟨o, e⟩)))⟩

theorem filter_snoc {F : Int × Int → Bool} (pre : List (Int × Int)) (x : Int × Int) : (pre ++ [x]).filter F = if F x = true then pre.filter F ++ [x] else pre.filter F := by
  rw [List.filter_append]
  cases h : F x <;> simp [List.filter, h]

set_option maxRecDepth 100000 in
set_option maxHeartbeats 8000000 in
theorem only1_iter (l : Lan) (s : Int → Bool) (fr : Int) (bL bF : Nat) (w : World) (hO : ONc l s fr bL bF w) (hT : ∀ x ∈ l.ws, 0 ≤ x.te ∧ x.te ≤ 3) (hn : l.ws.length ≤ 1000) (hga : ∀ g o, l.wa = some ⟨g, o, none⟩ → g < w.heap.size) :
    IterA Try.prog 90 #[.pointer (some ⟨bL, 0, none⟩), .pointer (some ⟨bF, 0, none⟩)] (fun p : Int × Int => #[rVal p]) (gamesL l.ws s fr) 3 (RdO l bL bF) w := by
  intro y J Jx W hW hJ hJx hY h0
  have hz := hW.size
  have OW := hO.far hW (fun k h h2 => h2 h)
  have hRd : ∀ k, RdO l bL bF k → k < W.heap.size := fun k h => by
    rcases h with rfl | rfl | ⟨o, e⟩
    · exact OW.li.lt
    · exact OW.is.lt
    · exact Nat.lt_of_lt_of_le (hga _ _ e) hz
  have FA := Lib.hid (fun (p : Int × Int) W' (h : ONc l s fr bL bF W') => fits_any l s fr p.1 p.2 W' h.ws hT hn)
  obtain ⟨F, hF⟩ : ∃ F : Int × Int → Bool, Hid (F = fun p => fitsB l.ws s fr p.1 p.2) := ⟨_, Lib.hid rfl⟩
  have hG : gamesL l.ws s fr = rolls.filter F := by rw [hF.out]; rfl
  rw [hG] at hY ⊢
  obtain ⟨W1, hW1⟩ : ∃ W1, Hid (W1 = W.alloc (.cells #[.func (.yield y) #[] #[]] 120)) := ⟨_, Lib.hid rfl⟩
  have z1 : W1.heap.size = W.heap.size + 1 := by rw [hW1.out]; simp
  have X1 : ∀ p, Alt p W W1 := fun p => by rw [hW1.out]; exact (Alt.refl _ _).alloc _
  have O1 := OW.far (X1 fun _ => False) (fun _ _ => id)
  have Y1 : Boxed W1 W.heap.size 120 (.func (.yield y) #[] #[]) := by rw [hW1.out]; exact Boxed.new W 120 _
  have J1 := hJ _ _ _ h0 (X1 _)
  have c1 : (W.alloc (.cells #[.func (.yield y) #[] #[]] 120)).cell? ⟨bL, 0, none⟩ = some (.func (.func 91) #[] #[]) := by rw [← hW1.out]; exact O1.li.cell
  have HO1 := Lib.hid O1
  have HY1 := Lib.hid Y1
  have HJ1 := Lib.hid J1
  have HRd := Lib.hid hRd
  have HYY := Lib.hid hY
  have HZ1 := Lib.hid z1
  have HJS := Lib.hid hJ
  have HJX := Lib.hid hJx
  clear hO hT hn hga hW hz OW hRd h0 hG X1 O1 Y1 J1 z1 hY hJ hJx
  refine callsIn_of_wp_marks Try.func90 rfl trivial ?_ rfl
  simp only [Try.ntmps90, List.size_toArray, List.length_cons, List.length_nil, Nat.reduceAdd, Nat.reduceSub, Array.replicate_succ, Array.replicate_zero, List.push_toArray, List.append_toArray, List.nil_append, List.cons_append]
  gi_wp2
  have hWo := hW1.out
  rw [← hWo]
  clear hWo c1 hW1
  refine wp_iter (gf := 91) (lb := #[]) rfl eg91 (all1_iter W1) (fun k h => h.elim) (fun _ => rfl)
    (fun k => ¬ (RdO l bL bF k ∨ Rng W.heap.size 3 k)) (fun k h => ⟨id, fun h2 => h (.inr (by have := HZ1.out; unfold Rng at *; omega))⟩)
    (fun pre A => J (pre.filter F) A ∧ ONc l s fr bL bF A ∧ Boxed A W.heap.size 120 (.func (.yield y) #[] #[]))
    (fun pre x a1 A => (J (pre.filter F) A ∧ ONc l s fr bL bF A ∧ Boxed A W.heap.size 120 (.func (.yield y) #[] #[])) ∧ ∃ b4, W.heap.size + 3 ≤ b4 ∧ Blk A b4 #[.int .i64 x.1, .int .i64 x.2] 105 ∧
      a1 = { tmps := #[.func (.yield y) #[] #[], .pointer (some ⟨bL, 0, none⟩), .pointer (some ⟨bF, 0, none⟩), .pointer (some ⟨W.heap.size, 0, none⟩), .pointer (some ⟨b4, 0, none⟩), .func (.func 91) #[] #[], .agg #[.int .i64 x.1, .int .i64 x.2], undef, undef, undef, undef, undef, undef, undef, undef, undef], defers := [] })
    (fun cd pre A => cd = Code.ret ∧ ∃ p0 y0 q0, rolls.filter F = p0 ++ y0 :: q0 ∧ Jx (p0 ++ [y0]) A)
    (fun pre A B h hAB => ?stI) (fun pre x a A B h hAB => ?stM) (fun cd pre A B h hAB => ?stX) ⟨by simpa using HJ1.out, HO1.out, HY1.out⟩ ?assign ?body ?done ?stop
  case stI =>
    have hz := HZ1.out
    exact ⟨HJS.out _ _ _ h.1 (hAB.mono fun k _ e => by unfold Rng at *; omega), h.2.1.far hAB (fun k hk e => by have := HRd.out k hk; unfold Rng at e; omega), Boxed.alt h.2.2 hAB (fun e => by unfold Rng at e; omega)⟩
  case stM =>
    have hz := HZ1.out
    obtain ⟨h, b4, hb4, k4, e⟩ := h
    exact ⟨⟨HJS.out _ _ _ h.1 (hAB.mono fun k _ e => by unfold Rng at *; omega), h.2.1.far hAB (fun k hk e => by have := HRd.out k hk; unfold Rng at e; omega), Boxed.alt h.2.2 hAB (fun e => by unfold Rng at e; omega)⟩, b4, hb4, Blk.alt k4 hAB (fun e => by unfold Rng at e; omega), e⟩
  case stX =>
    have hz := HZ1.out
    obtain ⟨h1, p0, y0, q0, h2, h3⟩ := h
    exact ⟨h1, p0, y0, q0, h2, HJX.out _ _ _ h3 (hAB.mono fun k _ e => by unfold Rng at *; omega)⟩
  case assign =>
    intro l2 pre x post A hx hz2 hl2 hr h
    have HX := Lib.hid (show W.heap.size + 3 ≤ A.heap.size by have := HZ1.out; omega)
    have HH := Lib.hid h
    unfold rVal
    clear hx hz2 hl2 hr h
    gi_wp2
    exact ⟨(Alt.refl _ _).alloc _, ⟨HJS.out _ _ _ HH.out.1 ((Alt.refl _ _).alloc _), HH.out.2.1.far (p := fun _ => False) ((Alt.refl _ _).alloc _) (fun _ _ => id), Boxed.alt (p := fun _ => False) HH.out.2.2 ((Alt.refl _ _).alloc _) id⟩, A.heap.size, HX.out, Blk.new _ _ _, rfl⟩
  case body =>
    rintro l2 pre x post a1 A hx hzA hl2 hr ⟨⟨hj, hO, hy⟩, b4, hb4, k4, rfl⟩
    have FAX := Lib.hid (CallsIn.inRound l2 (callsIn_wide (n := 0).2 (FA.out x A hO)))
    have HFX : Hid (F x = fitsB l.ws s fr x.1 x.2) := Lib.hid (by rw [hF.out])
    have HM : F x = true → rolls.filter F = pre.filter F ++ x :: post.filter F := fun h => by rw [hx]; simp [List.filter_append, List.filter_cons, h]
    have HMM := Lib.hid HM
    have HS := Lib.hid (@filter_snoc F pre x)
    have HZA := Lib.hid (show W.heap.size + 3 ≤ A.heap.size by have := HZ1.out; omega)
    have ci := hO.is.cell
    have cl := hO.li.cell
    have cy := hy.cell
    have k40 := k4.cell 0 (show _ = some (Value.int .i64 x.1) from rfl)
    have k41 := k4.cell 1 (show _ = some (Value.int .i64 x.2) from rfl)
    have HJ := Lib.hid hj
    have HO := Lib.hid hO
    have HYB := Lib.hid hy
    have HK4 := Lib.hid k4
    rw [← HFX.out] at FAX
    generalize F x = FX at *
    clear hx hzA hl2 hr hj hO hy k4 FA HM hb4 HFX
    obtain ⟨p, q⟩ := x
    simp only at *
    cases FX
    · simp only [Bool.false_eq_true, if_false] at HS
      gi_wp2
      refine ⟨trivial, rfl, ?_⟩
      refine FAX.out.mono ?_
      rintro e w1 ⟨rfl, hb⟩
      have AB := Lib.hid (fun p => Alt.of_below (p := p) hb (fun k hk e => absurd hk (Nat.not_lt.2 e)))
      clear hb ci cl cy k40 k41 FAX
      gi_wp2
      refine ⟨fun f h => (by cases h), ?_⟩
      gi_wp2
      exact ⟨AB.out _, by rw [HS.out]; exact HJS.out _ _ _ HJ.out (AB.out _), HO.out.far (AB.out fun _ => False) (fun _ _ => id), Boxed.alt HYB.out (AB.out fun _ => False) id⟩
    · simp only [if_true] at HS
      gi_wp2
      refine ⟨trivial, rfl, ?_⟩
      refine FAX.out.mono ?_
      rintro e w1 ⟨rfl, hb⟩
      have AB := Lib.hid (fun p => Alt.of_below (p := p) hb (fun k hk e => absurd hk (Nat.not_lt.2 e)))
      have Z1 := Lib.hid (Nat.le_trans HZA.out hb.size)
      clear hb ci cl cy k40 k41 FAX
      have ci := (HO.out.far (AB.out fun _ => False) (fun _ _ => id)).is.cell
      have cy := (Boxed.alt HYB.out (AB.out fun _ => False) id).cell
      have k4 := Blk.alt HK4.out (AB.out fun _ => False) id
      have k40 := k4.cell 0 (show _ = some (Value.int .i64 p) from rfl)
      have k41 := k4.cell 1 (show _ = some (Value.int .i64 q) from rfl)
      have O1 := Lib.hid (HO.out.far (AB.out fun _ => False) (fun _ _ => id))
      have Y1 := Lib.hid (Boxed.alt HYB.out (AB.out fun _ => False) id)
      obtain ⟨fn, tmps, assign, body, hy, hR⟩ := HYY.out _ _ _ w1 (HMM.out (by first | rfl | trivial)) Z1.out (HJS.out _ _ _ HJ.out (AB.out _))
      unfold rVal at hy
      clear k4
      gi_wp2
      refine ⟨rfl, hR.mono ?_⟩
      rintro e w8 ⟨h8, a8⟩
      have A8 := Lib.hid ((AB.out (fun k => ¬ (RdO l bL bF k ∨ Rng W.heap.size 3 k))).trans a8)
      have O8 := Lib.hid (O1.out.far a8 (fun k hk h => h (.inl hk)))
      have Y8 := Lib.hid (Boxed.alt Y1.out a8 (fun h => h (.inr (by unfold Rng; omega))))
      clear a8 cy hy hR ci k40 k41
      rcases h8 with ⟨rfl, j8⟩ | ⟨rfl, j8⟩
      · gi_wp2
        exact ⟨A8.out, by rw [HS.out]; exact j8, O8.out, Y8.out⟩
      · gi_wp2
        exact ⟨A8.out, rfl, _, _, _, HMM.out (by first | rfl | trivial), j8⟩
  case done =>
    rintro B ⟨h1, h2⟩ hzB hK'
    have H1 := Lib.hid (HJS.out _ _ _ h1 (Alt.put (p := Rng W.heap.size 3) (l := W1.heap.size) (by have := HZ1.out; unfold Rng; omega) (.deferred none)))
    gi_wp2
    show bodyPostM Fence.wide 0 Try.prog Try.f90 _ Exit.ret _ _
    exact leave_ret hK' (results_none rfl _ _ _) ⟨⟨_, rfl⟩, .inl H1.out⟩
  case stop =>
    rintro cd pre x post B hx ⟨rfl, p0, y0, q0, h1, h2⟩ hzB hK'
    have HX : Hid (∃ p y q, rolls.filter F = p ++ y :: q ∧ Jx (p ++ [y]) (B.putObj W1.heap.size (.deferred none))) := Lib.hid ⟨p0, y0, q0, h1, HJX.out _ _ _ h2 (Alt.put (p := Rng W.heap.size 3) (l := W1.heap.size) (by have := HZ1.out; unfold Rng; omega) (.deferred none))⟩
    clear hx
    gi_wp2
    exact leave_ret hK' (results_none rfl _ _ _) ⟨⟨_, rfl⟩, .inr HX.out⟩

end Go.Proofs.Ytbbndcfnpfedpaa
