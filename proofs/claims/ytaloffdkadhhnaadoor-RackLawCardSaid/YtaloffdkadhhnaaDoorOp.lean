/- The contract of the search for a piece of a leave. -/
import Derived.Test.YtaloffdkadhhnaaDoorNg
set_option linter.unusedVariables false
set_option linter.unusedSimpArgs false
namespace Go.Proofs.YtaloffdkadhhnaaDoor
open Go.RowKit Go.Shelf

attribute [local go_sem] Oper.semAt_some

theorem Alt.trans2 {p q : Nat → Prop} {a b c : World} (h : Alt p a b) (k : Alt q b c) (hq : ∀ i, i < a.heap.size → q i → p i) : Alt p a c :=
  ⟨k.os.trans h.os, k.tape.trans h.tape, k.out.trans h.out, Nat.le_trans h.size k.size, fun i hi hp => (k.blk i (Nat.lt_of_lt_of_le hi h.size) (fun e => hp (hq i hi e))).trans (h.blk i hi hp)⟩

def reachF (r : Rk) (lv : Nat) : Nat → Int → Nat → Nat
  | 0, p, R => R ||| 1 <<< p.toNat
  | f + 1, p, R => (nbrs r p).foldl (fun M q => if lv.testBit q.toNat = true ∧ M.testBit q.toNat = false then reachF r lv f q M else M) (R ||| 1 <<< p.toNat)
def stepR (r : Rk) (lv f : Nat) (M : Nat) (q : Int) : Nat := if lv.testBit q.toNat = true ∧ M.testBit q.toNat = false then reachF r lv f q M else M
theorem reachF_succ (r : Rk) (lv f : Nat) (p : Int) (R : Nat) : reachF r lv (f + 1) p R = (nbrs r p).foldl (stepR r lv f) (R ||| 1 <<< p.toNat) := rfl

theorem or_sub (a b : Nat) : Sub a (a ||| b) := fun i h => by rw [Nat.testBit_or, h]; rfl
theorem reachF_le (r : Rk) (lv : Nat) : ∀ (f : Nat) (p : Int) (R : Nat), Sub (R ||| 1 <<< p.toNat) (reachF r lv f p R)
  | 0, p, R => Sub.refl _
  | f + 1, p, R => by
    rw [reachF_succ]
    refine fold_inv (fun M => Sub (R ||| 1 <<< p.toNat) M) _ _ _ (Sub.refl _) fun M q _ hM => ?_
    unfold stepR; split
    · exact hM.trans ((or_sub _ _).trans (reachF_le r lv f q M))
    · exact hM
theorem nbrs_bd {r : Rk} {p q : Int} (h : q ∈ nbrs r p) : 0 ≤ q ∧ q < pinsN r.rows := by
  unfold nbrs pinL at h
  have h2 := (List.mem_filter.1 h).1
  obtain ⟨i, hi, rfl⟩ := List.mem_map.1 h2
  have := List.mem_range.1 hi
  have := (@pinsN_bd r).1
  omega
theorem reachF_lt (r : Rk) (lv : Nat) : ∀ (f : Nat) (p : Int) (R : Nat), 0 ≤ p → p ≤ 15 → R < 65536 → reachF r lv f p R < 65536
  | 0, p, R, h1, h2, hR => or16 hR (bit16 h1 h2)
  | f + 1, p, R, h1, h2, hR => by
    rw [reachF_succ]
    refine fold_inv (fun M => M < 65536) _ _ _ (or16 hR (bit16 h1 h2)) fun M q hq hM => ?_
    have := nbrs_bd hq; have := (@pinsN_bd r).2
    unfold stepR; split
    · exact reachF_lt r lv f q M (by omega) (by omega) hM
    · exact hM

/-- What the search stands on. -/
structure RS (r : Rk) (lv bR bK bV bG : Nat) (W : World) (R : Nat) : Prop where
  a : Boxed W bR 100 (.int .u16 (R : Nat))
  k : Blk W bK (rCells r) 32
  v : Boxed W bV 100 (.int .u16 (lv : Nat))
  g : Boxed W bG 156 (.func (.func 105) #[] #[.pointer (some ⟨bR, 0, none⟩), .pointer (some ⟨bK, 0, none⟩), .pointer (some ⟨bV, 0, none⟩), .pointer (some ⟨bG, 0, none⟩)])
theorem RS.far {r : Rk} {lv bR bK bV bG R : Nat} {W W' : World} {p : Nat → Prop} (h : RS r lv bR bK bV bG W R) (ha : Alt p W W') (h1 : ¬ p bR) (h2 : ¬ p bK) (h3 : ¬ p bV) (h4 : ¬ p bG) : RS r lv bR bK bV bG W' R :=
  ⟨Boxed.alt h.a ha h1, Blk.alt h.k ha h2, Boxed.alt h.v ha h3, Boxed.alt h.g ha h4⟩
theorem RS.go {r : Rk} {lv bR bK bV bG R M : Nat} {W W' : World} (h : RS r lv bR bK bV bG W R) (hb : bR ≠ bK ∧ bR ≠ bV ∧ bR ≠ bG) (ha : Alt (fun k => k = bR) W W') (hl : Boxed W' bR 100 (.int .u16 (M : Nat))) : RS r lv bR bK bV bG W' M :=
  ⟨hl, Blk.alt h.k ha (fun e => hb.1 e.symm), Boxed.alt h.v ha (fun e => hb.2.1 e.symm), Boxed.alt h.g ha (fun e => hb.2.2 e.symm)⟩

theorem eg115 : ∀ args w, (callFunc 115 args).run Tryd.prog w = .ok (.enter 115 args) w := enters_of Tryd.func115 (by kernel_rfl) rfl

set_option maxRecDepth 100000 in
set_option maxHeartbeats 8000000 in
theorem reach_any (r : Rk) (lv bR bK bV bG : Nat) (ok : r.Ok) (hb : bR ≠ bK ∧ bR ≠ bV ∧ bR ≠ bG) (hlv : lv < 65536) :
    ∀ (f : Nat) (p : Int) (R : Nat) (W : World), 0 ≤ p → p < pinsN r.rows → R < 65536 → (els (dif lv R)).length ≤ f → lv.testBit p.toNat = true → R.testBit p.toNat = false → RS r lv bR bK bV bG W R →
    Calls Tryd.prog 105 #[.int .i64 p, .pointer (some ⟨bR, 0, none⟩), .pointer (some ⟨bK, 0, none⟩), .pointer (some ⟨bV, 0, none⟩), .pointer (some ⟨bG, 0, none⟩)] W fun e W' => e = .returned (.tuple #[]) ∧ Boxed W' bR 100 (.int .u16 (reachF r lv f p R : Nat)) ∧ Alt (fun k => k = bR) W W' := by
  intro f
  induction f with
  | zero =>
    intro p R W p1 p2 hR hs hbit hoff
    have := (@pinsN_bd r).2
    have : p ∈ els (dif lv R) := (mem_els _ _).2 ⟨p1, by omega, by rw [dif_bit, hbit, hoff]; rfl⟩
    have := List.length_pos_of_mem this
    omega
  | succ f ih =>
    intro p R W p1 p2 hR hs hbit hoff h
    have IH := Lib.hid ih
    clear ih
    have hp15 : p ≤ 15 := by have := (@pinsN_bd r).2; omega
    have hD : R ||| 1 <<< p.toNat < 65536 := or16 hR (bit16 p1 hp15)
    have hDs : (els (dif lv (R ||| 1 <<< p.toNat))).length ≤ f := by
      have := size_lt (a := dif lv (R ||| 1 <<< p.toNat)) (b := dif lv R) (fun i hi => by rw [dif_bit] at hi ⊢; rw [Nat.testBit_or] at hi; cases hx : lv.testBit i <;> cases hy : R.testBit i <;> simp_all) p1 hp15 (by rw [dif_bit, hbit, hoff]; rfl) (by rw [dif_bit, Nat.testBit_or, one_bit]; simp)
      omega
    have hfs := Lib.hid (reachF_succ r lv f p R)
    have E1 := bor16 hR (bit16 p1 hp15)
    have E2 := shl16 p1 hp15
    rw [← E2] at E1
    have cL := h.a.cell
    have fL := h.a.frozen
    have NB := Lib.hid (fun W => callsIn_wide (n := 0).2 (neighbours_any r p W))
    have hA0 := (Alt.refl (fun k => k = bR) W).setCell (q := ⟨bR, 0, none⟩) rfl (.int .u16 ((R ||| 1 <<< p.toNat : Nat) : Int))
    have HG := Lib.hid (h.go hb hA0 (Boxed.set _ h.a))
    have A0 := Lib.hid hA0
    generalize R ||| 1 <<< p.toNat = D at *
    generalize reachF r lv (f + 1) p R = RES at *
    clear h hA0 hbit hoff hs E2
    refine (callsIn_wide (n := 0)).1 ?_
    refine callsIn_of_wp_marks Tryd.func105 rfl trivial ?_ rfl
    simp only [Tryd.ntmps105, List.size_toArray, List.length_cons, List.length_nil, Nat.reduceAdd, Nat.reduceSub, Array.replicate_succ, Array.replicate_zero, List.push_toArray, List.append_toArray, List.nil_append, List.cons_append]
    gi_wp2
    refine (wpIn_wide (n := 0)).2 ?_
    go_still_tail 4, (by kernel_rfl)
    go_wp2_with fail
    generalize hW1 : World.drew _ = W1
    have G1 : RS r lv bR bK bV bG W1 D := by rw [← hW1]; exact HG.out.far (p := fun _ => False) (Alt.refl _ _).drew id id id id
    have A1 : Alt (fun k => k = bR) W W1 := by rw [← hW1]; exact A0.out.drew
    clear hW1 HG A0 E1 cL fL
    have r0 : W1.cell? ⟨bK, 0, none⟩ = some (.int .i64 r.rows) := G1.k.cell 0 rfl
    have r1 : W1.cell? ⟨bK, 1, none⟩ = some (.int .i64 r.mid) := G1.k.cell 1 rfl
    have r2 : W1.cell? ⟨bK, 2, none⟩ = some (.int .i64 r.gap) := G1.k.cell 2 rfl
    have r3 : W1.cell? ⟨bK, 3, none⟩ = some (.int .i64 r.reach) := G1.k.cell 3 rfl
    have r4 : W1.cell? ⟨bK, 4, none⟩ = some (.slice r.la r.ls.length r.lc) := G1.k.cell 4 rfl
    have NB1 := Lib.hid (NB.out W1)
    obtain ⟨V, hV⟩ : ∃ V, Hid (V = r.val) := ⟨_, Lib.hid rfl⟩
    unfold Rk.val at NB1
    gi_wp2
    refine ⟨trivial, rfl, ?_⟩
    refine NB1.out.mono ?_
    rintro e w2 ⟨rfl, rfl⟩
    have bk2 : Blk ((W1.alloc (.cells (rCells r) 32)).alloc (.cells #[.int .i64 p] 3)) W1.heap.size (rCells r) 32 := Blk.alt (p := fun _ => False) (Blk.new W1 _ _) ((Alt.refl _ _).alloc _) id
    have bp2 : Boxed ((W1.alloc (.cells (rCells r) 32)).alloc (.cells #[.int .i64 p] 3)) (W1.heap.size + 1) 3 (.int .i64 p) := by
      have := Boxed.new (W1.alloc (.cells (rCells r) 32)) 3 (.int .i64 p)
      rwa [World.size_alloc] at this
    have X2 : Alt (fun _ => False) W1 ((W1.alloc (.cells (rCells r) 32)).alloc (.cells #[.int .i64 p] 3)) := ((Alt.refl _ _).alloc _).alloc _
    have G2 := G1.far X2 id id id id
    have A2 := A1.trans (X2.mono fun _ _ h => h.elim)
    have HZ2 := Lib.hid (show ((W1.alloc (.cells (rCells r) 32)).alloc (.cells #[.int .i64 p] 3)).heap.size = W1.heap.size + 2 by simp)
    have l1 := Lib.hid G1.a.lt
    have l2 := Lib.hid G1.k.lt
    have l3 := Lib.hid G1.v.lt
    have l4 := Lib.hid G1.g.lt
    have hsW := Lib.hid A1.size
    clear r0 r1 r2 r3 r4 NB1 NB X2 G1 A1
    gi_wp2
    generalize (W1.alloc _).alloc _ = W2 at *
    have HB := Lib.hid (fun N W (hN : N < 65536) (q : Int) (q1 : 0 ≤ q) (q2 : q ≤ 15) => callsIn_wide (n := 0).2 (has_bit N q W hN q1 q2))
    refine wp_iterT (gf := 115) (lb := #[.pointer (some ⟨W1.heap.size, 0, none⟩), .pointer (some ⟨W1.heap.size + 1, 0, none⟩)]) rfl eg115 (nbr_iter r p W1.heap.size (W1.heap.size + 1) W2 ok p1 p2 bk2 bp2) (fun k h => by have := HZ2.out; omega) (fun _ => rfl)
      (fun k => k = bR) (fun k h => by have := HZ2.out; have := l1.out; exact ⟨fun e => by omega, fun e => by unfold Rng at e; omega⟩)
      (fun pre A => RS r lv bR bK bV bG A (pre.foldl (stepR r lv f) D) ∧ Alt (fun k => k = bR) W A)
      (fun pre x a1 A => (RS r lv bR bK bV bG A (pre.foldl (stepR r lv f) D) ∧ Alt (fun k => k = bR) W A) ∧ a1 = { tmps := #[.int .i64 p, .pointer (some ⟨bR, 0, none⟩), .pointer (some ⟨bK, 0, none⟩), .pointer (some ⟨bV, 0, none⟩), .pointer (some ⟨bG, 0, none⟩), undef, .int .i64 x, .int .u16 (R : Nat), .int .i64 p, .int .u16 (IntKind.u16.wrap (2 ^ p.toNat)), .int .u16 (D : Nat), .agg #[.int .i64 r.rows, .int .i64 r.mid, .int .i64 r.gap, .int .i64 r.reach, .slice r.la r.ls.length r.lc], .int .i64 p, .func (.func 115) #[] #[.pointer (some ⟨W1.heap.size, 0, none⟩), .pointer (some ⟨W1.heap.size + 1, 0, none⟩)], .int .i64 x, undef, undef, undef, undef, undef, undef, undef, undef, undef, undef, undef, undef], defers := [] })
      (fun pre A B h hAB => ?stI) (fun pre x a A B h hAB => ?stM) ⟨G2, A2⟩ ?assign ?body ?done
    case stI =>
      have z1 := l1.out; have z2 := l2.out; have z3 := l3.out; have z4 := l4.out; have z5 := HZ2.out; have z6 := hsW.out
      exact ⟨h.1.far hAB (fun e => by unfold Rng at e; omega) (fun e => by unfold Rng at e; omega) (fun e => by unfold Rng at e; omega) (fun e => by unfold Rng at e; omega), h.2.trans2 hAB (fun k hk e => by unfold Rng at e; omega)⟩
    case stM =>
      have z1 := l1.out; have z2 := l2.out; have z3 := l3.out; have z4 := l4.out; have z5 := HZ2.out; have z6 := hsW.out
      obtain ⟨h, e⟩ := h
      exact ⟨⟨h.1.far hAB (fun e => by unfold Rng at e; omega) (fun e => by unfold Rng at e; omega) (fun e => by unfold Rng at e; omega) (fun e => by unfold Rng at e; omega), h.2.trans2 hAB (fun k hk e => by unfold Rng at e; omega)⟩, e⟩
    case assign =>
      intro l pre x post A hx hz hl hr h
      clear hx hl
      gi_wp2
      exact ⟨Alt.refl _ _, h, by first | trivial | rfl⟩
    case body =>
      rintro l pre x post a1 A hx hzA hl' hr ⟨⟨h1, h3⟩, rfl⟩
      have hmem : x ∈ nbrs r p := by rw [hx]; simp
      have hxb := nbrs_bd hmem
      have hx15 : x ≤ 15 := by have := (@pinsN_bd r).2; omega
      have hts := Lib.hid (fold_take_snoc (stepR r lv f) D pre x)
      have hMs : Sub D (pre.foldl (stepR r lv f) D) := fold_inv (fun M => Sub D M) (stepR r lv f) pre D (Sub.refl _) fun M q _ h => by
        unfold stepR; split
        · exact h.trans ((or_sub _ _).trans (reachF_le r lv f q M))
        · exact h
      have hM16 : pre.foldl (stepR r lv f) D < 65536 := fold_inv (fun M => M < 65536) (stepR r lv f) pre D hD fun M q hq h => by
        have hq' : q ∈ nbrs r p := by rw [hx]; simp [hq]
        have := nbrs_bd hq'; have := (@pinsN_bd r).2
        unfold stepR; split
        · exact reachF_lt r lv f q M (by omega) (by omega) h
        · exact h
      generalize pre.foldl (stepR r lv f) D = M at *
      have hMf : (els (dif lv M)).length ≤ f := Nat.le_trans (size_mono fun i hi => by
        rw [dif_bit] at hi ⊢
        cases hx' : lv.testBit i
        · rw [hx'] at hi; cases hi
        · cases hy : D.testBit i
          · rfl
          · rw [hMs i hy] at hi; simp at hi) hDs
      have HB1 := Lib.hid (HB.out lv A hlv x hxb.1 hx15)
      have HB2 := Lib.hid (HB.out M A hM16 x hxb.1 hx15)
      have c1 := h1.a.cell
      have c3 := h1.v.cell
      have c4 := h1.g.cell
      have H1 := Lib.hid h1
      clear hx hl' HB bk2 bp2 G2 A2 hMs
      gi_wp2
      refine ⟨trivial, rfl, ?_⟩
      refine (CallsIn.inRound l HB1.out).mono ?_
      rintro e w1 ⟨rfl, rfl⟩
      cases hq : lv.testBit x.toNat
      · have hts2 := Lib.hid (show _ = M from hts.out.trans (by unfold stepR; rw [if_neg (by rw [hq]; simp)]))
        clear hq
        gi_wp2
        refine ⟨trivial, ?_⟩
        gi_wp2
        exact ⟨Alt.refl _ _, by rw [hts2.out]; exact H1.out, h3⟩
      · gi_wp2
        refine ⟨trivial, rfl, ?_⟩
        refine (CallsIn.inRound l HB2.out).mono ?_
        rintro e w1 ⟨rfl, rfl⟩
        cases hq2 : M.testBit x.toNat
        · have hts2 := Lib.hid (show _ = reachF r lv f x M from hts.out.trans (by unfold stepR; rw [if_pos ⟨hq, hq2⟩]))
          have FX := Lib.hid (callsIn_wide (n := 0).2 (IH.out x M A hxb.1 hxb.2 hM16 hMf hq hq2 H1.out))
          clear hq hq2
          gi_wp2
          refine ⟨trivial, rfl, ?_⟩
          refine (CallsIn.inRound l FX.out).mono ?_
          rintro e w2 ⟨rfl, h5, a5⟩
          have F7 := Lib.hid (H1.out.go hb a5 h5)
          have A5 := Lib.hid a5
          have A7 := Lib.hid (h3.trans a5)
          clear h5 a5 c1 c3 c4
          gi_wp2
          exact ⟨A5.out, by rw [hts2.out]; exact F7.out, A7.out⟩
        · have hts2 := Lib.hid (show _ = M from hts.out.trans (by unfold stepR; rw [if_neg (by rw [hq2]; simp)]))
          clear hq hq2
          gi_wp2
          exact ⟨Alt.refl _ _, by rw [hts2.out]; exact H1.out, h3⟩
    case done =>
      rintro B ⟨h1, h3⟩ hzB hK'
      have z5 := HZ2.out; have z6 := hsW.out; have z1 := l1.out
      have HR := Lib.hid hfs.out
      have BB := Lib.hid (Boxed.alt h1.a (Alt.put (p := fun k => k = W2.heap.size) rfl (.deferred none)) (by omega))
      have AA := Lib.hid (h3.trans2 (Alt.put (p := fun k => k = W2.heap.size) rfl (.deferred none)) (fun k hk e => by omega))
      clear z5 z6 z1 hfs
      gi_wp2
      show bodyPostM Fence.wide 0 Tryd.prog Tryd.f105 _ Exit.ret _ _
      refine leave_ret hK' (results_none rfl _ _ _) ⟨rfl, by rw [HR.out]; exact BB.out, AA.out⟩

end Go.Proofs.YtaloffdkadhhnaaDoor
