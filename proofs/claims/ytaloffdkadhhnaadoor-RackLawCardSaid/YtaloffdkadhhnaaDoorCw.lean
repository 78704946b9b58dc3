/- The contracts of Convert and of ProveConvert. -/
import Derived.Test.YtaloffdkadhhnaaDoorFl
set_option linter.unusedVariables false
set_option linter.unusedSimpArgs false
namespace Go.Proofs.YtaloffdkadhhnaaDoor
open Go.RowKit

def rCells (r : Rk) : Array Value := #[.int .i64 r.rows, .int .i64 r.mid, .int .i64 r.gap, .int .i64 r.reach, .slice r.la r.ls.length r.lc]

set_option maxRecDepth 100000 in
set_option maxHeartbeats 4000000 in
theorem conv1_any (r : Rk) (l : Ln) (k : Nat) (St : Nat) (cb : Lk → Bool) (rB sB cB : Nat) (w : World) (hc : Carry k #[] (fun _ => True) cb 0) (hf : r.Fit w) (s1 : 0 ≤ l.st) (s2 : l.st ≤ 60) (d1 : -3 ≤ l.dr) (d2 : l.dr ≤ 3) (hSt : St < 65536) (hp : ∀ x ∈ els St, x < pinsN r.rows)
    (hr : Blk w rB (rCells r) 32) (hs : Boxed w sB 100 (.int .u16 (St : Nat))) (hcB : Boxed w cB 109 (.func (.func k) #[] #[])) :
    Calls Tryd.prog 82 #[l.val, .pointer (some ⟨rB, 0, none⟩), .pointer (some ⟨sB, 0, none⟩), .pointer (some ⟨cB, 0, none⟩)] w fun e w' => e = .returned (.bool (convB r St l cb)) ∧ Below w.heap.size w w' := by
  have CV := Lib.hid (fun W (hb : Below w.heap.size w W) => converts_any r l k #[] St (fun _ => True) cb W (hc.up (Nat.zero_le _)) trivial (hf.lo hb) (by omega) (by omega) (by omega) (by omega) hSt hp)
  generalize convB r St l cb = R at *
  have b0 := below_al w (.cells #[.int .i64 l.st, .int .i64 l.dr] 73)
  have r0 : (w.alloc (.cells #[.int .i64 l.st, .int .i64 l.dr] 73)).cell? ⟨rB, 0, none⟩ = some (.int .i64 r.rows) := cell_lo b0 (hr.cell 0 rfl)
  have r1 : (w.alloc (.cells #[.int .i64 l.st, .int .i64 l.dr] 73)).cell? ⟨rB, 1, none⟩ = some (.int .i64 r.mid) := cell_lo b0 (hr.cell 1 rfl)
  have r2 : (w.alloc (.cells #[.int .i64 l.st, .int .i64 l.dr] 73)).cell? ⟨rB, 2, none⟩ = some (.int .i64 r.gap) := cell_lo b0 (hr.cell 2 rfl)
  have r3 : (w.alloc (.cells #[.int .i64 l.st, .int .i64 l.dr] 73)).cell? ⟨rB, 3, none⟩ = some (.int .i64 r.reach) := cell_lo b0 (hr.cell 3 rfl)
  have r4 : (w.alloc (.cells #[.int .i64 l.st, .int .i64 l.dr] 73)).cell? ⟨rB, 4, none⟩ = some (.slice r.la r.ls.length r.lc) := cell_lo b0 (hr.cell 4 rfl)
  have e0 := cell_lo b0 hs.cell
  have c0 := cell_lo b0 hcB.cell
  have B0 := Lib.hid b0
  clear b0 hr hs hcB hf hp
  unfold Rk.val at CV
  unfold Ln.val at *
  go_enter Tryd.func82, Tryd.ntmps82
  go_wp2_with fail
  refine (CV.out _ B0.out).mono ?_
  rintro e w1 ⟨rfl, hb⟩
  have B1 := Lib.hid (below_go B0.out hb)
  clear hb r0 r1 r2 r3 r4 e0 c0
  go_wp2_with fail
  go_ret
  exact ⟨rfl, B1.out⟩

/-- Which links carry, if they may, or if they must. -/
def cbOf (may : Bool) : Lk → Bool := fun l => may || l.sr
def cvtR (r : Rk) (xs : List Int) (may : Bool) : Ln × Int :=
  if chkE r xs = 0 then (match fstL (fun l => convB r (setN xs) l (cbOf may)) with | some l => (l, 0) | none => (⟨0, 0⟩, 9)) else (⟨0, 0⟩, chkE r xs)

theorem linksOk_of {r : Rk} (h : faultN r = 0) : LinksOk r.ls := by
  obtain ⟨ok, _, _, hw⟩ := faultN_ok h
  intro l hl
  have := hw l hl
  have hp := (@pinsN_bd r)
  unfold wrongB at this
  simp only [Bool.or_eq_false_iff, Bool.not_eq_false'] at this
  obtain ⟨h1, h2, _⟩ := this
  have a := inB_iff.1 h1; have b := inB_iff.1 h2
  omega
theorem chk_set {r : Rk} {xs : List Int} (h : chkE r xs = 0) : setN xs < 65536 ∧ (∀ x ∈ els (setN xs), x < pinsN r.rows) ∧ els (setN xs) = xs := by
  obtain ⟨h1, h2⟩ := chk_ok h
  obtain ⟨hr, hp⟩ := hasL_out h2
  have h3 : ∀ x ∈ xs, 0 ≤ x ∧ x ≤ 15 := fun x hx => by have := hp x hx; have := (@pinsN_bd r).2; omega
  refine ⟨setN_lt h3, ?_, els_setN hr h3⟩
  rw [els_setN hr h3]
  exact fun x hx => (hp x hx).2
theorem carry_of_may (may : Bool) (n0 : Nat) : Carry (if may then 64 else 71) #[] (fun _ => True) (cbOf may) n0 := by
  cases may
  · exact carry_sure n0
  · exact carry_may n0

set_option maxRecDepth 100000 in
set_option maxHeartbeats 8000000 in
theorem convert_any (r : Rk) (xs : List Int) (a : Option Addr) (c : Nat) (may : Bool) (w : World) (hL : LinksAt w r.la r.ls) (hn : r.ls.length ≤ 1000) (hla : ∀ g o, r.la = some ⟨g, o, none⟩ → g < w.heap.size) (hX : IntsAt w a xs) (hm : xs.length ≤ 1000) (hT : TabOK w) :
    Calls Tryd.prog 40 #[r.val, .slice a xs.length c, .bool may] w fun e w' => e = .returned (.tuple #[(cvtR r xs may).1.val, .int .i64 (cvtR r xs may).2]) ∧ Below w.heap.size w w' := by
  have CR := Lib.hid (fun W (hb : Below w.heap.size w W) => check_any r xs a c W (hL.lo hb) hn (hX.lo hb) hm)
  have HR : Hid (cvtR r xs may = if chkE r xs = 0 then (match fstL (fun l => convB r (setN xs) l (cbOf may)) with | some l => (l, 0) | none => (⟨0, 0⟩, 9)) else (⟨0, 0⟩, chkE r xs)) := Lib.hid rfl
  have hNc : chkN r xs = if chkE r xs = 0 then setN xs else 0 := rfl
  generalize cvtR r xs may = RES at *
  have B0 := Lib.hid (below_al2 (below_al w (.cells (rCells r) 32)) (.cells #[.int .i64 0, .int .i64 0] 73))
  have R0 : Hid (Blk ((w.alloc (.cells (rCells r) 32)).alloc (.cells #[.int .i64 0, .int .i64 0] 73)) w.heap.size (rCells r) 32) := Lib.hid (Blk.alt (p := fun _ => False) (Blk.new w _ _) ((Alt.refl _ _).alloc _) id)
  have T0 : Hid (Blk ((w.alloc (.cells (rCells r) 32)).alloc (.cells #[.int .i64 0, .int .i64 0] 73)) (w.heap.size + 1) #[.int .i64 0, .int .i64 0] 73) := Lib.hid (by
    have := Blk.new (w.alloc (.cells (rCells r) 32)) #[.int .i64 0, .int .i64 0] 73
    rwa [World.size_alloc] at this)
  by_cases hE : chkE r xs = 0
  · have hfl := (chk_ok hE).1
    obtain ⟨hs1, hs2, _⟩ := chk_set hE
    have hok := (faultN_ok hfl).1
    have hlk := linksOk_of hfl
    have FIT := Lib.hid (fun W (hb : Below w.heap.size w W) => (⟨hok, hL.lo hb, fun g o e => Nat.lt_of_lt_of_le (hla g o e) hb.size, hlk, hn, hT.lo hb⟩ : r.Fit W))
    rw [if_pos hE] at hNc
    rw [hNc, hE] at CR
    have HR2 : Hid (RES = match fstL (fun l => convB r (setN xs) l (cbOf may)) with | some l => (l, 0) | none => (⟨0, 0⟩, 9)) := Lib.hid (by rw [HR.out, if_pos hE])
    clear HR hNc hE hfl hok hlk hL hla hX hm hT
    generalize setN xs = St at *
    unfold rCells at B0 R0 T0
    unfold Rk.val at CR
    unfold Rk.val
    have HC1 := Lib.hid (fun (l : Ln) W (q1 : 0 ≤ l.st) (q2 : l.st ≤ 60) (q3 : -3 ≤ l.dr) (q4 : l.dr ≤ 3) rB sB cB (hb : Below w.heap.size w W) (h1 : Blk W rB (rCells r) 32) (h2 : Boxed W sB 100 (.int .u16 (St : Nat))) (h3 : Boxed W cB 109 (.func (.func (if may then 64 else 71)) #[] #[])) =>
      conv1_any r l (if may then 64 else 71) St (cbOf may) rB sB cB W (carry_of_may may 0) (FIT.out W hb) q1 q2 q3 q4 hs1 hs2 h1 h2 h3)
    cases may
    · clear hs2
      go_enter Tryd.func40, Tryd.ntmps40
      go_wp2_with fail
      refine (CR.out _ B0.out).mono ?_
      rintro e w1 ⟨rfl, hb⟩
      have B1 := Lib.hid (below_go B0.out hb)
      have R1 := Lib.hid (Blk.alt R0.out (Alt.of_below (p := fun _ => False) hb (fun k hk h => by omega)) id)
      have T1 := Lib.hid (Blk.alt T0.out (Alt.of_below (p := fun _ => False) hb (fun k hk h => by omega)) id)
      clear hb R0 T0 CR
      have B3 := Lib.hid (below_al2 (below_al2 B1.out (.cells #[.int .u16 (St : Nat)] 100)) (.cells #[.func (.func 71) #[] #[]] 109))
      have X3 : Alt (fun _ => False) w1 ((w1.alloc (.cells #[.int .u16 (St : Nat)] 100)).alloc (.cells #[.func (.func 71) #[] #[]] 109)) := ((Alt.refl _ _).alloc _).alloc _
      have R3 := Lib.hid (Blk.alt R1.out X3 id)
      have T3 := Lib.hid (Blk.alt T1.out X3 id)
      have S3 : Hid (Boxed ((w1.alloc (.cells #[.int .u16 (St : Nat)] 100)).alloc (.cells #[.func (.func 71) #[] #[]] 109)) w1.heap.size 100 (.int .u16 (St : Nat))) := Lib.hid ((Boxed.new w1 100 _).alloc _)
      have C3 : Hid (Boxed ((w1.alloc (.cells #[.int .u16 (St : Nat)] 100)).alloc (.cells #[.func (.func 71) #[] #[]] 109)) (w1.heap.size + 1) 109 (.func (.func 71) #[] #[])) := Lib.hid (by
        have := Boxed.new (w1.alloc (.cells #[.int .u16 (St : Nat)] 100)) 109 (.func (.func 71) #[] #[])
        rwa [World.size_alloc] at this)
      have Z3 := Lib.hid (show ((w1.alloc (.cells #[.int .u16 (St : Nat)] 100)).alloc (.cells #[.func (.func 71) #[] #[]] 109)).heap.size = w1.heap.size + 2 by simp)
      have hw1 := Lib.hid R1.out.lt
      clear X3 R1 T1
      go_wp2_with fail
      generalize World.alloc (World.alloc w1 _) _ = W3 at B3 R3 T3 S3 C3 Z3 ⊢
      have FLC := Lib.hid (firstLine_any 82 #[.pointer (some ⟨w.heap.size, 0, none⟩), .pointer (some ⟨w1.heap.size, 0, none⟩), .pointer (some ⟨w1.heap.size + 1, 0, none⟩)] (fun l => convB r St l (cbOf false))
        (fun W => Below w.heap.size w W ∧ Blk W w.heap.size (rCells r) 32 ∧ Boxed W w1.heap.size 100 (.int .u16 (St : Nat)) ∧ Boxed W (w1.heap.size + 1) 109 (.func (.func 71) #[] #[])) W3
        (fun A B h hAB => by
          have z := Z3.out; have z1 := hw1.out; have z2 := B1.out.size
          obtain ⟨a1, a2, a3, a4⟩ := h
          exact ⟨a1.trans (hAB.below a1.size (fun k hk => by omega)), Blk.alt a2 hAB (by omega), Boxed.alt a3 hAB (by omega), Boxed.alt a4 hAB (by omega)⟩)
        ⟨B3.out, R3.out, S3.out, C3.out⟩ (enters_of Tryd.func82 (by kernel_rfl) rfl)
        (fun l W q1 q2 q3 q4 h => by simpa using HC1.out l W q1 q2 q3 q4 _ _ _ h.1 h.2.1 h.2.2.1 h.2.2.2))
      clear S3 C3 R3 HC1
      refine FLC.out.mono ?_
      rintro e w4 ⟨l, b, rfl, hy, hno, hb⟩
      have B4 := Lib.hid (below_go B3.out hb)
      have T4 := Lib.hid (Blk.alt T3.out (Alt.of_below (p := fun _ => False) hb (fun k hk h => by omega)) id)
      have T5 := Lib.hid (Blk.alt T4.out ((Alt.refl (fun _ => False) w4).alloc (.cells #[.int .i64 l.st, .int .i64 l.dr] 73)) id)
      have B5 := Lib.hid (below_al2 B4.out (.cells #[.int .i64 l.st, .int .i64 l.dr] 73))
      have HY := Lib.hid hy; have HN := Lib.hid hno
      clear hb hy hno T3 FLC T4
      unfold Ln.val
      have t0 : (w4.alloc (.cells #[.int .i64 l.st, .int .i64 l.dr] 73)).cell? ⟨w.heap.size + 1, 0, none⟩ = some (.int .i64 0) := T5.out.cell 0 rfl
      have t1 : (w4.alloc (.cells #[.int .i64 l.st, .int .i64 l.dr] 73)).cell? ⟨w.heap.size + 1, 1, none⟩ = some (.int .i64 0) := T5.out.cell 1 rfl
      have f0 := T5.out.fr 0
      have f1 := T5.out.fr 1
      cases b
      · have HR3 := Lib.hid (show RES = (⟨0, 0⟩, 9) from by rw [HR2.out, HN.out rfl])
        have T6 := Lib.hid (T5.out.set2 (.int .i64 0) (.int .i64 0))
        have B6 := Lib.hid ((B5.out.setCell (p := ⟨w.heap.size + 1, 0, none⟩) (Nat.le_succ _) (.int .i64 0)).setCell (p := ⟨w.heap.size + 1, 1, none⟩) (Nat.le_succ _) (.int .i64 0))
        go_wp2_with fail
        generalize World.setCell (World.setCell _ _ _) _ _ = W9 at T6 B6 ⊢
        have h0 : W9.cell? ⟨w.heap.size + 1, 0, none⟩ = some (.int .i64 0) := T6.out.cell 0 rfl
        have h1 : W9.cell? ⟨w.heap.size + 1, 1, none⟩ = some (.int .i64 0) := T6.out.cell 1 rfl
        refine bodyPost_ret (v := .tuple #[.agg #[.int .i64 0, .int .i64 0], .int .i64 9]) (by simp [results, Tryd.results40, go_sem, h0, h1]) rfl ⟨by rw [HR3.out]; rfl, B6.out⟩
      · have HR3 := Lib.hid (show RES = (l, 0) from by rw [HR2.out, HY.out rfl])
        have T6 := Lib.hid (T5.out.set2 (.int .i64 l.st) (.int .i64 l.dr))
        have B6 := Lib.hid ((B5.out.setCell (p := ⟨w.heap.size + 1, 0, none⟩) (Nat.le_succ _) (.int .i64 l.st)).setCell (p := ⟨w.heap.size + 1, 1, none⟩) (Nat.le_succ _) (.int .i64 l.dr))
        go_wp2_with fail
        generalize World.setCell (World.setCell _ _ _) _ _ = W9 at T6 B6 ⊢
        have h0 : W9.cell? ⟨w.heap.size + 1, 0, none⟩ = some (.int .i64 l.st) := T6.out.cell 0 rfl
        have h1 : W9.cell? ⟨w.heap.size + 1, 1, none⟩ = some (.int .i64 l.dr) := T6.out.cell 1 rfl
        refine bodyPost_ret (v := .tuple #[.agg #[.int .i64 l.st, .int .i64 l.dr], .int .i64 0]) (by simp [results, Tryd.results40, go_sem, h0, h1]) rfl ⟨by rw [HR3.out]; rfl, B6.out⟩
    · clear hs2
      go_enter Tryd.func40, Tryd.ntmps40
      go_wp2_with fail
      refine (CR.out _ B0.out).mono ?_
      rintro e w1 ⟨rfl, hb⟩
      have B1 := Lib.hid (below_go B0.out hb)
      have R1 := Lib.hid (Blk.alt R0.out (Alt.of_below (p := fun _ => False) hb (fun k hk h => by omega)) id)
      have T1 := Lib.hid (Blk.alt T0.out (Alt.of_below (p := fun _ => False) hb (fun k hk h => by omega)) id)
      clear hb R0 T0 CR
      have B3 := Lib.hid (below_al2 (below_al2 B1.out (.cells #[.int .u16 (St : Nat)] 100)) (.cells #[.func (.func 64) #[] #[]] 109))
      have X3 : Alt (fun _ => False) w1 ((w1.alloc (.cells #[.int .u16 (St : Nat)] 100)).alloc (.cells #[.func (.func 64) #[] #[]] 109)) := ((Alt.refl _ _).alloc _).alloc _
      have R3 := Lib.hid (Blk.alt R1.out X3 id)
      have T3 := Lib.hid (Blk.alt T1.out X3 id)
      have S3 : Hid (Boxed ((w1.alloc (.cells #[.int .u16 (St : Nat)] 100)).alloc (.cells #[.func (.func 64) #[] #[]] 109)) w1.heap.size 100 (.int .u16 (St : Nat))) := Lib.hid ((Boxed.new w1 100 _).alloc _)
      have C3 : Hid (Boxed ((w1.alloc (.cells #[.int .u16 (St : Nat)] 100)).alloc (.cells #[.func (.func 64) #[] #[]] 109)) (w1.heap.size + 1) 109 (.func (.func 64) #[] #[])) := Lib.hid (by
        have := Boxed.new (w1.alloc (.cells #[.int .u16 (St : Nat)] 100)) 109 (.func (.func 64) #[] #[])
        rwa [World.size_alloc] at this)
      have Z3 := Lib.hid (show ((w1.alloc (.cells #[.int .u16 (St : Nat)] 100)).alloc (.cells #[.func (.func 64) #[] #[]] 109)).heap.size = w1.heap.size + 2 by simp)
      have hw1 := Lib.hid R1.out.lt
      clear X3 R1 T1
      go_wp2_with fail
      generalize World.alloc (World.alloc w1 _) _ = W3 at B3 R3 T3 S3 C3 Z3 ⊢
      have FLC := Lib.hid (firstLine_any 82 #[.pointer (some ⟨w.heap.size, 0, none⟩), .pointer (some ⟨w1.heap.size, 0, none⟩), .pointer (some ⟨w1.heap.size + 1, 0, none⟩)] (fun l => convB r St l (cbOf true))
        (fun W => Below w.heap.size w W ∧ Blk W w.heap.size (rCells r) 32 ∧ Boxed W w1.heap.size 100 (.int .u16 (St : Nat)) ∧ Boxed W (w1.heap.size + 1) 109 (.func (.func 64) #[] #[])) W3
        (fun A B h hAB => by
          have z := Z3.out; have z1 := hw1.out; have z2 := B1.out.size
          obtain ⟨a1, a2, a3, a4⟩ := h
          exact ⟨a1.trans (hAB.below a1.size (fun k hk => by omega)), Blk.alt a2 hAB (by omega), Boxed.alt a3 hAB (by omega), Boxed.alt a4 hAB (by omega)⟩)
        ⟨B3.out, R3.out, S3.out, C3.out⟩ (enters_of Tryd.func82 (by kernel_rfl) rfl)
        (fun l W q1 q2 q3 q4 h => by simpa using HC1.out l W q1 q2 q3 q4 _ _ _ h.1 h.2.1 h.2.2.1 h.2.2.2))
      clear S3 C3 R3 HC1
      refine FLC.out.mono ?_
      rintro e w4 ⟨l, b, rfl, hy, hno, hb⟩
      have B4 := Lib.hid (below_go B3.out hb)
      have T4 := Lib.hid (Blk.alt T3.out (Alt.of_below (p := fun _ => False) hb (fun k hk h => by omega)) id)
      have T5 := Lib.hid (Blk.alt T4.out ((Alt.refl (fun _ => False) w4).alloc (.cells #[.int .i64 l.st, .int .i64 l.dr] 73)) id)
      have B5 := Lib.hid (below_al2 B4.out (.cells #[.int .i64 l.st, .int .i64 l.dr] 73))
      have HY := Lib.hid hy; have HN := Lib.hid hno
      clear hb hy hno T3 FLC T4
      unfold Ln.val
      have t0 : (w4.alloc (.cells #[.int .i64 l.st, .int .i64 l.dr] 73)).cell? ⟨w.heap.size + 1, 0, none⟩ = some (.int .i64 0) := T5.out.cell 0 rfl
      have t1 : (w4.alloc (.cells #[.int .i64 l.st, .int .i64 l.dr] 73)).cell? ⟨w.heap.size + 1, 1, none⟩ = some (.int .i64 0) := T5.out.cell 1 rfl
      have f0 := T5.out.fr 0
      have f1 := T5.out.fr 1
      cases b
      · have HR3 := Lib.hid (show RES = (⟨0, 0⟩, 9) from by rw [HR2.out, HN.out rfl])
        have T6 := Lib.hid (T5.out.set2 (.int .i64 0) (.int .i64 0))
        have B6 := Lib.hid ((B5.out.setCell (p := ⟨w.heap.size + 1, 0, none⟩) (Nat.le_succ _) (.int .i64 0)).setCell (p := ⟨w.heap.size + 1, 1, none⟩) (Nat.le_succ _) (.int .i64 0))
        go_wp2_with fail
        generalize World.setCell (World.setCell _ _ _) _ _ = W9 at T6 B6 ⊢
        have h0 : W9.cell? ⟨w.heap.size + 1, 0, none⟩ = some (.int .i64 0) := T6.out.cell 0 rfl
        have h1 : W9.cell? ⟨w.heap.size + 1, 1, none⟩ = some (.int .i64 0) := T6.out.cell 1 rfl
        refine bodyPost_ret (v := .tuple #[.agg #[.int .i64 0, .int .i64 0], .int .i64 9]) (by simp [results, Tryd.results40, go_sem, h0, h1]) rfl ⟨by rw [HR3.out]; rfl, B6.out⟩
      · have HR3 := Lib.hid (show RES = (l, 0) from by rw [HR2.out, HY.out rfl])
        have T6 := Lib.hid (T5.out.set2 (.int .i64 l.st) (.int .i64 l.dr))
        have B6 := Lib.hid ((B5.out.setCell (p := ⟨w.heap.size + 1, 0, none⟩) (Nat.le_succ _) (.int .i64 l.st)).setCell (p := ⟨w.heap.size + 1, 1, none⟩) (Nat.le_succ _) (.int .i64 l.dr))
        go_wp2_with fail
        generalize World.setCell (World.setCell _ _ _) _ _ = W9 at T6 B6 ⊢
        have h0 : W9.cell? ⟨w.heap.size + 1, 0, none⟩ = some (.int .i64 l.st) := T6.out.cell 0 rfl
        have h1 : W9.cell? ⟨w.heap.size + 1, 1, none⟩ = some (.int .i64 l.dr) := T6.out.cell 1 rfl
        refine bodyPost_ret (v := .tuple #[.agg #[.int .i64 l.st, .int .i64 l.dr], .int .i64 0]) (by simp [results, Tryd.results40, go_sem, h0, h1]) rfl ⟨by rw [HR3.out]; rfl, B6.out⟩
  · have hE' : (chkE r xs == 0) = false := by simpa using hE
    have HR2 := Lib.hid (show RES = (⟨0, 0⟩, chkE r xs) from by rw [HR.out, if_neg hE])
    rw [if_neg hE] at hNc
    rw [hNc] at CR
    generalize chkE r xs = E at *
    unfold rCells at B0 R0 T0
    unfold Rk.val at CR
    unfold Rk.val
    clear HR hNc hE hL hla hX hm hT R0
    go_enter Tryd.func40, Tryd.ntmps40
    go_wp2_with fail
    refine (CR.out _ B0.out).mono ?_
    rintro e w1 ⟨rfl, hb⟩
    have T1 := Lib.hid (Blk.alt T0.out (Alt.of_below (p := fun _ => False) hb (fun k hk h => by omega)) id)
    have T5 := Lib.hid (Blk.alt T1.out ((Alt.refl (fun _ => False) w1).alloc (.cells #[.int .u16 0] 100)) id)
    have B5 := Lib.hid (below_al2 (below_go B0.out hb) (.cells #[.int .u16 0] 100))
    clear hb T0 T1 CR
    have t0 : (w1.alloc (.cells #[.int .u16 0] 100)).cell? ⟨w.heap.size + 1, 0, none⟩ = some (.int .i64 0) := T5.out.cell 0 rfl
    have t1 : (w1.alloc (.cells #[.int .u16 0] 100)).cell? ⟨w.heap.size + 1, 1, none⟩ = some (.int .i64 0) := T5.out.cell 1 rfl
    have f0 := T5.out.fr 0
    have f1 := T5.out.fr 1
    have T6 := Lib.hid (T5.out.set2 (.int .i64 0) (.int .i64 0))
    have B6 := Lib.hid ((B5.out.setCell (p := ⟨w.heap.size + 1, 0, none⟩) (Nat.le_succ _) (.int .i64 0)).setCell (p := ⟨w.heap.size + 1, 1, none⟩) (Nat.le_succ _) (.int .i64 0))
    go_wp2_with fail
    generalize World.setCell (World.setCell _ _ _) _ _ = W9 at T6 B6 ⊢
    have h0 : W9.cell? ⟨w.heap.size + 1, 0, none⟩ = some (.int .i64 0) := T6.out.cell 0 rfl
    have h1 : W9.cell? ⟨w.heap.size + 1, 1, none⟩ = some (.int .i64 0) := T6.out.cell 1 rfl
    refine bodyPost_ret (v := .tuple #[.agg #[.int .i64 0, .int .i64 0], .int .i64 E]) (by simp [results, Tryd.results40, go_sem, h0, h1]) rfl ⟨by rw [HR2.out]; rfl, B6.out⟩

def prvB (r : Rk) (xs : List Int) (l : Ln) : Bool := (chkE r xs == 0) && (l.okB && convB r (setN xs) l (cbOf false))

set_option maxRecDepth 100000 in
set_option maxHeartbeats 8000000 in
theorem prove_any (r : Rk) (xs : List Int) (a : Option Addr) (c : Nat) (l : Ln) (w : World) (hL : LinksAt w r.la r.ls) (hn : r.ls.length ≤ 1000) (hla : ∀ g o, r.la = some ⟨g, o, none⟩ → g < w.heap.size) (hX : IntsAt w a xs) (hm : xs.length ≤ 1000) (hT : TabOK w) :
    Calls Tryd.prog 41 #[r.val, .slice a xs.length c, l.val] w fun e w' => e = .returned (.bool (prvB r xs l)) ∧ Below w.heap.size w w' := by
  have CR := Lib.hid (fun W (hb : Below w.heap.size w W) => check_any r xs a c W (hL.lo hb) hn (hX.lo hb) hm)
  have HR : Hid (prvB r xs l = ((chkE r xs == 0) && (l.okB && convB r (setN xs) l (cbOf false)))) := Lib.hid rfl
  have hNc : chkN r xs = if chkE r xs = 0 then setN xs else 0 := rfl
  have LV := Lib.hid (fun W => lnValid_any l W)
  generalize prvB r xs l = RES at *
  have B0 := Lib.hid (below_al2 (below_al w (.cells (rCells r) 32)) (.cells #[.int .i64 l.st, .int .i64 l.dr] 73))
  have R0 : Hid (Blk ((w.alloc (.cells (rCells r) 32)).alloc (.cells #[.int .i64 l.st, .int .i64 l.dr] 73)) w.heap.size (rCells r) 32) := Lib.hid (Blk.alt (p := fun _ => False) (Blk.new w _ _) ((Alt.refl _ _).alloc _) id)
  have T0 : Hid (Blk ((w.alloc (.cells (rCells r) 32)).alloc (.cells #[.int .i64 l.st, .int .i64 l.dr] 73)) (w.heap.size + 1) #[.int .i64 l.st, .int .i64 l.dr] 73) := Lib.hid (by
    have := Blk.new (w.alloc (.cells (rCells r) 32)) #[.int .i64 l.st, .int .i64 l.dr] 73
    rwa [World.size_alloc] at this)
  by_cases hE : chkE r xs = 0
  · have hfl := (chk_ok hE).1
    obtain ⟨hs1, hs2, _⟩ := chk_set hE
    have hok := (faultN_ok hfl).1
    have hlk := linksOk_of hfl
    have FIT := Lib.hid (fun W (hb : Below w.heap.size w W) => (⟨hok, hL.lo hb, fun g o e => Nat.lt_of_lt_of_le (hla g o e) hb.size, hlk, hn, hT.lo hb⟩ : r.Fit W))
    rw [if_pos hE] at hNc
    rw [hNc, hE] at CR
    have HR2 : Hid (RES = (l.okB && convB r (setN xs) l (cbOf false))) := Lib.hid (by rw [HR.out, hE]; rfl)
    clear HR hNc hE hfl hok hlk hL hla hX hm hT
    generalize setN xs = St at *
    have CV := Lib.hid (fun (ho : l.okB = true) W (hb : Below w.heap.size w W) => by
      unfold Ln.okB at ho
      simp only [Bool.and_eq_true] at ho
      have a1 := inB_iff.1 ho.1; have a2 := inB_iff.1 ho.2
      exact converts_any r l 71 #[] St (fun _ => True) (cbOf false) W (carry_of_may false _) trivial (FIT.out W hb) (by omega) (by omega) (by omega) (by omega) hs1 hs2)
    clear hs2 FIT
    generalize convB r St l (cbOf false) = CB at *
    generalize l.okB = OB at *
    unfold rCells at B0 R0 T0
    unfold Rk.val at CR CV
    unfold Ln.val at LV CV
    unfold Rk.val Ln.val
    go_enter Tryd.func41, Tryd.ntmps41
    go_wp2_with fail
    refine (CR.out _ B0.out).mono ?_
    rintro e w1 ⟨rfl, hb⟩
    have B1 := Lib.hid (below_go B0.out hb)
    have R1 := Lib.hid (Blk.alt R0.out (Alt.of_below (p := fun _ => False) hb (fun k hk h => by omega)) id)
    have T1 := Lib.hid (Blk.alt T0.out (Alt.of_below (p := fun _ => False) hb (fun k hk h => by omega)) id)
    clear hb R0 T0 CR
    have t0 : w1.cell? ⟨w.heap.size + 1, 0, none⟩ = some (.int .i64 l.st) := T1.out.cell 0 rfl
    have t1 : w1.cell? ⟨w.heap.size + 1, 1, none⟩ = some (.int .i64 l.dr) := T1.out.cell 1 rfl
    go_wp2_with fail
    refine (LV.out _).mono ?_
    rintro e w2 ⟨rfl, hb⟩
    have B2 := Lib.hid (below_go B1.out hb)
    have R2 := Lib.hid (Blk.alt R1.out (Alt.of_below (p := fun _ => False) hb (fun k hk h => by omega)) id)
    have T2 := Lib.hid (Blk.alt T1.out (Alt.of_below (p := fun _ => False) hb (fun k hk h => by omega)) id)
    clear hb R1 T1 t0 t1
    cases OB
    · clear CV
      go_wp2_with fail
      go_ret
      exact ⟨by rw [HR2.out]; rfl, B2.out⟩
    · have CV2 := Lib.hid (CV.out rfl)
      clear CV
      have t0 : w2.cell? ⟨w.heap.size + 1, 0, none⟩ = some (.int .i64 l.st) := T2.out.cell 0 rfl
      have t1 : w2.cell? ⟨w.heap.size + 1, 1, none⟩ = some (.int .i64 l.dr) := T2.out.cell 1 rfl
      have r0 : w2.cell? ⟨w.heap.size, 0, none⟩ = some (.int .i64 r.rows) := R2.out.cell 0 rfl
      have r1 : w2.cell? ⟨w.heap.size, 1, none⟩ = some (.int .i64 r.mid) := R2.out.cell 1 rfl
      have r2 : w2.cell? ⟨w.heap.size, 2, none⟩ = some (.int .i64 r.gap) := R2.out.cell 2 rfl
      have r3 : w2.cell? ⟨w.heap.size, 3, none⟩ = some (.int .i64 r.reach) := R2.out.cell 3 rfl
      have r4 : w2.cell? ⟨w.heap.size, 4, none⟩ = some (.slice r.la r.ls.length r.lc) := R2.out.cell 4 rfl
      go_wp2_with fail
      refine (CV2.out _ B2.out).mono ?_
      rintro e w3 ⟨rfl, hb⟩
      have B3 := Lib.hid (below_go B2.out hb)
      clear hb t0 t1 r0 r1 r2 r3 r4
      go_wp2_with fail
      go_ret
      exact ⟨by rw [HR2.out]; rfl, B3.out⟩
  · have hE' : (chkE r xs == 0) = false := by simpa using hE
    have HR2 := Lib.hid (show RES = false from by rw [HR.out, hE']; rfl)
    rw [if_neg hE] at hNc
    rw [hNc] at CR
    generalize chkE r xs = E at *
    unfold rCells at B0 R0 T0
    unfold Rk.val at CR
    unfold Rk.val Ln.val
    clear HR hNc hE hL hla hX hm hT R0 T0 LV
    go_enter Tryd.func41, Tryd.ntmps41
    go_wp2_with fail
    refine (CR.out _ B0.out).mono ?_
    rintro e w1 ⟨rfl, hb⟩
    have B1 := Lib.hid (below_go B0.out hb)
    clear hb
    go_wp2_with fail
    go_ret
    exact ⟨by rw [HR2.out]; rfl, B1.out⟩

end Go.Proofs.YtaloffdkadhhnaaDoor
