/- The contract of Census. What RackLaw asks of kinds and of the census, in plain words of lists. What a rack tells does not hang on where its links lie. Where statements over a rack stand. -/
import Derived.Test.YtaloffdkadhhnaaDoorGg
import Derived.Test.YtaloffdkadhhnaaDoorGe
import Derived.Test.YtaloffdkadhhnaaDoorGi
set_option linter.unusedVariables false
set_option linter.unusedSimpArgs false

namespace Go.Proofs.YtaloffdkadhhnaaDoor
open Go.RowKit Go.Shelf

attribute [local go_sem] Oper.semAt_some

/-- How many of the first n leaves are of kind k. -/
def cntK (r : Rk) (n k : Nat) : Nat := ((List.range n).filter fun lv => decide (kindN r lv = (k : Int))).length
theorem cntK_succ (r : Rk) (n k : Nat) : cntK r (n + 1) k = cntK r n k + if kindN r n = (k : Int) then 1 else 0 := by
  unfold cntK
  rw [List.range_succ, List.filter_append, List.length_append]
  by_cases h : kindN r n = (k : Int) <;> simp [h]
theorem cntK_le (r : Rk) (n k : Nat) : cntK r n k ≤ n := by
  unfold cntK
  have := List.length_filter_le (fun lv => decide (kindN r lv = (k : Int))) (List.range n)
  simpa using this
def cenA (r : Rk) (n : Nat) : Array Value := #[.int .i64 (cntK r n 0 : Nat), .int .i64 (cntK r n 1 : Nat), .int .i64 (cntK r n 2 : Nat), .int .i64 (cntK r n 3 : Nat), .int .i64 (cntK r n 4 : Nat)]
def cenV (r : Rk) : Value := if faultN r = 0 then .agg (cenA r (2 ^ (pinsN r.rows).toNat)) else .agg #[.int .i64 0, .int .i64 0, .int .i64 0, .int .i64 0, .int .i64 0]
theorem kindN_lt (r : Rk) (lv : Nat) : ∃ k : Nat, k < 5 ∧ kindN r lv = (k : Int) := by
  unfold kindN
  split
  · exact ⟨0, by omega, rfl⟩
  split
  · exact ⟨1, by omega, rfl⟩
  split
  · exact ⟨2, by omega, rfl⟩
  split
  · exact ⟨4, by omega, rfl⟩
  · exact ⟨3, by omega, rfl⟩
theorem cenA_at (r : Rk) (n : Nat) {k : Nat} (h : k < 5) : (cenA r n)[k]? = some (.int .i64 (cntK r n k : Nat)) := by
  match k, h with
  | 0, _ => rfl
  | 1, _ => rfl
  | 2, _ => rfl
  | 3, _ => rfl
  | 4, _ => rfl
theorem cenA_set (r : Rk) (n : Nat) {k : Nat} (h : k < 5) (hk : kindN r n = (k : Int)) : (cenA r n).setIfInBounds k (.int .i64 ((cntK r n k : Int) + 1)) = cenA r (n + 1) := by
  unfold cenA
  simp only [cntK_succ, hk]
  match k, h with
  | 0, _ => simp
  | 1, _ => simp
  | 2, _ => simp
  | 3, _ => simp
  | 4, _ => simp

theorem els_bound {lv p : Nat} (h : lv < 2 ^ p) : ∀ x ∈ els lv, x < (p : Int) := fun x hx => by
  obtain ⟨h0, h1, h2⟩ := (mem_els _ _).1 hx
  apply Int.lt_of_not_ge
  intro hge
  have : lv.testBit x.toNat = false := Nat.testBit_lt_two_pow (Nat.lt_of_lt_of_le h (Nat.pow_le_pow_right (by omega) (by omega)))
  rw [this] at h2
  cases h2

theorem shl16n {p : Nat} (h2 : p ≤ 15) : IntKind.u16.wrap (2 ^ p) = ((2 ^ p : Nat) : Int) := by
  have := shl16 (p := (p : Int)) (by omega) (by omega)
  rw [Int.toNat_natCast, Nat.one_shiftLeft] at this
  exact this

set_option maxRecDepth 100000 in
set_option maxHeartbeats 8000000 in
theorem Census_any (r : Rk) (w : World) (hL : LinksAt w r.la r.ls) (hn : r.ls.length ≤ 1000) (hT : TabOK w) :
    Calls Tryd.prog 21 #[r.val] w fun e w' => e = .returned (.tuple #[cenV r, .int .i64 (faultN r)]) ∧ Below w.heap.size w w' := by
  have CR := Lib.hid (fun W (hb : Below w.heap.size w W) => checkRack_any r W (hL.lo hb) hn)
  have HR : Hid (cenV r = if faultN r = 0 then .agg (cenA r (2 ^ (pinsN r.rows).toNat)) else .agg #[.int .i64 0, .int .i64 0, .int .i64 0, .int .i64 0, .int .i64 0]) := Lib.hid rfl
  have B0 := Lib.hid (below_al2 (below_al w (.cells (rCells r) 32)) (.cells #[.int .i64 0, .int .i64 0, .int .i64 0, .int .i64 0, .int .i64 0] 37))
  have R0 : Hid (Blk ((w.alloc (.cells (rCells r) 32)).alloc (.cells #[.int .i64 0, .int .i64 0, .int .i64 0, .int .i64 0, .int .i64 0] 37)) w.heap.size (rCells r) 32) := Lib.hid (Blk.alt (p := fun _ => False) (Blk.new w _ _) ((Alt.refl _ _).alloc _) id)
  have T0 : Hid (Blk ((w.alloc (.cells (rCells r) 32)).alloc (.cells #[.int .i64 0, .int .i64 0, .int .i64 0, .int .i64 0, .int .i64 0] 37)) (w.heap.size + 1) #[.int .i64 0, .int .i64 0, .int .i64 0, .int .i64 0, .int .i64 0] 37) := Lib.hid (by
    have := Blk.new (w.alloc (.cells (rCells r) 32)) #[.int .i64 0, .int .i64 0, .int .i64 0, .int .i64 0, .int .i64 0] 37
    rwa [World.size_alloc] at this)
  by_cases hE : faultN r = 0
  · have hok := (faultN_ok hE).1
    rw [hE] at CR
    rw [HR.out, if_pos hE, hE]
    obtain ⟨p, hp⟩ : ∃ p : Nat, (p : Int) = pinsN r.rows := ⟨(pinsN r.rows).toNat, by have := (@pinsN_bd r).1; omega⟩
    have hp10 : p ≤ 10 := by have := (@pinsN_bd r).2; omega
    rw [← hp, Int.toNat_natCast]
    have PN := Lib.hid (fun W => pins_any r W hok.r1 hok.r2)
    rw [← hp] at PN
    have HN : Hid (2 ^ p ≤ 1024) := Lib.hid (by have := Nat.pow_le_pow_right (n := 2) (by omega) hp10; simpa using this)
    have KI := Lib.hid (fun lv W (h : lv < 2 ^ p) (hb : Below w.heap.size w W) => kind_any r lv W hok (by have := HN.out; omega) (fun x hx => by have := els_bound h x hx; omega) (hT.lo hb))
    have SH := shl16n (p := p) (by omega)
    have hp0 : (0 : Int) ≤ (p : Int) := by omega
    clear HR hE hL hT hp
    obtain ⟨N, hN⟩ : ∃ N, N = 2 ^ p := ⟨_, rfl⟩
    rw [← hN] at SH HN KI ⊢
    unfold rCells at B0 R0
    unfold Rk.val at CR PN KI
    unfold Rk.val
    clear hN hok
    go_enter Tryd.func21, Tryd.ntmps21
    go_wp2_with fail
    refine (CR.out _ B0.out).mono ?_
    rintro e w1 ⟨rfl, hb⟩
    have B1 := Lib.hid (below_go B0.out (hb.trans ((below_al w1 (.cells #[.int .i64 0, .int .i64 0, .int .i64 0, .int .i64 0, .int .i64 0] 37)).mono hb.size)))
    have A1 : ∀ p : Nat → Prop, (∀ k, ((w.alloc (.cells #[.int .i64 r.rows, .int .i64 r.mid, .int .i64 r.gap, .int .i64 r.reach, .slice r.la r.ls.length r.lc] 32)).alloc (.cells #[.int .i64 0, .int .i64 0, .int .i64 0, .int .i64 0, .int .i64 0] 37)).heap.size ≤ k → p k) → Alt p _ w1 := fun p h => Alt.of_below hb (fun k _ e => h k e)
    have R1 := Lib.hid (Blk.alt (p := fun _ => False) R0.out ((Alt.of_below hb (fun k hk h => by omega)).alloc (.cells #[.int .i64 0, .int .i64 0, .int .i64 0, .int .i64 0, .int .i64 0] 37)) id)
    have T1 := Lib.hid (Blk.alt (p := fun _ => False) T0.out ((Alt.of_below hb (fun k hk h => by omega)).alloc (.cells #[.int .i64 0, .int .i64 0, .int .i64 0, .int .i64 0, .int .i64 0] 37)) id)
    have C1 := Lib.hid (Blk.new w1 #[.int .i64 0, .int .i64 0, .int .i64 0, .int .i64 0, .int .i64 0] 37)
    have Z1 := Lib.hid (show w.heap.size + 2 ≤ w1.heap.size by have := hb.size; simpa using this)
    clear hb R0 CR B0 T0 A1
    obtain ⟨W2, hW2⟩ : ∃ W2, Hid (W2 = w1.alloc (.cells #[.int .i64 0, .int .i64 0, .int .i64 0, .int .i64 0, .int .i64 0] 37)) := ⟨_, Lib.hid rfl⟩
    have Z2 := Lib.hid (show W2.heap.size = w1.heap.size + 1 by rw [hW2.out]; simp)
    have hWo := hW2.out
    rw [← hWo] at R1 T1 C1 B1
    have r0 : W2.cell? ⟨w.heap.size, 0, none⟩ = some (.int .i64 r.rows) := R1.out.cell 0 rfl
    have r1 : W2.cell? ⟨w.heap.size, 1, none⟩ = some (.int .i64 r.mid) := R1.out.cell 1 rfl
    have r2 : W2.cell? ⟨w.heap.size, 2, none⟩ = some (.int .i64 r.gap) := R1.out.cell 2 rfl
    have r3 : W2.cell? ⟨w.heap.size, 3, none⟩ = some (.int .i64 r.reach) := R1.out.cell 3 rfl
    have r4 : W2.cell? ⟨w.heap.size, 4, none⟩ = some (.slice r.la r.ls.length r.lc) := R1.out.cell 4 rfl
    rw [hWo] at r0 r1 r2 r3 r4
    clear hWo
    go_wp2_with fail
    have hWo := hW2.out
    rw [← hWo]
    clear hWo r0 r1 r2 r3 r4 hW2
    refine (PN.out _).mono ?_
    rintro e w3 ⟨rfl, hb⟩
    have B3 := Lib.hid (below_go B1.out hb)
    have R3 := Lib.hid (Blk.alt R1.out (Alt.of_below (p := fun _ => False) hb (fun k hk h => by omega)) id)
    have T3 := Lib.hid (Blk.alt T1.out (Alt.of_below (p := fun _ => False) hb (fun k hk h => by omega)) id)
    have C3 : Hid (Blk w3 w1.heap.size (cenA r 0) 37) := Lib.hid (Blk.alt C1.out (Alt.of_below (p := fun _ => False) hb (fun k hk h => by omega)) id)
    clear hb B1 R1 T1 C1 PN
    go_wp2_with fail
    go_loopg [16] N (fun g s16 wx => ∃ (i : Nat), i ≤ N ∧ g = N - i ∧ s16 = .int .u16 (i : Nat) ∧ Hid (Blk wx w1.heap.size (cenA r i) 37) ∧ Hid (Blk wx w.heap.size #[.int .i64 r.rows, .int .i64 r.mid, .int .i64 r.gap, .int .i64 r.reach, .slice r.la r.ls.length r.lc] 32) ∧ Hid (Blk wx (w.heap.size + 1) #[.int .i64 0, .int .i64 0, .int .i64 0, .int .i64 0, .int .i64 0] 37) ∧ Hid (Below w.heap.size w wx))
    case atStart => exact ⟨0, by omega, by omega, rfl, C3, R3, T3, B3⟩
    case round =>
      obtain ⟨i, hi, rfl, rfl, hC, hRk, hTk, hB⟩ := hrel
      clear C3 R3 T3 B3
      by_cases hlt : i < N
      · obtain ⟨k, hk5, hk⟩ := kindN_lt r i
        have KIi := KI.out i wr hlt hB.out
        rw [hk] at KIi
        have KJ := Lib.hid KIi
        have hz : (i : Int) < (N : Int) := by omega
        have hcl := cntK_le r i k
        have hN := HN.out
        have e2 : IntKind.i64.wrap ((cntK r i k : Int) + 1) = (cntK r i k : Int) + 1 := IntWalk.i64_in _ (by omega)
        have eu : IntKind.u16.wrap ((i : Int) + 1) = (i : Int) + 1 := by unfold IntKind.wrap; simp [IntKind.bits, IntKind.signed]; omega
        have hk0 : (0 : Int) ≤ (k : Int) := by omega
        have hk1 : (k : Int) < 5 := by omega
        have HS := Lib.hid (cenA_set r i hk5 hk)
        have HA := Lib.hid (cenA_at r i hk5)
        have r0 : wr.cell? ⟨w.heap.size, 0, none⟩ = some (.int .i64 r.rows) := hRk.out.cell 0 rfl
        have r1 : wr.cell? ⟨w.heap.size, 1, none⟩ = some (.int .i64 r.mid) := hRk.out.cell 1 rfl
        have r2 : wr.cell? ⟨w.heap.size, 2, none⟩ = some (.int .i64 r.gap) := hRk.out.cell 2 rfl
        have r3 : wr.cell? ⟨w.heap.size, 3, none⟩ = some (.int .i64 r.reach) := hRk.out.cell 3 rfl
        have r4 : wr.cell? ⟨w.heap.size, 4, none⟩ = some (.slice r.la r.ls.length r.lc) := hRk.out.cell 4 rfl
        clear KIi hk KI hcl hN
        go_wp2_with fail
        refine KJ.out.mono ?_
        rintro e w4 ⟨rfl, hb⟩
        have C4 := Lib.hid (Blk.alt hC.out (Alt.of_below (p := fun _ => False) hb (fun k hk h => by omega)) id)
        have R4 := Lib.hid (Blk.alt hRk.out (Alt.of_below (p := fun _ => False) hb (fun k hk h => by omega)) id)
        have T4 := Lib.hid (Blk.alt hTk.out (Alt.of_below (p := fun _ => False) hb (fun k hk h => by omega)) id)
        have B4 := Lib.hid (below_go hB.out hb)
        have cc := C4.out.cell k HA.out
        have cf := C4.out.fr k
        have AX := Lib.hid ((Alt.refl (fun j => j = w1.heap.size) w4).setCell (q := ⟨w1.heap.size, k, none⟩) rfl (.int .i64 ((cntK r i k : Int) + 1)))
        have CX : Hid (Blk (w4.setCell ⟨w1.heap.size, k, none⟩ (.int .i64 ((cntK r i k : Int) + 1))) w1.heap.size (cenA r (i + 1)) 37) := Lib.hid (by rw [← HS.out]; exact Blk.setAt C4.out k _)
        clear hb r0 r1 r2 r3 r4 hC hRk hTk hB KJ
        go_wp2_with fail
        go_roundg (N - (i + 1))
        case measure => omega
        case rel => exact ⟨i + 1, by omega, rfl, by simp, CX, Lib.hid (Blk.alt R4.out AX.out (by have := Z1.out; omega)), Lib.hid (Blk.alt T4.out AX.out (by have := Z1.out; omega)), Lib.hid (((Alt.of_below (p := fun k => w.heap.size ≤ k) B4.out (fun k _ h => h)).trans (AX.out.mono fun k _ e => by have := Z1.out; omega)).below (Nat.le_refl _) fun _ h => h)⟩
      · have hz : ¬ (i : Int) < (N : Int) := by omega
        have hiN : i = N := by omega
        have HI := Lib.hid hiN
        clear hlt hiN
        have c0 : wr.cell? ⟨w1.heap.size, 0, none⟩ = some (.int .i64 (cntK r i 0 : Nat)) := hC.out.cell 0 rfl
        have c1 : wr.cell? ⟨w1.heap.size, 1, none⟩ = some (.int .i64 (cntK r i 1 : Nat)) := hC.out.cell 1 rfl
        have c2 : wr.cell? ⟨w1.heap.size, 2, none⟩ = some (.int .i64 (cntK r i 2 : Nat)) := hC.out.cell 2 rfl
        have c3 : wr.cell? ⟨w1.heap.size, 3, none⟩ = some (.int .i64 (cntK r i 3 : Nat)) := hC.out.cell 3 rfl
        have c4 : wr.cell? ⟨w1.heap.size, 4, none⟩ = some (.int .i64 (cntK r i 4 : Nat)) := hC.out.cell 4 rfl
        have t0 : wr.cell? ⟨w.heap.size + 1, 0, none⟩ = some (.int .i64 0) := hTk.out.cell 0 rfl
        have f0 := hTk.out.fr 0
        have t1 : wr.cell? ⟨w.heap.size + 1, 1, none⟩ = some (.int .i64 0) := hTk.out.cell 1 rfl
        have f1 := hTk.out.fr 1
        have t2 : wr.cell? ⟨w.heap.size + 1, 2, none⟩ = some (.int .i64 0) := hTk.out.cell 2 rfl
        have f2 := hTk.out.fr 2
        have t3 : wr.cell? ⟨w.heap.size + 1, 3, none⟩ = some (.int .i64 0) := hTk.out.cell 3 rfl
        have f3 := hTk.out.fr 3
        have t4 : wr.cell? ⟨w.heap.size + 1, 4, none⟩ = some (.int .i64 0) := hTk.out.cell 4 rfl
        have f4 := hTk.out.fr 4
        have TX : Hid (Blk (((((wr.setCell ⟨w.heap.size + 1, 0, none⟩ (.int .i64 (cntK r i 0 : Nat))).setCell ⟨w.heap.size + 1, 1, none⟩ (.int .i64 (cntK r i 1 : Nat))).setCell ⟨w.heap.size + 1, 2, none⟩ (.int .i64 (cntK r i 2 : Nat))).setCell ⟨w.heap.size + 1, 3, none⟩ (.int .i64 (cntK r i 3 : Nat))).setCell ⟨w.heap.size + 1, 4, none⟩ (.int .i64 (cntK r i 4 : Nat))) (w.heap.size + 1) (cenA r i) 37) := Lib.hid (Blk.setAt (Blk.setAt (Blk.setAt (Blk.setAt (Blk.setAt hTk.out 0 _) 1 _) 2 _) 3 _) 4 _)
        have BX : Hid (Below w.heap.size w (((((wr.setCell ⟨w.heap.size + 1, 0, none⟩ (.int .i64 (cntK r i 0 : Nat))).setCell ⟨w.heap.size + 1, 1, none⟩ (.int .i64 (cntK r i 1 : Nat))).setCell ⟨w.heap.size + 1, 2, none⟩ (.int .i64 (cntK r i 2 : Nat))).setCell ⟨w.heap.size + 1, 3, none⟩ (.int .i64 (cntK r i 3 : Nat))).setCell ⟨w.heap.size + 1, 4, none⟩ (.int .i64 (cntK r i 4 : Nat)))) := Lib.hid (((((((Alt.of_below (p := fun k => w.heap.size ≤ k) hB.out (fun k _ h => h)).setCell (q := ⟨w.heap.size + 1, 0, none⟩) (Nat.le_succ _) _).setCell (q := ⟨w.heap.size + 1, 1, none⟩) (Nat.le_succ _) _).setCell (q := ⟨w.heap.size + 1, 2, none⟩) (Nat.le_succ _) _).setCell (q := ⟨w.heap.size + 1, 3, none⟩) (Nat.le_succ _) _).setCell (q := ⟨w.heap.size + 1, 4, none⟩) (Nat.le_succ _) _).below (Nat.le_refl _) fun _ h => h)
        clear hC hRk hTk hB KI
        go_wp2_with fail
        have tx := TX.out
        have bx := BX.out
        generalize World.setCell _ _ _ = X at tx bx ⊢
        rw [HI.out] at tx
        have h0 := tx.cell 0 (cenA_at r N (by omega))
        have h1 := tx.cell 1 (cenA_at r N (by omega))
        have h2 := tx.cell 2 (cenA_at r N (by omega))
        have h3 := tx.cell 3 (cenA_at r N (by omega))
        have h4 := tx.cell 4 (cenA_at r N (by omega))
        clear tx
        refine bodyPost_ret (v := .tuple #[.agg (cenA r N), .int .i64 0]) (by simp [results, Tryd.results21, go_sem, h0, h1, h2, h3, h4, cenA]) rfl ⟨rfl, bx⟩
  · have hE' : (faultN r == 0) = false := by simpa using hE
    rw [HR.out, if_neg hE]
    generalize faultN r = E at *
    clear HR hE hL hT
    unfold rCells at B0 R0 T0
    unfold Rk.val at CR
    unfold Rk.val
    go_enter Tryd.func21, Tryd.ntmps21
    go_wp2_with fail
    refine (CR.out _ B0.out).mono ?_
    rintro e w1 ⟨rfl, hb⟩
    have B1 := Lib.hid (below_go B0.out hb)
    have T1 := Lib.hid (Blk.alt (p := fun _ => False) T0.out (Alt.of_below hb (fun k hk h => by omega)) id)
    have t0 : w1.cell? ⟨w.heap.size + 1, 0, none⟩ = some (.int .i64 0) := T1.out.cell 0 rfl
    have f0 := T1.out.fr 0
    have t1 : w1.cell? ⟨w.heap.size + 1, 1, none⟩ = some (.int .i64 0) := T1.out.cell 1 rfl
    have f1 := T1.out.fr 1
    have t2 : w1.cell? ⟨w.heap.size + 1, 2, none⟩ = some (.int .i64 0) := T1.out.cell 2 rfl
    have f2 := T1.out.fr 2
    have t3 : w1.cell? ⟨w.heap.size + 1, 3, none⟩ = some (.int .i64 0) := T1.out.cell 3 rfl
    have f3 := T1.out.fr 3
    have t4 : w1.cell? ⟨w.heap.size + 1, 4, none⟩ = some (.int .i64 0) := T1.out.cell 4 rfl
    have f4 := T1.out.fr 4
    have TX : Hid (Blk (((((w1.setCell ⟨w.heap.size + 1, 0, none⟩ (.int .i64 0)).setCell ⟨w.heap.size + 1, 1, none⟩ (.int .i64 0)).setCell ⟨w.heap.size + 1, 2, none⟩ (.int .i64 0)).setCell ⟨w.heap.size + 1, 3, none⟩ (.int .i64 0)).setCell ⟨w.heap.size + 1, 4, none⟩ (.int .i64 0)) (w.heap.size + 1) #[.int .i64 0, .int .i64 0, .int .i64 0, .int .i64 0, .int .i64 0] 37) := Lib.hid (Blk.setAt (Blk.setAt (Blk.setAt (Blk.setAt (Blk.setAt T1.out 0 _) 1 _) 2 _) 3 _) 4 _)
    have BX : Hid (Below w.heap.size w (((((w1.setCell ⟨w.heap.size + 1, 0, none⟩ (.int .i64 0)).setCell ⟨w.heap.size + 1, 1, none⟩ (.int .i64 0)).setCell ⟨w.heap.size + 1, 2, none⟩ (.int .i64 0)).setCell ⟨w.heap.size + 1, 3, none⟩ (.int .i64 0)).setCell ⟨w.heap.size + 1, 4, none⟩ (.int .i64 0))) := Lib.hid (((((((Alt.of_below (p := fun k => w.heap.size ≤ k) B1.out (fun k _ h => h)).setCell (q := ⟨w.heap.size + 1, 0, none⟩) (Nat.le_succ _) _).setCell (q := ⟨w.heap.size + 1, 1, none⟩) (Nat.le_succ _) _).setCell (q := ⟨w.heap.size + 1, 2, none⟩) (Nat.le_succ _) _).setCell (q := ⟨w.heap.size + 1, 3, none⟩) (Nat.le_succ _) _).setCell (q := ⟨w.heap.size + 1, 4, none⟩) (Nat.le_succ _) _).below (Nat.le_refl _) fun _ h => h)
    clear hb R0 CR B0 T0
    go_wp2_with fail
    have tx := TX.out
    have bx := BX.out
    generalize World.setCell _ _ _ = X at tx bx ⊢
    have h0 := tx.cell 0 (show _ = some (Value.int .i64 0) from rfl)
    have h1 := tx.cell 1 (show _ = some (Value.int .i64 0) from rfl)
    have h2 := tx.cell 2 (show _ = some (Value.int .i64 0) from rfl)
    have h3 := tx.cell 3 (show _ = some (Value.int .i64 0) from rfl)
    have h4 := tx.cell 4 (show _ = some (Value.int .i64 0) from rfl)
    clear tx
    refine bodyPost_ret (v := .tuple #[.agg #[.int .i64 0, .int .i64 0, .int .i64 0, .int .i64 0, .int .i64 0], .int .i64 E]) (by simp [results, Tryd.results21, go_sem, h0, h1, h2, h3, h4]) rfl ⟨rfl, bx⟩

end Go.Proofs.YtaloffdkadhhnaaDoor

namespace Go.Proofs.YtaloffdkadhhnaaDoor
open Go.RowKit

theorem setN_nil : setN [] = 0 := rfl
theorem size_setN {r : Rk} {xs : List Int} (h : hasL r xs = true) : sizeN (setN xs) = xs.length := by
  obtain ⟨h1, h2⟩ := hasL_out h
  have hp := (@pinsN_bd r).2
  unfold sizeN
  rw [els_setN h1 (fun x hx => ⟨(h2 x hx).1, by have := (h2 x hx).2; omega⟩)]
theorem size_zero {N : Nat} (h : N = 0) : sizeN N = 0 := by subst h; unfold sizeN; rw [els_zero]; rfl
theorem kind_none {r : Rk} {N : Nat} : kindN r N = 0 ↔ N = 0 := by
  unfold kindN
  constructor
  · intro h
    split at h
    · assumption
    · split at h
      · cases h
      · split at h
        · cases h
        · split at h <;> cases h
  · intro h; rw [if_pos h]
theorem kind_one {r : Rk} {N : Nat} : kindN r N = 1 ↔ sizeN N = 1 := by
  unfold kindN
  by_cases h0 : N = 0
  · rw [if_pos h0, size_zero h0]; simp
  · rw [if_neg h0]
    by_cases h1 : sizeN N = 1
    · rw [if_pos h1]; simp [h1]
    · rw [if_neg h1]
      constructor
      · intro h
        split at h
        · cases h
        · split at h <;> cases h
      · intro h; exact absurd h h1

/-- The kind of a leave, by how many pins it has. -/
theorem knd_len0 {r : Rk} {xs : List Int} (hc : chkE r xs = 0) (h : xs.length = 0) : kndN r xs = 0 := by
  have : xs = [] := List.eq_nil_of_length_eq_zero h
  subst this
  unfold kndN; rw [if_pos hc]; exact kind_none.2 rfl
theorem knd_len1 {r : Rk} {xs : List Int} (hc : chkE r xs = 0) (h : xs.length = 1) : kndN r xs = 1 := by
  unfold kndN; rw [if_pos hc]; exact kind_one.2 (by rw [size_setN (chk_ok hc).2, h])
theorem knd_more {r : Rk} {x : Int} {ys : List Int} (hc : chkE r (x :: ys) = 0) (h : 2 ≤ (x :: ys).length) : kndN r (x :: ys) = 2 ∨ (kndN r (x :: ys) = 3 ∧ x ≠ 0) ∨ (kndN r (x :: ys) = 4 ∧ x = 0) := by
  have hs := size_setN (chk_ok hc).2
  obtain ⟨h1, h2⟩ := hasL_out (chk_ok hc).2
  have hp := (@pinsN_bd r).2
  have hb : (setN (x :: ys)).testBit 0 = true ↔ x = 0 := by
    have e := setN_has (xs := x :: ys) (fun y hy => ⟨(h2 y hy).1, by have := (h2 y hy).2; omega⟩) (x := 0) (Int.le_refl _)
    rw [show (0 : Int).toNat = 0 from rfl] at e
    rw [e]
    constructor
    · intro h0
      rcases List.mem_cons.1 h0 with h0 | h0
      · exact h0.symm
      · have := (List.pairwise_cons.1 h1).1 0 h0
        have := (h2 x (by simp)).1
        omega
    · intro h0; simp [h0]
  unfold kndN
  rw [if_pos hc]
  unfold kindN
  have n0 : ¬ setN (x :: ys) = 0 := fun e => by rw [size_zero e] at hs; simp at hs
  rw [if_neg n0, if_neg (by omega)]
  split
  · exact .inl rfl
  · split
    · rename_i hb1; exact .inr (.inr ⟨rfl, hb.1 hb1⟩)
    · rename_i hb1; exact .inr (.inl ⟨rfl, fun e => hb1 (hb.2 e)⟩)

theorem cnt_sum (r : Rk) (n : Nat) : cntK r n 0 + cntK r n 1 + cntK r n 2 + cntK r n 3 + cntK r n 4 = n := by
  induction n with
  | zero => simp [cntK]
  | succ n ih =>
    obtain ⟨k, hk, e⟩ := kindN_lt r n
    simp only [cntK_succ, e]
    have : k = 0 ∨ k = 1 ∨ k = 2 ∨ k = 3 ∨ k = 4 := by omega
    rcases this with rfl | rfl | rfl | rfl | rfl <;> simp <;> omega

theorem ones_1024 : ((List.range 1024).filter fun lv => decide (sizeN lv = 1)).length = 10 := by decide +kernel
theorem ones_64 : ((List.range 64).filter fun lv => decide (sizeN lv = 1)).length = 6 := by decide +kernel
theorem ones_8 : ((List.range 8).filter fun lv => decide (sizeN lv = 1)).length = 3 := by decide +kernel
theorem ones_2 : ((List.range 2).filter fun lv => decide (sizeN lv = 1)).length = 1 := by decide +kernel
theorem nils (n : Nat) (h : 0 < n) : ((List.range n).filter fun lv => decide (lv = 0)).length = 1 := by
  obtain ⟨m, rfl⟩ : ∃ m, n = m + 1 := ⟨n - 1, by omega⟩
  rw [List.range_succ_eq_map, List.filter_cons]
  simp

theorem cnt_ones {r : Rk} (h1 : 1 ≤ r.rows) (h2 : r.rows ≤ 4) : (cntK r (2 ^ (pinsN r.rows).toNat) 1 : Int) = pinsN r.rows := by
  unfold cntK
  have e : (fun lv => decide (kindN r lv = ((1 : Nat) : Int))) = fun lv => decide (sizeN lv = 1) := by
    funext lv; exact decide_eq_decide.2 kind_one
  rw [e]
  have h : r.rows = 1 ∨ r.rows = 2 ∨ r.rows = 3 ∨ r.rows = 4 := by omega
  rcases h with h | h | h | h
  · rw [h]; exact congrArg Int.ofNat ones_2
  · rw [h]; exact congrArg Int.ofNat ones_8
  · rw [h]; exact congrArg Int.ofNat ones_64
  · rw [h]; exact congrArg Int.ofNat ones_1024
theorem cnt_none {r : Rk} : cntK r (2 ^ (pinsN r.rows).toNat) 0 = 1 := by
  unfold cntK
  have e : (fun lv => decide (kindN r lv = ((0 : Nat) : Int))) = fun lv => decide (lv = 0) := by
    funext lv; exact decide_eq_decide.2 kind_none
  rw [e]
  exact nils _ (Nat.two_pow_pos _)

end Go.Proofs.YtaloffdkadhhnaaDoor

namespace Go.Proofs.YtaloffdkadhhnaaDoor
open Go.RowKit

/-- The same rack, its links elsewhere. -/
abbrev Rk.at (r : Rk) (a : Option Addr) (c : Nat) : Rk := { r with la := a, lc := c }

theorem faultN_cp (r : Rk) (a : Option Addr) (c : Nat) : faultN (r.at a c) = faultN r := rfl
theorem hasL_cp (r : Rk) (a : Option Addr) (c : Nat) (xs : List Int) : hasL (r.at a c) xs = hasL r xs := rfl
theorem chkE_cp (r : Rk) (a : Option Addr) (c : Nat) (xs : List Int) : chkE (r.at a c) xs = chkE r xs := rfl
theorem nbrs_cp (r : Rk) (a : Option Addr) (c : Nat) (p : Int) : nbrs (r.at a c) p = nbrs r p := rfl
theorem reachF_cp (r : Rk) (a : Option Addr) (c : Nat) (lv : Nat) : ∀ (f : Nat) (p : Int) (R : Nat), reachF (r.at a c) lv f p R = reachF r lv f p R := by
  intro f
  induction f with
  | zero => intro p R; rfl
  | succ f ih =>
    intro p R
    rw [reachF_succ, reachF_succ, nbrs_cp]
    have e : stepR (r.at a c) lv f = stepR r lv f := by funext M q; unfold stepR; rw [ih]
    rw [e]
theorem pieceB_cp (r : Rk) (a : Option Addr) (c : Nat) (lv : Nat) : pieceB (r.at a c) lv = pieceB r lv := by unfold pieceB pieceN; rw [reachF_cp]
theorem kindN_cp (r : Rk) (a : Option Addr) (c : Nat) (lv : Nat) : kindN (r.at a c) lv = kindN r lv := by unfold kindN; rw [pieceB_cp]
theorem kndN_cp (r : Rk) (a : Option Addr) (c : Nat) (xs : List Int) : kndN (r.at a c) xs = kndN r xs := by unfold kndN; rw [chkE_cp, kindN_cp]
theorem cntK_cp (r : Rk) (a : Option Addr) (c : Nat) (n k : Nat) : cntK (r.at a c) n k = cntK r n k := by unfold cntK; simp only [kindN_cp]
theorem cenV_cp (r : Rk) (a : Option Addr) (c : Nat) : cenV (r.at a c) = cenV r := by unfold cenV cenA; rw [faultN_cp]; simp only [cntK_cp]

end Go.Proofs.YtaloffdkadhhnaaDoor

namespace Go.Proofs.YtaloffdkadhhnaaDoor
open Go.RowKit

/-- Where a statement over a rack stands: its argument's box, and all that lay before. -/
structure St (r : Rk) (w W : World) : Prop where
  bl : Below w.heap.size w W
  bK : Blk W w.heap.size (rCells r) 24
theorem St.start (r : Rk) (w : World) : St r w (w.alloc (.cells (rCells r) 24)) := ⟨below_al _ _, Blk.new _ _ _⟩
theorem St.go {r : Rk} {w W W' : World} (h : St r w W) (hb : Below W.heap.size W W') : St r w W' :=
  ⟨below_go h.bl hb, Blk.alt h.bK (Alt.of_below (p := fun k => W.heap.size ≤ k) hb (fun k _ e => e)) (by have := h.bK.lt; omega)⟩
theorem St.c {r : Rk} {w W : World} (h : St r w W) :
    W.cell? ⟨w.heap.size, 0, none⟩ = some (.int .i64 r.rows) ∧ W.cell? ⟨w.heap.size, 1, none⟩ = some (.int .i64 r.mid) ∧ W.cell? ⟨w.heap.size, 2, none⟩ = some (.int .i64 r.gap) ∧
    W.cell? ⟨w.heap.size, 3, none⟩ = some (.int .i64 r.reach) ∧ W.cell? ⟨w.heap.size, 4, none⟩ = some (.slice r.la r.ls.length r.lc) :=
  ⟨h.bK.cell 0 rfl, h.bK.cell 1 rfl, h.bK.cell 2 rfl, h.bK.cell 3 rfl, h.bK.cell 4 rfl⟩

/-- A list that the law has made anew. -/
def NewInts (xs : List Int) (w : World) (e : Ending) (w' : World) : Prop := ∃ a c, e = .returned (.slice a xs.length c) ∧ IntsAt w' a xs ∧ Below w.heap.size w w'
theorem lawints_any (xs : List Int) (a : Option Addr) (c : Nat) (w : World) (hs : IntsAt w a xs) (h0 : a = none → xs = [] ∧ c = 0) (hn : xs.length ≤ 1000) :
    Calls Tryd.prog 20 #[.slice a xs.length c] w (NewInts xs w) :=
  (lawlist_any xs a c w hs h0 hn).mono fun e w' ⟨v, he, ho, hb⟩ => by
    obtain ⟨a', c', rfl, hi⟩ := SlAt.own ho
    exact ⟨a', c', he, hi, hb⟩

end Go.Proofs.YtaloffdkadhhnaaDoor
