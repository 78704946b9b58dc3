/- The walk of RackKinds. -/
import Derived.Test.YtaloffdkadhhnaaDoorKf
set_option linter.unusedVariables false
set_option linter.unusedSimpArgs false
namespace Go.Proofs.YtaloffdkadhhnaaDoor
open Go.RowKit

attribute [local go_sem] Oper.semAt_some

/-- Where RackKinds stands while it counts: the program's census, and its own. -/
structure KW (r : Rk) (w : World) (gN gW N : Nat) (W : World) (i : Nat) : Prop where
  st : St r w W
  bN : Blk W gN (cenA r N) 37
  bW : Blk W gW (cenA r i) 37
  h1 : w.heap.size < gN
  h2 : gN < gW
theorem KW.go {r : Rk} {w W W' : World} {gN gW N i : Nat} (h : KW r w gN gW N W i) (hb : Below W.heap.size W W') : KW r w gN gW N W' i :=
  ⟨h.st.go hb, Blk.alt h.bN (Alt.of_below (p := fun k => W.heap.size ≤ k) hb (fun k _ e => e)) (by have := h.bN.lt; omega), Blk.alt h.bW (Alt.of_below (p := fun k => W.heap.size ≤ k) hb (fun k _ e => e)) (by have := h.bW.lt; omega), h.h1, h.h2⟩
theorem KW.set {r : Rk} {w W : World} {gN gW N i k : Nat} (h : KW r w gN gW N W i) (hk5 : k < 5) (hk : kindN r i = (k : Int)) : KW r w gN gW N (W.setCell ⟨gW, k, none⟩ (.int .i64 ((cntK r i k : Int) + 1))) (i + 1) := by
  have ha : Alt (fun j => j = gW) W (W.setCell ⟨gW, k, none⟩ (.int .i64 ((cntK r i k : Int) + 1))) := (Alt.refl (fun j => j = gW) W).setCell (q := ⟨gW, k, none⟩) rfl _
  have h1 := h.h1; have h2 := h.h2
  refine ⟨⟨?_, Blk.alt h.st.bK ha (by omega)⟩, Blk.alt h.bN ha (by omega), by rw [← cenA_set r i hk5 hk]; exact Blk.setAt h.bW k _, h1, h2⟩
  exact ((Alt.of_below (p := fun k => w.heap.size ≤ k) h.st.bl (fun k _ e => e)).trans (ha.mono fun k _ e => by omega)).below (Nat.le_refl _) fun k e => e
theorem shl64 {p : Nat} (h : p ≤ 15) : IntKind.i64.wrap (2 ^ p) = ((2 ^ p : Nat) : Int) := by
  have h2 : (2 : Nat) ^ p ≤ 2 ^ 15 := Nat.pow_le_pow_right (by omega) h
  have e : (2 : Int) ^ p = ((2 ^ p : Nat) : Int) := by rw [Int.natCast_pow]; rfl
  rw [e]
  clear e
  generalize (2 : Nat) ^ p = q at *
  exact IntWalk.i64_in _ (by omega)

/-- An array of five numbers is equal to itself. -/
theorem eq37 (a b c d e : Int) (w : World) : (Op.equalIn 10000 37 (.agg #[.int .i64 a, .int .i64 b, .int .i64 c, .int .i64 d, .int .i64 e]) (.agg #[.int .i64 a, .int .i64 b, .int .i64 c, .int .i64 d, .int .i64 e])).run Tryd.prog w = .ok true w := by
  have u3 := Tryd.underlying3
  have a3 := Tryd.isAgg3
  have z3 := Tryd.sizeOf3
  rw [show (10000 : Nat) = 9999 + 1 from rfl, Op.equalIn]
  simp only [Sem.run_bind, run_underlying Tryd.underlying37, Result.andThen_ok]
  simp only [Std.Legacy.Range.forIn_eq_forIn_range', Std.Legacy.Range.size, Nat.sub_zero, Nat.add_sub_cancel, Nat.div_one, List.range'_succ, List.range'_zero, List.forIn_cons, List.forIn_nil]
  go_simp
attribute [local go_sem] eq37

set_option maxRecDepth 100000 in
set_option maxHeartbeats 16000000 in
theorem rackKinds_any (r : Rk) (xs : List Int) (a : Option Addr) (c : Nat) (w : World) (hL : LinksAt w r.la r.ls) (hX : IntsAt w a xs) (h0 : a = none → xs = [] ∧ c = 0) (hcc : xs.length ≤ c) (hT : TabOK w) :
    Calls Tryd.prog 3 #[r.val, .slice a xs.length c] w fun e w' => e = .returned (.bool true) ∧ Below w.heap.size w w' := by
  have TH := Lib.hid (fun W => thin_any r a none xs.length c 0 0 W)
  have AW := Lib.hid (fun W (hb : Below w.heap.size w W) => awake_any W (hT.lo hb))
  have S0 := Lib.hid (St.start r w)
  unfold rCells at S0
  by_cases hthin : thinB r xs.length 0 = true
  · have hn16 : r.ls.length ≤ 16 := by unfold thinB at hthin; simp at hthin; exact hthin.1
    have hx15 : xs.length ≤ 15 := by unfold thinB at hthin; simp at hthin; exact hthin.2
    rw [hthin] at TH
    have RA := Lib.hid (fun W (hb : Below w.heap.size w W) => lawRack_any r W (hL.lo hb) (by omega))
    have LI := Lib.hid (fun W (hb : Below w.heap.size w W) => lawints_any xs a c W (hX.lo hb) h0 (by omega))
    have CK := Lib.hid (fun W a1 c1 (h1 : LinksAt W a1 r.ls) => checkRack_any (r.at a1 c1) W h1 (show r.ls.length ≤ 1000 by omega))
    have KI := Lib.hid (fun W a1 c1 a2 c2 (hb : Below w.heap.size w W) (h1 : LinksAt W a1 r.ls) (h2 : IntsAt W a2 xs) => Kind_any (r.at a1 c1) xs a2 c2 W h1 (show r.ls.length ≤ 1000 by omega) h2 (by omega) (hT.lo hb))
    have CE := Lib.hid (fun W a1 c1 (hb : Below w.heap.size w W) (h1 : LinksAt W a1 r.ls) => Census_any (r.at a1 c1) W h1 (show r.ls.length ≤ 1000 by omega) (hT.lo hb))
    have FA := Lib.hid (fun W (hb : Below w.heap.size w W) => lawFault_any r W (hL.lo hb) (by omega))
    have PI := Lib.hid (fun W (hb : Below w.heap.size w W) => pinned_any r xs a c W (hL.lo hb) (by omega) (hX.lo hb) (by omega))
    simp only [kndN_cp, chkE_cp, cenV_cp, faultN_cp] at KI CE CK
    by_cases hF : faultN r = 0
    · have hok := (faultN_ok hF).1
      have hcv : cenV r = .agg (cenA r (2 ^ (pinsN r.rows).toNat)) := by unfold cenV; rw [if_pos hF]
      obtain ⟨p, hp⟩ : ∃ p : Nat, (p : Int) = pinsN r.rows := ⟨(pinsN r.rows).toNat, by have := (@pinsN_bd r).1; omega⟩
      have hp10 : p ≤ 10 := by have := (@pinsN_bd r).2; omega
      have PN := Lib.hid (fun W => refPins_any r W hok.r1 hok.r2)
      rw [← hp] at PN
      rw [← hp, Int.toNat_natCast] at hcv
      have HN1 : 2 ^ p ≤ 1024 := by have := Nat.pow_le_pow_right (n := 2) (by omega) hp10; simpa using this
      have HEB := Lib.hid (fun lv (h : lv < 2 ^ p) => els_bound h)
      have HOF := Lib.hid (fun i W (h : i < 2 ^ p) => of_any r i W hok (by omega) (fun j hj => by
        have := HEB.out i h (j : Int) ((mem_els _ _).2 ⟨by omega, by have := bit_in (a := i) (by omega) hj; omega, by simpa using hj⟩)
        omega))
      have HKO := Lib.hid (fun i a c W (h : i < 2 ^ p) (hI : IntsAt W a (els i)) (hc : (els i).length ≤ c) => by
        have K := refKind_any r (els i) a c W hok (hasL_in (els_rise i) fun x hx => ⟨(els_bd hx).1, by have := HEB.out i h x hx; omega⟩) hI hc
        rw [setN_els (by omega)] at K
        exact K)
      have HKX := Lib.hid (fun (hE : chkE r xs = 0) W (hb : Below w.heap.size w W) => refKind_any r xs a c W hok (chk_ok hE).2 (hX.lo hb) hcc)
      have HKK := Lib.hid (show chkE r xs = 0 → kndN r xs = kindN r (setN xs) from fun h => by unfold kndN; rw [if_pos h])
      have HK0 := Lib.hid (show chkE r xs ≠ 0 → kndN r xs = 0 from fun h => by unfold kndN; rw [if_neg h])
      have SH := shl64 (p := p) (by omega)
      rw [hF, hcv] at CE
      rw [hF] at CK FA
      obtain ⟨N, hN⟩ : ∃ N, N = 2 ^ p := ⟨_, rfl⟩
      rw [← hN] at SH HN1 HOF HKO CE
      have HN := Lib.hid HN1
      have HCL := Lib.hid (fun i k => cntK_le r i k)
      unfold cenA at CE
      have hp0 : (0 : Int) ≤ (p : Int) := by omega
      have hp64 : (p : Int) < 64 := by omega
      clear hF hok hL hX h0 hT hthin hn16 hx15 hcv hp hN HEB hcc HN1 hp10
      unfold Rk.val at *
      unfold Rk.at at *
      simp only at KI CE CK
      go_enter Tryd.func3, Tryd.ntmps3
      go_wp2_with fail
      refine (TH.out _).mono ?_
      rintro e w1 ⟨rfl, hb⟩
      have S1 := Lib.hid (S0.out.go hb)
      obtain ⟨r0, r1, r2, r3, r4⟩ := S1.out.c
      clear hb S0
      go_wp2_with fail
      refine (RA.out _ S1.out.bl).mono ?_
      rintro e w2 ⟨a1, c1, rfl, hl1, hg1, hb⟩
      have S2 := Lib.hid (S1.out.go hb)
      have L2 := Lib.hid hl1
      clear hb S1 r0 r1 r2 r3 r4 hl1 hg1
      unfold Rk.val
      go_wp2_with fail
      refine (CK.out _ _ _ L2.out).mono ?_
      rintro e w3 ⟨rfl, hb⟩
      have S3 := Lib.hid (S2.out.go hb)
      clear hb S2 L2
      obtain ⟨r0, r1, r2, r3, r4⟩ := S3.out.c
      go_wp2_with fail
      refine (RA.out _ S3.out.bl).mono ?_
      rintro e w4 ⟨a1, c1, rfl, hl1, hg1, hb⟩
      have S4 := Lib.hid (S3.out.go hb)
      have L4 := Lib.hid hl1
      clear hb S3 r0 r1 r2 r3 r4 hl1 hg1
      unfold Rk.val
      go_wp2_with fail
      refine (LI.out _ S4.out.bl).mono ?_
      rintro e w5 ⟨a2, c2, rfl, hi2, hb⟩
      have S5 := Lib.hid (S4.out.go hb)
      have L5 := Lib.hid (L4.out.lo hb)
      have X5 := Lib.hid hi2
      clear hb S4 hi2 L4
      go_wp2_with fail
      refine (KI.out _ _ _ _ _ S5.out.bl L5.out X5.out).mono ?_
      rintro e w6 ⟨rfl, hb⟩
      have S6 := Lib.hid (S5.out.go hb)
      clear hb S5 L5 X5
      obtain ⟨r0, r1, r2, r3, r4⟩ := S6.out.c
      go_wp2_with fail
      refine (RA.out _ S6.out.bl).mono ?_
      rintro e w7 ⟨a3, c3, rfl, hl1, hg1, hb⟩
      have S7 := Lib.hid (S6.out.go hb)
      have L7 := Lib.hid hl1
      clear hb S6 r0 r1 r2 r3 r4 hl1 hg1
      unfold Rk.val
      go_wp2_with fail
      refine (CE.out _ _ _ S7.out.bl L7.out).mono ?_
      rintro e w8 ⟨rfl, hb⟩
      have S8 := Lib.hid (S7.out.go (hb.trans ((below_al w8 (.cells #[.int .i64 (cntK r N 0 : Nat), .int .i64 (cntK r N 1 : Nat), .int .i64 (cntK r N 2 : Nat), .int .i64 (cntK r N 3 : Nat), .int .i64 (cntK r N 4 : Nat)] 37)).mono hb.size)))
      have C8 := Lib.hid (Blk.new w8 #[.int .i64 (cntK r N 0 : Nat), .int .i64 (cntK r N 1 : Nat), .int .i64 (cntK r N 2 : Nat), .int .i64 (cntK r N 3 : Nat), .int .i64 (cntK r N 4 : Nat)] 37)
      have Z8 := Lib.hid (show w.heap.size < w8.heap.size by have := S7.out.bK.lt; have := hb.size; omega)
      clear hb S7 L7
      obtain ⟨r0, r1, r2, r3, r4⟩ := S8.out.c
      go_wp2_with fail
      refine (FA.out _ S8.out.bl).mono ?_
      rintro e w9 ⟨rfl, hb⟩
      have S9 := Lib.hid (S8.out.go hb)
      have C9 := Lib.hid (Blk.alt C8.out (Alt.of_below (p := fun _ => False) hb (fun k hk h => by omega)) id)
      clear hb S8 C8 r0 r1 r2 r3 r4
      clear KI RA LI CE CK FA
      go_upto_region 10 with fail
      have K0 := Lib.hid (show KW r w w8.heap.size w9.heap.size N (w9.alloc (.cells #[.int .i64 0, .int .i64 0, .int .i64 0, .int .i64 0, .int .i64 0] 37)) 0 from
        ⟨S9.out.go (below_al _ _), Blk.alt C9.out (Alt.of_below (p := fun k => w9.heap.size ≤ k) (below_al w9 _) (fun k _ e => e)) (by have := C9.out.lt; omega), Blk.new _ _ _, Z8.out, by have := C9.out.lt; exact this⟩)
      clear S9 C9 Z8
      generalize w8.heap.size = gN at *
      generalize hgW : w9.heap.size = gW at *
      go_wp2_with fail
      try rw [hgW]
      generalize World.alloc w9 _ = w10 at *
      clear hgW
      go_loopg [11] N (fun g s11 wx => ∃ (i : Nat), i ≤ N ∧ g = N - i ∧ s11 = .int .i64 (i : Int) ∧ Hid (KW r w gN gW N wx i))
      case atStart => exact ⟨0, by omega, by omega, rfl, K0⟩
      case round =>
        obtain ⟨i, hi, rfl, rfl, hK⟩ := hrel
        clear K0
        obtain ⟨r0, r1, r2, r3, r4⟩ := hK.out.st.c
        by_cases hlt : i < N
        · obtain ⟨k, hk5, hk⟩ := kindN_lt r i
          have OFi := Lib.hid (fun W => HOF.out i W hlt)
          have KOi0 := fun a c W => HKO.out i a c W hlt
          rw [hk] at KOi0
          have KOi := Lib.hid KOi0
          have HKi := Lib.hid hk
          have HA := Lib.hid (cenA_at r i hk5)
          have hcl := HCL.out i k
          have hN := HN.out
          have e2 : IntKind.i64.wrap ((cntK r i k : Int) + 1) = (cntK r i k : Int) + 1 := IntWalk.i64_in _ (by omega)
          have hk0 : (0 : Int) ≤ (k : Int) := by omega
          have hk1 : (k : Int) < 5 := by omega
          have hz : (i : Int) < (N : Int) := by omega
          have hiN : i ≤ 1024 := by omega
          clear KOi0 hk hcl hN HOF HKO
          go_wp2_with fail
          refine (PN.out _).mono ?_
          rintro e wA ⟨rfl, hb⟩
          have KA := Lib.hid ((hK.out.go hb).go (Below.drew (Below.refl _ _)))
          clear hb hK r0 r1 r2 r3 r4
          go_wp2_with fail
          refine wp_region_held_drew (S := (fun W => W.cell? ⟨w.heap.size, 0, none⟩ = some (.int .i64 r.rows) ∧ W.cell? ⟨w.heap.size, 1, none⟩ = some (.int .i64 r.mid) ∧ W.cell? ⟨w.heap.size, 2, none⟩ = some (.int .i64 r.gap) ∧ W.cell? ⟨w.heap.size, 3, none⟩ = some (.int .i64 r.reach) ∧ W.cell? ⟨w.heap.size, 4, none⟩ = some (.slice r.la r.ls.length r.lc))) (by kernel_rfl) ?_ (fun hHeld => ?_)
          · (try dsimp only) <;> (with_reducible first | exact KE.out.st.c | exact KC.out.st.c | exact KB.out.st.c | exact KA.out.st.c)
          refine wpAnyH_take (i := 0) (oi := { dst := some 69, op := Op.load 24 (Operand.tmp 2), type := 24, pos := "law.go:124", after := #[], guard := none }) (v := ?v_ki14_0) rfl (by kernel_rfl) (by kernel_rfl) (by kernel_rfl) (fun _ _ _ h => h) (Or.inl ⟨by rfl, ?y_ki14_0⟩) (by assumption) ?_
          case y_ki14_0 => intro w hSw; (try dsimp only at hSw); go_simp; with_reducible rfl
          try simp only [Act.put, List.setIfInBounds_toArray, List.set_cons_zero, List.set_cons_succ]
          refine wpAnyH_take (i := 1) (oi := { dst := some 70, op := Op.load 24 (Operand.tmp 2), type := 24, pos := "law.go:124", after := #[], guard := none }) (v := ?v_ki14_1) rfl (by kernel_rfl) (by kernel_rfl) (by kernel_rfl) (fun _ _ _ h => h) (Or.inl ⟨by rfl, ?y_ki14_1⟩) (by assumption) ?_
          case y_ki14_1 => intro w hSw; (try dsimp only at hSw); go_simp; with_reducible rfl
          try simp only [Act.put, List.setIfInBounds_toArray, List.set_cons_zero, List.set_cons_succ]
          refine wpAnyH_take (i := 2) (oi := { dst := some 71, op := Op.move (Operand.tmp 11), type := 3, pos := "law.go:124", after := #[], guard := none }) (v := ?v_ki14_2) rfl (by kernel_rfl) (by kernel_rfl) (by kernel_rfl) (fun _ _ _ h => h) (Or.inl ⟨by rfl, ?y_ki14_2⟩) (by assumption) ?_
          case y_ki14_2 => intro w hSw; (try dsimp only at hSw); go_simp; with_reducible rfl
          try simp only [Act.put, List.setIfInBounds_toArray, List.set_cons_zero, List.set_cons_succ]
          refine wpAnyH_ready (rs := [3]) (by kernel_rfl) (by simp) ?_
          refine AllReadyH.cons (o := { dst := some 72, op := Op.call { callee := Callee.value (Operand.func 25), args := #[Operand.tmp 70, Operand.tmp 71], argTypes := #[24, 3] }, type := 25, pos := "law.go:124", after := #[{ on := 1, ground := Ground.data }, { on := 2, ground := Ground.data }], guard := none }) rfl (fun K hK => ?_) ?_
          go_simp
          (first | (go_at_call 25; (with_reducible refine (OFi.out _).mono ?_); rintro e wB ⟨aO, cO, rfl, hI, hn, hc, hb⟩; have KB := Lib.hid (KA.out.go hb); have HIO := Lib.hid hI; have HCO := Lib.hid hc; clear hb hI hn hc) | (go_at_call 24; (with_reducible refine (KOi.out _ _ _ HIO.out HCO.out).mono ?_); rintro e wC ⟨rfl, hb⟩; have KC := Lib.hid (KB.out.go hb); have cc := KC.out.bW.cell k HA.out; have cf := KC.out.bW.fr k; have KE := Lib.hid (KC.out.set hk5 HKi.out); clear hb))
          go_wp2_with fail
          refine hK.out _ _ ?_ (fun hHeld => ?_)
          · (try dsimp only) <;> (with_reducible first | exact KE.out.st.c | exact KC.out.st.c | exact KB.out.st.c | exact KA.out.st.c)
          clear hK K
          try simp only [Act.put, List.setIfInBounds_toArray, List.set_cons_zero, List.set_cons_succ]
          refine wpAnyH_ready (rs := [4]) (by kernel_rfl) (by simp) ?_
          refine AllReadyH.cons (o := { dst := some 73, op := Op.call { callee := Callee.value (Operand.func 24), args := #[Operand.tmp 69, Operand.tmp 72], argTypes := #[24, 25] }, type := 5, pos := "law.go:124", after := #[{ on := 0, ground := Ground.data }, { on := 3, ground := Ground.data }, { on := 3, ground := Ground.chain }], guard := none }) rfl (fun K hK => ?_) ?_
          go_simp
          (first | (go_at_call 25; (with_reducible refine (OFi.out _).mono ?_); rintro e wB ⟨aO, cO, rfl, hI, hn, hc, hb⟩; have KB := Lib.hid (KA.out.go hb); have HIO := Lib.hid hI; have HCO := Lib.hid hc; clear hb hI hn hc) | (go_at_call 24; (with_reducible refine (KOi.out _ _ _ HIO.out HCO.out).mono ?_); rintro e wC ⟨rfl, hb⟩; have KC := Lib.hid (KB.out.go hb); have cc := KC.out.bW.cell k HA.out; have cf := KC.out.bW.fr k; have KE := Lib.hid (KC.out.set hk5 HKi.out); clear hb))
          go_wp2_with fail
          refine hK.out _ _ ?_ (fun hHeld => ?_)
          · (try dsimp only) <;> (with_reducible first | exact KE.out.st.c | exact KC.out.st.c | exact KB.out.st.c | exact KA.out.st.c)
          clear hK K
          try simp only [Act.put, List.setIfInBounds_toArray, List.set_cons_zero, List.set_cons_succ]
          refine wpAnyH_take (i := 5) (oi := { dst := some 74, op := Op.indexAddr 37 (Operand.tmp 10) (Operand.tmp 73), type := 0, pos := "law.go:124", after := #[{ on := 4, ground := Ground.data }], guard := none }) (v := ?v_ki14_3) rfl (by kernel_rfl) (by kernel_rfl) (by kernel_rfl) (fun _ _ _ h => h) (Or.inl ⟨by rfl, ?y_ki14_3⟩) (by assumption) ?_
          case y_ki14_3 => intro w hSw; (try dsimp only at hSw); go_simp; with_reducible rfl
          try simp only [Act.put, List.setIfInBounds_toArray, List.set_cons_zero, List.set_cons_succ]
          refine wpAnyH_ready (rs := [6]) (by kernel_rfl) (by simp) ?_
          refine AllReadyH.cons (o := { dst := some 75, op := Op.load 3 (Operand.tmp 74), type := 3, pos := "law.go:124", after := #[{ on := 5, ground := Ground.data }], guard := none }) rfl (fun K hK => ?_) ?_
          go_simp
          refine hK.out _ _ ?_ (fun hHeld => ?_)
          · (try dsimp only) <;> (with_reducible first | exact KE.out.st.c | exact KC.out.st.c | exact KB.out.st.c | exact KA.out.st.c)
          clear hK K
          try simp only [Act.put, List.setIfInBounds_toArray, List.set_cons_zero, List.set_cons_succ]
          refine wpAnyH_take (i := 7) (oi := { dst := some 76, op := Op.binOp BinOp.add 3 (Operand.tmp 75) (Operand.const (Value.int IntKind.i64 1)) 3, type := 3, pos := "law.go:124", after := #[{ on := 6, ground := Ground.data }], guard := none }) (v := ?v_ki14_4) rfl (by kernel_rfl) (by kernel_rfl) (by kernel_rfl) (fun _ _ _ h => h) (Or.inl ⟨by rfl, ?y_ki14_4⟩) (by assumption) ?_
          case y_ki14_4 => intro w hSw; (try dsimp only at hSw); go_simp; with_reducible rfl
          try simp only [Act.put, List.setIfInBounds_toArray, List.set_cons_zero, List.set_cons_succ]
          refine wpAnyH_take (i := 8) (oi := { dst := some 77, op := Op.indexAddr 37 (Operand.tmp 10) (Operand.tmp 73), type := 0, pos := "law.go:124", after := #[{ on := 4, ground := Ground.data }, { on := 0, ground := Ground.phase }, { on := 1, ground := Ground.phase }, { on := 2, ground := Ground.phase }, { on := 3, ground := Ground.phase }, { on := 4, ground := Ground.phase }, { on := 5, ground := Ground.phase }, { on := 6, ground := Ground.phase }, { on := 7, ground := Ground.phase }], guard := none }) (v := ?v_ki14_5) rfl (by kernel_rfl) (by kernel_rfl) (by kernel_rfl) (fun _ _ _ h => h) (Or.inl ⟨by rfl, ?y_ki14_5⟩) (by assumption) ?_
          case y_ki14_5 => intro w hSw; (try dsimp only at hSw); go_simp; with_reducible rfl
          try simp only [Act.put, List.setIfInBounds_toArray, List.set_cons_zero, List.set_cons_succ]
          refine wpAnyH_ready (rs := [9]) (by kernel_rfl) (by simp) ?_
          refine AllReadyH.cons (o := { dst := none, op := Op.store 3 (Operand.tmp 77) (Operand.tmp 76), type := 0, pos := "law.go:124", after := #[{ on := 8, ground := Ground.data }, { on := 7, ground := Ground.data }, { on := 4, ground := Ground.chain }, { on := 0, ground := Ground.phase }, { on := 1, ground := Ground.phase }, { on := 2, ground := Ground.phase }, { on := 3, ground := Ground.phase }, { on := 4, ground := Ground.phase }, { on := 5, ground := Ground.phase }, { on := 6, ground := Ground.phase }, { on := 7, ground := Ground.phase }], guard := none }) rfl (fun K hK => ?_) ?_
          go_simp
          refine hK.out _ _ ?_ (fun hHeld => ?_)
          · (try dsimp only) <;> (with_reducible first | exact KE.out.st.c | exact KC.out.st.c | exact KB.out.st.c | exact KA.out.st.c)
          clear hK K
          try simp only [Act.put, List.setIfInBounds_toArray, List.set_cons_zero, List.set_cons_succ]
          refine wpAnyH_done (by kernel_rfl) ?_ _
          rotate_left 1
          exact AllReadyH.nil
          exact AllReadyH.nil
          exact AllReadyH.nil
          exact AllReadyH.nil
          all_goals
            have K2 := Lib.hid (KE.out.go (Below.drew (Below.refl _ _)))
            clear KA KB KC OFi KOi HIO HCO cc cf
            go_wp2_with fail
            go_roundg (N - (i + 1))
            case measure => omega
            case rel => exact ⟨i + 1, by omega, rfl, by simp, KE⟩
        · have hz : ¬ (i : Int) < (N : Int) := by omega
          obtain rfl : i = N := by omega
          clear HOF HKO HCL hlt
          go_wp2_with fail
          refine (PN.out _).mono ?_
          rintro e wA ⟨rfl, hb⟩
          have K1 := Lib.hid (hK.out.go hb)
          clear hb hK r0 r1 r2 r3 r4
          have n0 := K1.out.bN.cell 0 (cenA_at r i (k := 0) (by omega))
          have n1 := K1.out.bN.cell 1 (cenA_at r i (k := 1) (by omega))
          have n2 := K1.out.bN.cell 2 (cenA_at r i (k := 2) (by omega))
          have n3 := K1.out.bN.cell 3 (cenA_at r i (k := 3) (by omega))
          have n4 := K1.out.bN.cell 4 (cenA_at r i (k := 4) (by omega))
          have m0 := K1.out.bW.cell 0 (cenA_at r i (k := 0) (by omega))
          have m1 := K1.out.bW.cell 1 (cenA_at r i (k := 1) (by omega))
          have m2 := K1.out.bW.cell 2 (cenA_at r i (k := 2) (by omega))
          have m3 := K1.out.bW.cell 3 (cenA_at r i (k := 3) (by omega))
          have m4 := K1.out.bW.cell 4 (cenA_at r i (k := 4) (by omega))
          obtain ⟨r0, r1, r2, r3, r4⟩ := K1.out.st.c
          go_wp2_with fail
          refine (PI.out _ K1.out.st.bl).mono ?_
          rintro e wB ⟨rfl, hb⟩
          have S2 := Lib.hid (K1.out.st.go hb)
          clear hb K1 r0 r1 r2 r3 r4 n0 n1 n2 n3 n4 m0 m1 m2 m3 m4 PN SH
          obtain ⟨r0, r1, r2, r3, r4⟩ := S2.out.c
          by_cases hE : chkE r xs = 0
          · have KX := Lib.hid (HKX.out hE)
            have hKK := HKK.out hE
            rw [hE, hKK]
            clear HKX HKK HK0 hE hKK
            generalize kindN r (setN xs) = KN at *
            go_wp2_with fail
            refine (KX.out _ S2.out.bl).mono ?_
            rintro e wC ⟨rfl, hb⟩
            have S3 := Lib.hid (S2.out.go hb)
            clear hb S2 r0 r1 r2 r3 r4
            go_wp2_with fail
            refine (AW.out _ S3.out.bl).mono ?_
            rintro e wD ⟨rfl, hb⟩
            have S4 := Lib.hid (S3.out.go hb)
            clear hb S3
            go_wp2_with fail
            go_returns
            exact ⟨by first | done | rfl, S4.out.bl⟩
          · have hKK := HK0.out hE
            have hE' : (chkE r xs == 0) = false := by simpa using hE
            rw [hKK]
            clear HKX HKK HK0 hE hKK
            generalize chkE r xs = E at *
            go_wp2_with fail
            refine (AW.out _ S2.out.bl).mono ?_
            rintro e wD ⟨rfl, hb⟩
            have S4 := Lib.hid (S2.out.go hb)
            clear hb S2
            go_wp2_with fail
            go_returns
            exact ⟨by first | done | rfl, S4.out.bl⟩
    · have hcv : cenV r = .agg #[.int .i64 0, .int .i64 0, .int .i64 0, .int .i64 0, .int .i64 0] := by unfold cenV; rw [if_neg hF]
      have hck : chkE r xs = faultN r := by unfold chkE; rw [if_neg hF]
      have hkn : kndN r xs = 0 := by unfold kndN; rw [if_neg (by rw [hck]; exact hF)]
      have hF' : (faultN r == 0) = false := by simpa using hF
      rw [hcv] at CE
      rw [hck, hkn] at KI
      generalize faultN r = E at *
      clear hF hL hX h0 hT hthin hn16 hx15 hcv hcc PI hck hkn
      unfold Rk.val at *
      unfold Rk.at at *
      simp only at KI CE CK
      go_enter Tryd.func3, Tryd.ntmps3
      go_wp2_with fail
      refine (TH.out _).mono ?_
      rintro e w1 ⟨rfl, hb⟩
      have S1 := Lib.hid (S0.out.go hb)
      obtain ⟨r0, r1, r2, r3, r4⟩ := S1.out.c
      clear hb S0
      go_wp2_with fail
      refine (RA.out _ S1.out.bl).mono ?_
      rintro e w2 ⟨a1, c1, rfl, hl1, hg1, hb⟩
      have S2 := Lib.hid (S1.out.go hb)
      have L2 := Lib.hid hl1
      clear hb S1 r0 r1 r2 r3 r4 hl1 hg1
      unfold Rk.val
      go_wp2_with fail
      refine (CK.out _ _ _ L2.out).mono ?_
      rintro e w3 ⟨rfl, hb⟩
      have S3 := Lib.hid (S2.out.go hb)
      clear hb S2 L2
      obtain ⟨r0, r1, r2, r3, r4⟩ := S3.out.c
      go_wp2_with fail
      refine (RA.out _ S3.out.bl).mono ?_
      rintro e w4 ⟨a1, c1, rfl, hl1, hg1, hb⟩
      have S4 := Lib.hid (S3.out.go hb)
      have L4 := Lib.hid hl1
      clear hb S3 r0 r1 r2 r3 r4 hl1 hg1
      unfold Rk.val
      go_wp2_with fail
      refine (LI.out _ S4.out.bl).mono ?_
      rintro e w5 ⟨a2, c2, rfl, hi2, hb⟩
      have S5 := Lib.hid (S4.out.go hb)
      have L5 := Lib.hid (L4.out.lo hb)
      have X5 := Lib.hid hi2
      clear hb S4 hi2 L4
      go_wp2_with fail
      refine (KI.out _ _ _ _ _ S5.out.bl L5.out X5.out).mono ?_
      rintro e w6 ⟨rfl, hb⟩
      have S6 := Lib.hid (S5.out.go hb)
      clear hb S5 L5 X5
      obtain ⟨r0, r1, r2, r3, r4⟩ := S6.out.c
      go_wp2_with fail
      refine (RA.out _ S6.out.bl).mono ?_
      rintro e w7 ⟨a3, c3, rfl, hl1, hg1, hb⟩
      have S7 := Lib.hid (S6.out.go hb)
      have L7 := Lib.hid hl1
      clear hb S6 r0 r1 r2 r3 r4 hl1 hg1
      unfold Rk.val
      go_wp2_with fail
      refine (CE.out _ _ _ S7.out.bl L7.out).mono ?_
      rintro e w8 ⟨rfl, hb⟩
      have S8 := Lib.hid (S7.out.go (hb.trans ((below_al w8 (.cells #[.int .i64 0, .int .i64 0, .int .i64 0, .int .i64 0, .int .i64 0] 37)).mono hb.size)))
      have C8 := Lib.hid (Blk.new w8 #[.int .i64 0, .int .i64 0, .int .i64 0, .int .i64 0, .int .i64 0] 37)
      have Z8 := Lib.hid (show w.heap.size < w8.heap.size by have := S7.out.bK.lt; have := hb.size; omega)
      clear hb S7 L7
      obtain ⟨r0, r1, r2, r3, r4⟩ := S8.out.c
      go_wp2_with fail
      refine (FA.out _ S8.out.bl).mono ?_
      rintro e w9 ⟨rfl, hb⟩
      have S9 := Lib.hid (S8.out.go hb)
      have C9 := Lib.hid (Blk.alt C8.out (Alt.of_below (p := fun _ => False) hb (fun k hk h => by omega)) id)
      clear hb S8 C8 r0 r1 r2 r3 r4
      clear KI RA LI CE CK FA
      have q0 : w9.cell? ⟨w8.heap.size, 0, none⟩ = some (.int .i64 0) := C9.out.cell 0 rfl
      have q1 : w9.cell? ⟨w8.heap.size, 1, none⟩ = some (.int .i64 0) := C9.out.cell 1 rfl
      have q2 : w9.cell? ⟨w8.heap.size, 2, none⟩ = some (.int .i64 0) := C9.out.cell 2 rfl
      have q3 : w9.cell? ⟨w8.heap.size, 3, none⟩ = some (.int .i64 0) := C9.out.cell 3 rfl
      have q4 : w9.cell? ⟨w8.heap.size, 4, none⟩ = some (.int .i64 0) := C9.out.cell 4 rfl
      clear C9 Z8
      go_wp2_with fail
      refine (AW.out _ S9.out.bl).mono ?_
      rintro e wD ⟨rfl, hb⟩
      have S4 := Lib.hid (S9.out.go hb)
      clear hb S9 q0 q1 q2 q3 q4
      go_wp2_with fail
      go_returns
      exact ⟨by first | done | rfl, S4.out.bl⟩
  · rw [show thinB r xs.length 0 = false from by simpa using hthin] at TH
    clear hthin hL hX h0 hT hcc
    unfold Rk.val at *
    go_enter Tryd.func3, Tryd.ntmps3
    go_wp2_with fail
    refine (TH.out _).mono ?_
    rintro e w1 ⟨rfl, hb⟩
    have S1 := Lib.hid (S0.out.go hb)
    clear hb S0
    go_wp2_with fail
    refine (AW.out _ S1.out.bl).mono ?_
    rintro e w2 ⟨rfl, hb⟩
    have S2 := Lib.hid (S1.out.go hb)
    clear hb S1
    go_wp2_with fail
    go_returns
    exact ⟨by first | done | rfl, S2.out.bl⟩

end Go.Proofs.YtaloffdkadhhnaaDoor
