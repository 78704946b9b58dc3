/- The contract of the reference's Reached: the pins to which ways lead. -/
import Derived.Test.YtaloffdkadhhnaaDoorNb
set_option linter.unusedVariables false
set_option linter.unusedSimpArgs false
namespace Go.Proofs.YtaloffdkadhhnaaDoor
open Go.RowKit

attribute [local go_sem] Oper.semAt_some

def MidR (r : Rk) (xs zs zs1 : List Int) (ag : Bool) (i : Nat) : Prop := (ag = true ∧ zs.length < zs1.length) ∨ (ag = false ∧ zs1 = zs ∧ ∀ i' y, i' < i → xs[i']? = some y → ∀ z ∈ zs, nextB r y z = true → y ∈ zs)
def InR (r : Rk) (xs : List Int) (y : Int) (zs zs2 : List Int) (ag : Bool) (i k : Nat) : Prop :=
  (ag = true ∧ zs.length < zs2.length) ∨ (ag = false ∧ zs2 = zs ∧ (∀ i' y', i' < i → xs[i']? = some y' → ∀ z ∈ zs, nextB r y' z = true → y' ∈ zs) ∧ ∀ k' z, k' < k → zs[k']? = some z → nextB r y z = true → y ∈ zs)
theorem mid0 (r : Rk) (xs zs : List Int) : MidR r xs zs zs false 0 := .inr ⟨rfl, rfl, fun i' y h => by omega⟩
theorem mid_in {r : Rk} {xs zs zs1 : List Int} {ag : Bool} {i : Nat} (y : Int) (h : MidR r xs zs zs1 ag i) : InR r xs y zs zs1 ag i 0 := by
  rcases h with h | ⟨h1, h2, h3⟩
  · exact .inl h
  · exact .inr ⟨h1, h2, h3, fun k' z h => by omega⟩
theorem in_skip {r : Rk} {xs zs zs2 : List Int} {y z : Int} {ag : Bool} {i k : Nat} (h : InR r xs y zs zs2 ag i k) (hz : zs2[k]? = some z) (hn : nextB r y z = true → y ∈ zs2) : InR r xs y zs zs2 ag i (k + 1) := by
  rcases h with h | ⟨h1, h2, h3, h4⟩
  · exact .inl h
  · subst h2
    refine .inr ⟨h1, rfl, h3, fun k' z' hk hz' => ?_⟩
    by_cases e : k' = k
    · subst e; rw [hz] at hz'; cases hz'; exact hn
    · exact h4 k' z' (by omega) hz'
theorem in_push {r : Rk} {xs zs zs2 : List Int} {y y' : Int} {ag : Bool} {i k : Nat} (k' : Nat) (h : InR r xs y zs zs2 ag i k) : InR r xs y zs (zs2 ++ [y']) true i k' := by
  refine .inl ⟨rfl, ?_⟩
  rw [List.length_append]
  rcases h with h | ⟨h1, h2, h3⟩
  · simp; omega
  · subst h2; simp
theorem in_mid {r : Rk} {xs zs zs2 : List Int} {y : Int} {ag : Bool} {i k : Nat} (h : InR r xs y zs zs2 ag i k) (hk : zs2.length ≤ k) (hy : xs[i]? = some y) : MidR r xs zs zs2 ag (i + 1) := by
  rcases h with h | ⟨h1, h2, h3, h4⟩
  · exact .inl h
  · subst h2
    refine .inr ⟨h1, rfl, fun i' y' hi hy' z hz hn => ?_⟩
    by_cases e : i' = i
    · subst e
      rw [hy] at hy'; cases hy'
      obtain ⟨q, hq, rfl⟩ := List.getElem_of_mem hz
      exact h4 q _ (by omega) (List.getElem?_eq_getElem hq) hn
    · exact h3 i' y' (by omega) hy' z hz hn
theorem mid_end {r : Rk} {xs zs zs1 : List Int} {ag : Bool} {i : Nat} (h : MidR r xs zs zs1 ag i) (hi : xs.length ≤ i) : (ag = true ∧ zs.length < zs1.length) ∨ (ag = false ∧ zs1 = zs ∧ RchC r xs zs1) := by
  rcases h with h | ⟨h1, h2, h3⟩
  · exact .inl h
  · refine .inr ⟨h1, h2, fun y hy z hz hn => ?_⟩
    subst h2
    obtain ⟨q, hq, rfl⟩ := List.getElem_of_mem hy
    exact h3 q _ (by omega) (List.getElem?_eq_getElem hq) z hz hn

set_option maxRecDepth 100000 in
set_option maxHeartbeats 8000000 in
theorem reached_any (r : Rk) (xs : List Int) (x : Int) (a : Option Addr) (c c2 : Nat) (w : World) (ok : r.Ok) (hl : hasL r xs = true) (hx : xs[0]? = some x) (hX : IntsAt w a xs) :
    Calls Tryd.prog 59 #[r.val, .slice a xs.length c, .slice a 1 c2] w fun e w' => ∃ zs a' c', e = .returned (.slice a' zs.length c') ∧ Rch r xs x zs ∧ RchC r xs zs ∧ Below w.heap.size w w' := by
  have hxm := List.mem_of_getElem? hx
  have HL := Lib.hid (hasL_out hl)
  have hxl : xs.length ≤ 16 := by
    have hp := (@pinsN_bd r).2
    have := els_setN HL.out.1 (fun y hy => ⟨(HL.out.2 y hy).1, by have := (HL.out.2 y hy).2; omega⟩)
    rw [← this]; exact els_len
  have HX := Lib.hid hX
  have S0 := Lib.hid (St.start r w)
  obtain ⟨i3, hi3, hy0, hy1, hy2⟩ := info_parts info3
  obtain ⟨g, o, rfl, k0⟩ := hX 0 x hx
  have HNB := Lib.hid (fun y z W (hy : y ∈ xs) (hz : z ∈ xs) => nbr2_any r y z W ok ⟨(HL.out.2 y hy).1, by have := (HL.out.2 y hy).2; have := (@pinsN_bd r).2; omega⟩ ⟨(HL.out.2 z hz).1, by have := (HL.out.2 z hz).2; have := (@pinsN_bd r).2; omega⟩)
  have R0 := Lib.hid (Rch.start (r := r) hxm)
  have hle1 : 1 ≤ xs.length := List.length_pos_of_mem hxm
  have HWB := Lib.hid (show w.heap.size < (w.alloc (.cells (rCells r) 24)).heap.size by simp)
  clear hl ok hX hxm HL
  unfold rCells at S0 HWB
  unfold Rk.val at *
  go_enter Tryd.func59, Tryd.ntmps59
  go_upto_region 1 with fail
  obtain ⟨w0, hw0⟩ : ∃ W, W = w.alloc (.cells #[.int .i64 r.rows, .int .i64 r.mid, .int .i64 r.gap, .int .i64 r.reach, .slice r.la r.ls.length r.lc] 24) := ⟨_, rfl⟩
  rw [← hw0] at S0 HWB ⊢
  clear hw0
  have EB : Blk (w0.alloc (.cells #[] 3)) w0.heap.size #[] 3 := Blk.new w0 #[] 3
  have OE : Hid ((w0.alloc (.cells #[] 3)).ownsRow w0.heap.size 3 1 (.slice (some ⟨w0.heap.size, 0, none⟩) 0 0) 0 []) := Lib.hid ⟨rfl, .inr ⟨w0.heap.size, 0, #[], rfl, Nat.le_refl _, EB, Nat.le_refl _, by unfold maxLen; omega, rfl, rfl⟩⟩
  have HNW : Hid (∀ j u, [Value.int .i64 x][j]? = some u → (w0.alloc (.cells #[] 3)).cell? ((⟨g, o, none⟩ : Addr).add j) = some u) := Lib.hid (by
    intro j u hj
    match j, hj with
    | 0, hj =>
      have e : (⟨g, o, none⟩ : Addr).add 0 = ⟨g, o, none⟩ := by unfold Addr.add; simp
      rw [e]
      cases hj
      exact cell_lo (below_go S0.out.bl (below_al w0 _)) k0
    | j + 1, hj => simp at hj)
  clear EB k0
  go_wp2_with (at_builtin; go_must (refine wpList_append_own_at _ rfl _ _ 25 rfl w0.heap.size 3 i3 (.int .i64 0) 1 8 Tryd.underlying25 hi3 hy0 hy1 hy2 rfl (by decide) _ _ _ rfl OE.out ⟨g, o, none⟩ 1 c2 [.int .i64 x] rfl (by simp) HNW.out (by simp [Value.oneCell']) (by unfold maxLen; omega) (by omega) (by simp) ?_); intro v1 w1 hown1 hgrow1 hnil1 hloc1; have O1 : Hid (OwnI w0 w1 v1 [x]) := Lib.hid ⟨hown1, (below_al w0 _).grown hgrow1 (by simp) (fun k e => by cases e; exact Nat.le_refl _)⟩; clear hown1 hgrow1 hnil1 hloc1)
  clear OE HNW
  go_loopg [7, 8, 9, 10] (2 * (xs.length - 1) + 1) (fun g' s7 s8 s9 s10 wx => ∃ (zs : List Int) (ag : Bool), g' = 2 * (xs.length - zs.length) + (if ag = true then 1 else 0) ∧ s8 = .bool ag ∧ Hid (OwnI w0 wx s7 zs) ∧ Hid (Rch r xs x zs) ∧ Hid (ag = false → RchC r xs zs))
  case atStart => exact ⟨[x], true, rfl, rfl, O1, R0, Lib.hid (fun h => by cases h)⟩
  case round =>
    obtain ⟨zs, ag, rfl, rfl, hO, hR, hC⟩ := hrel
    clear O1 R0
    cases ag
    · obtain ⟨a', c', rfl, hI, hN⟩ := hO.out.out
      have HC := Lib.hid (hC.out rfl)
      have HB := Lib.hid (S0.out.go hO.out.bl).bl
      clear hI hN hO hC
      go_wp2_with fail
      go_returns
      exact ⟨zs, a', c', rfl, hR.out, HC.out, HB.out⟩
    · clear hC
      have M0 := Lib.hid (mid0 r xs zs)
      go_wp2_with fail
      go_loopg [7, 8, 9, 10] xs.length (fun g' s7 s8 s9 s10 wx => ∃ (zs1 : List Int) (ag1 : Bool) (i : Nat), i ≤ xs.length ∧ g' = xs.length - i ∧ s9 = .int .i64 (i : Int) ∧ s8 = .bool ag1 ∧ Hid (OwnI w0 wx s7 zs1) ∧ Hid (Rch r xs x zs1) ∧ Hid (MidR r xs zs zs1 ag1 i))
      case atStart => exact ⟨zs, false, 0, by omega, by omega, rfl, rfl, hO, hR, M0⟩
      case round =>
        have HZ := Lib.hid (hR.out.len)
        clear M0 hO hR
        obtain ⟨zs1, ag1, i, hi, rfl, rfl, rfl, hO, hR, hM⟩ := hrel
        by_cases hlt : i < xs.length
        · obtain ⟨y, hy⟩ : ∃ y, xs[i]? = some y := ⟨xs[i]'hlt, List.getElem?_eq_getElem _⟩
          obtain ⟨g1, o1, e1, k1⟩ := HX.out _ _ hy
          have hyx := Lib.hid (List.mem_of_getElem? hy)
          have HY := Lib.hid hy
          have hz0 : (0 : Int) ≤ (i : Int) := by omega
          have hz1 : (i : Int) < (xs.length : Int) := by omega
          have I0 := Lib.hid (mid_in y hM.out)
          cases e1
          have K1 := Lib.hid k1
          clear hy k1 hM
          go_wp2_with fail
          go_loopg [7, 8, 10] 16 (fun g' s7 s8 s10 wx => ∃ (zs2 : List Int) (ag2 : Bool) (k : Nat), k ≤ zs2.length ∧ g' = 16 - k ∧ s10 = .int .i64 (k : Int) ∧ s8 = .bool ag2 ∧ Hid (OwnI w0 wx s7 zs2) ∧ Hid (Rch r xs x zs2) ∧ Hid (InR r xs y zs zs2 ag2 i k))
          case atStart => exact ⟨zs1, ag1, 0, by omega, by omega, rfl, rfl, hO, hR, I0⟩
          case round =>
            clear I0 hO hR
            obtain ⟨zs2, ag2, k, hk, rfl, rfl, rfl, hO, hR, hI⟩ := hrel
            have hl2 := hR.out.len
            obtain ⟨az, cz, rfl, hIz, hNz⟩ := hO.out.out
            by_cases hkt : k < zs2.length
            · obtain ⟨z, hz⟩ : ∃ z, zs2[k]? = some z := ⟨zs2[k]'hkt, List.getElem?_eq_getElem _⟩
              obtain ⟨gz, oz, rfl, kz⟩ := hIz _ _ hz
              have hzm := Lib.hid (List.mem_of_getElem? hz)
              have hy0' : (0 : Int) ≤ (k : Int) := by omega
              have hy1' : (k : Int) < (zs2.length : Int) := by omega
              have NBz := Lib.hid (fun W => HNB.out y z W hyx.out (hR.out.su z hzm.out))
              have HSz := Lib.hid (fun W (hb : Below wr.heap.size wr W) => has_any zs2 y (some ⟨gz, oz, none⟩) cz W (hIz.lo hb) (by omega))
              have HSK := Lib.hid (fun hn => in_skip hI.out hz hn)
              have HPU := Lib.hid (fun hn hno => hR.out.push hyx.out hzm.out hn hno)
              have HIP := Lib.hid (in_push (y' := y) (k + 1) hI.out)
              have HIN : Hid (hasI zs2 y = true ↔ y ∈ zs2) := Lib.hid hasI_iff
              have SA := Lib.hid ((S0.out.go hO.out.bl).go (Below.drew (Below.refl wr.heap.size wr)))
              have OA := Lib.hid (hO.out.lo (Below.drew (Below.refl wr.heap.size wr)))
              have QA : Hid (Below wr.heap.size wr wr.drew) := Lib.hid (Below.drew (Below.refl _ _))
              have KX : Hid (∀ W, Below wr.heap.size wr W → W.cell? ⟨g, o + i, none⟩ = some (.int .i64 y) ∧ W.cell? ⟨gz, oz + k, none⟩ = some (.int .i64 z)) := Lib.hid (fun W hb => ⟨cell_lo (below_go (below_go S0.out.bl hO.out.bl) hb) K1.out, cell_lo hb kz⟩)
              clear hz hIz hNz kz hI HZ
              cases hb1 : nextB r y z
              · have HI2 := Lib.hid (HSK.out (fun h => by rw [hb1] at h; cases h))
                rw [hb1] at NBz
                clear HSK HPU HIP HIN hb1 HSz
                go_wp2_with fail
                refine wp_region_held_drew (S := (fun W => (W.cell? ⟨w.heap.size, 0, none⟩ = some (.int .i64 r.rows) ∧ W.cell? ⟨w.heap.size, 1, none⟩ = some (.int .i64 r.mid) ∧ W.cell? ⟨w.heap.size, 2, none⟩ = some (.int .i64 r.gap) ∧ W.cell? ⟨w.heap.size, 3, none⟩ = some (.int .i64 r.reach) ∧ W.cell? ⟨w.heap.size, 4, none⟩ = some (.slice r.la r.ls.length r.lc)) ∧ W.cell? ⟨g, o + i, none⟩ = some (.int .i64 y) ∧ W.cell? ⟨gz, oz + k, none⟩ = some (.int .i64 z))) (by kernel_rfl) ?_ (fun hHeld => ?_)
                · (try dsimp only) <;> (with_reducible first | exact ⟨SB.out.c, KX.out _ QB.out⟩ | exact ⟨SA.out.c, KX.out _ QA.out⟩)
                refine wpAnyH_take (i := 0) (oi := { dst := some 27, op := Op.load 24 (Operand.tmp 3), type := 24, pos := "ref.go:102", after := #[], guard := none }) (v := ?v_rc11n_0) rfl (by kernel_rfl) (by kernel_rfl) (by kernel_rfl) (fun _ _ _ h => h) (Or.inl ⟨by rfl, ?y_rc11n_0⟩) (by assumption) ?_
                case y_rc11n_0 => intro w hSw; (try dsimp only at hSw); go_simp; with_reducible rfl
                try simp only [Act.put, List.setIfInBounds_toArray, List.set_cons_zero, List.set_cons_succ]
                refine wpAnyH_take (i := 1) (oi := { dst := some 28, op := Op.move (Operand.tmp 1), type := 25, pos := "ref.go:102", after := #[], guard := none }) (v := ?v_rc11n_1) rfl (by kernel_rfl) (by kernel_rfl) (by kernel_rfl) (fun _ _ _ h => h) (Or.inl ⟨by rfl, ?y_rc11n_1⟩) (by assumption) ?_
                case y_rc11n_1 => intro w hSw; (try dsimp only at hSw); go_simp; with_reducible rfl
                try simp only [Act.put, List.setIfInBounds_toArray, List.set_cons_zero, List.set_cons_succ]
                refine wpAnyH_take (i := 2) (oi := { dst := some 29, op := Op.move (Operand.tmp 9), type := 3, pos := "ref.go:102", after := #[], guard := none }) (v := ?v_rc11n_2) rfl (by kernel_rfl) (by kernel_rfl) (by kernel_rfl) (fun _ _ _ h => h) (Or.inl ⟨by rfl, ?y_rc11n_2⟩) (by assumption) ?_
                case y_rc11n_2 => intro w hSw; (try dsimp only at hSw); go_simp; with_reducible rfl
                try simp only [Act.put, List.setIfInBounds_toArray, List.set_cons_zero, List.set_cons_succ]
                refine wpAnyH_take (i := 3) (oi := { dst := some 30, op := Op.indexAddr 25 (Operand.tmp 28) (Operand.tmp 29), type := 0, pos := "ref.go:102", after := #[{ on := 1, ground := Ground.data }, { on := 2, ground := Ground.data }], guard := none }) (v := ?v_rc11n_3) rfl (by kernel_rfl) (by kernel_rfl) (by kernel_rfl) (fun _ _ _ h => h) (Or.inl ⟨by rfl, ?y_rc11n_3⟩) (by assumption) ?_
                case y_rc11n_3 => intro w hSw; (try dsimp only at hSw); go_simp; with_reducible rfl
                try simp only [Act.put, List.setIfInBounds_toArray, List.set_cons_zero, List.set_cons_succ]
                refine wpAnyH_take (i := 4) (oi := { dst := some 31, op := Op.load 3 (Operand.tmp 30), type := 3, pos := "ref.go:102", after := #[{ on := 3, ground := Ground.data }], guard := none }) (v := ?v_rc11n_4) rfl (by kernel_rfl) (by kernel_rfl) (by kernel_rfl) (fun _ _ _ h => h) (Or.inl ⟨by rfl, ?y_rc11n_4⟩) (by assumption) ?_
                case y_rc11n_4 => intro w hSw; (try dsimp only at hSw); go_simp; with_reducible rfl
                try simp only [Act.put, List.setIfInBounds_toArray, List.set_cons_zero, List.set_cons_succ]
                refine wpAnyH_take (i := 5) (oi := { dst := some 32, op := Op.move (Operand.tmp 7), type := 25, pos := "ref.go:102", after := #[], guard := none }) (v := ?v_rc11n_5) rfl (by kernel_rfl) (by kernel_rfl) (by kernel_rfl) (fun _ _ _ h => h) (Or.inl ⟨by rfl, ?y_rc11n_5⟩) (by assumption) ?_
                case y_rc11n_5 => intro w hSw; (try dsimp only at hSw); go_simp; with_reducible rfl
                try simp only [Act.put, List.setIfInBounds_toArray, List.set_cons_zero, List.set_cons_succ]
                refine wpAnyH_take (i := 6) (oi := { dst := some 33, op := Op.move (Operand.tmp 10), type := 3, pos := "ref.go:102", after := #[], guard := none }) (v := ?v_rc11n_6) rfl (by kernel_rfl) (by kernel_rfl) (by kernel_rfl) (fun _ _ _ h => h) (Or.inl ⟨by rfl, ?y_rc11n_6⟩) (by assumption) ?_
                case y_rc11n_6 => intro w hSw; (try dsimp only at hSw); go_simp; with_reducible rfl
                try simp only [Act.put, List.setIfInBounds_toArray, List.set_cons_zero, List.set_cons_succ]
                refine wpAnyH_take (i := 7) (oi := { dst := some 34, op := Op.indexAddr 25 (Operand.tmp 32) (Operand.tmp 33), type := 0, pos := "ref.go:102", after := #[{ on := 5, ground := Ground.data }, { on := 6, ground := Ground.data }], guard := none }) (v := ?v_rc11n_7) rfl (by kernel_rfl) (by kernel_rfl) (by kernel_rfl) (fun _ _ _ h => h) (Or.inl ⟨by rfl, ?y_rc11n_7⟩) (by assumption) ?_
                case y_rc11n_7 => intro w hSw; (try dsimp only at hSw); go_simp; with_reducible rfl
                try simp only [Act.put, List.setIfInBounds_toArray, List.set_cons_zero, List.set_cons_succ]
                refine wpAnyH_take (i := 8) (oi := { dst := some 35, op := Op.load 3 (Operand.tmp 34), type := 3, pos := "ref.go:102", after := #[{ on := 7, ground := Ground.data }], guard := none }) (v := ?v_rc11n_8) rfl (by kernel_rfl) (by kernel_rfl) (by kernel_rfl) (fun _ _ _ h => h) (Or.inl ⟨by rfl, ?y_rc11n_8⟩) (by assumption) ?_
                case y_rc11n_8 => intro w hSw; (try dsimp only at hSw); go_simp; with_reducible rfl
                try simp only [Act.put, List.setIfInBounds_toArray, List.set_cons_zero, List.set_cons_succ]
                refine wpAnyH_ready (rs := [9]) (by kernel_rfl) (by simp) ?_
                refine AllReadyH.cons (o := { dst := some 36, op := Op.call { callee := Callee.value (Operand.func 91), args := #[Operand.tmp 27, Operand.tmp 31, Operand.tmp 35], argTypes := #[24, 3, 3] }, type := 4, pos := "ref.go:102", after := #[{ on := 0, ground := Ground.data }, { on := 4, ground := Ground.data }, { on := 8, ground := Ground.data }], guard := none }) rfl (fun K hK => ?_) ?_
                go_simp
                (first | (go_at_call 91; (with_reducible refine (NBz.out _).mono ?_); rintro e wB ⟨rfl, hb⟩; have SB := Lib.hid (SA.out.go hb); have OB := Lib.hid (OA.out.lo hb); have QB := Lib.hid (below_go QA.out hb); clear hb))
                go_wp2_with fail
                refine hK.out _ _ ?_ (fun hHeld => ?_)
                · (try dsimp only) <;> (with_reducible first | exact ⟨SB.out.c, KX.out _ QB.out⟩ | exact ⟨SA.out.c, KX.out _ QA.out⟩)
                clear hK K
                try simp only [Act.put, List.setIfInBounds_toArray, List.set_cons_zero, List.set_cons_succ]
                refine wpAnyH_take (i := 10) (oi := { dst := some 37, op := Op.move (Operand.tmp 36), type := 4, pos := "ref.go:102", after := #[{ on := 9, ground := Ground.data }, { on := 9, ground := Ground.chain }], guard := none }) (v := ?v_rc11n_9) rfl (by kernel_rfl) (by kernel_rfl) (by kernel_rfl) (fun _ _ _ h => h) (Or.inl ⟨by rfl, ?y_rc11n_9⟩) (by assumption) ?_
                case y_rc11n_9 => intro w hSw; (try dsimp only at hSw); go_simp; with_reducible rfl
                try simp only [Act.put, List.setIfInBounds_toArray, List.set_cons_zero, List.set_cons_succ]
                refine wpAnyH_take (i := 11) (oi := { dst := some 38, op := Op.move (Operand.tmp 7), type := 25, pos := "ref.go:102", after := #[{ on := 10, ground := Ground.guard }], guard := some (10, true) }) (v := undef) rfl (by kernel_rfl) (by kernel_rfl) (by kernel_rfl) (fun _ _ _ h => h) (Or.inr ⟨by rfl, rfl⟩) (by assumption) ?_
                try simp only [Act.put, List.setIfInBounds_toArray, List.set_cons_zero, List.set_cons_succ]
                refine wpAnyH_take (i := 12) (oi := { dst := some 39, op := Op.move (Operand.tmp 1), type := 25, pos := "ref.go:102", after := #[{ on := 10, ground := Ground.guard }], guard := some (10, true) }) (v := undef) rfl (by kernel_rfl) (by kernel_rfl) (by kernel_rfl) (fun _ _ _ h => h) (Or.inr ⟨by rfl, rfl⟩) (by assumption) ?_
                try simp only [Act.put, List.setIfInBounds_toArray, List.set_cons_zero, List.set_cons_succ]
                refine wpAnyH_take (i := 13) (oi := { dst := some 40, op := Op.move (Operand.tmp 9), type := 3, pos := "ref.go:102", after := #[{ on := 10, ground := Ground.guard }], guard := some (10, true) }) (v := undef) rfl (by kernel_rfl) (by kernel_rfl) (by kernel_rfl) (fun _ _ _ h => h) (Or.inr ⟨by rfl, rfl⟩) (by assumption) ?_
                try simp only [Act.put, List.setIfInBounds_toArray, List.set_cons_zero, List.set_cons_succ]
                refine wpAnyH_take (i := 14) (oi := { dst := some 41, op := Op.indexAddr 25 (Operand.tmp 39) (Operand.tmp 40), type := 0, pos := "ref.go:102", after := #[{ on := 12, ground := Ground.data }, { on := 13, ground := Ground.data }, { on := 10, ground := Ground.guard }], guard := some (10, true) }) (v := undef) rfl (by kernel_rfl) (by kernel_rfl) (by kernel_rfl) (fun _ _ _ h => h) (Or.inr ⟨by rfl, rfl⟩) (by assumption) ?_
                try simp only [Act.put, List.setIfInBounds_toArray, List.set_cons_zero, List.set_cons_succ]
                refine wpAnyH_take (i := 15) (oi := { dst := some 42, op := Op.load 3 (Operand.tmp 41), type := 3, pos := "ref.go:102", after := #[{ on := 14, ground := Ground.data }, { on := 10, ground := Ground.guard }], guard := some (10, true) }) (v := undef) rfl (by kernel_rfl) (by kernel_rfl) (by kernel_rfl) (fun _ _ _ h => h) (Or.inr ⟨by rfl, rfl⟩) (by assumption) ?_
                try simp only [Act.put, List.setIfInBounds_toArray, List.set_cons_zero, List.set_cons_succ]
                refine wpAnyH_take (i := 16) (oi := { dst := some 43, op := Op.call { callee := Callee.value (Operand.func 39), args := #[Operand.tmp 38, Operand.tmp 42], argTypes := #[25, 3] }, type := 4, pos := "ref.go:102", after := #[{ on := 11, ground := Ground.data }, { on := 15, ground := Ground.data }, { on := 10, ground := Ground.chain }, { on := 10, ground := Ground.guard }], guard := some (10, true) }) (v := undef) rfl (by kernel_rfl) (by kernel_rfl) (by kernel_rfl) (fun _ _ _ h => h) (Or.inr ⟨by rfl, rfl⟩) (by assumption) ?_
                try simp only [Act.put, List.setIfInBounds_toArray, List.set_cons_zero, List.set_cons_succ]
                refine wpAnyH_take (i := 17) (oi := { dst := some 44, op := Op.unOp UnOp.not 4 (Operand.tmp 43), type := 4, pos := "ref.go:102", after := #[{ on := 16, ground := Ground.data }, { on := 10, ground := Ground.guard }], guard := some (10, true) }) (v := undef) rfl (by kernel_rfl) (by kernel_rfl) (by kernel_rfl) (fun _ _ _ h => h) (Or.inr ⟨by rfl, rfl⟩) (by assumption) ?_
                try simp only [Act.put, List.setIfInBounds_toArray, List.set_cons_zero, List.set_cons_succ]
                refine wpAnyH_take (i := 18) (oi := { dst := some 45, op := Op.pick (Operand.tmp 37) (Operand.tmp 44) (Operand.const (Value.bool false)), type := 4, pos := "ref.go:102", after := #[{ on := 10, ground := Ground.data }, { on := 17, ground := Ground.data }], guard := none }) (v := ?v_rc11n_10) rfl (by kernel_rfl) (by kernel_rfl) (by kernel_rfl) (fun _ _ _ h => h) (Or.inl ⟨by rfl, ?y_rc11n_10⟩) (by assumption) ?_
                case y_rc11n_10 => intro w hSw; (try dsimp only at hSw); go_simp; with_reducible rfl
                try simp only [Act.put, List.setIfInBounds_toArray, List.set_cons_zero, List.set_cons_succ]
                refine wpAnyH_done (by kernel_rfl) ?_ _
                rotate_left 1
                exact AllReadyH.nil
                clear SA OA QA SB QB KX NBz
                go_wp2_with fail
                go_roundg (16 - (k + 1))
                case measure => omega
                case rel => exact ⟨zs2, ag2, k + 1, by omega, rfl, by simp, rfl, OB, hR, HI2⟩
              · rw [hb1] at NBz
                cases hb2 : hasI zs2 y
                · have HR2 := Lib.hid (HPU.out hb1 (fun h => by rw [HIN.out.2 h] at hb2; cases hb2))
                  have HSy := Lib.hid (fun W (hb : Below wr.heap.size wr W) => by have h := HSz.out W hb; rw [hb2] at h; exact h)
                  clear HSK HPU HIN HSz hb1 hb2
                  go_wp2_with fail
                  refine wp_region_held_drew (S := (fun W => (W.cell? ⟨w.heap.size, 0, none⟩ = some (.int .i64 r.rows) ∧ W.cell? ⟨w.heap.size, 1, none⟩ = some (.int .i64 r.mid) ∧ W.cell? ⟨w.heap.size, 2, none⟩ = some (.int .i64 r.gap) ∧ W.cell? ⟨w.heap.size, 3, none⟩ = some (.int .i64 r.reach) ∧ W.cell? ⟨w.heap.size, 4, none⟩ = some (.slice r.la r.ls.length r.lc)) ∧ W.cell? ⟨g, o + i, none⟩ = some (.int .i64 y) ∧ W.cell? ⟨gz, oz + k, none⟩ = some (.int .i64 z))) (by kernel_rfl) ?_ (fun hHeld => ?_)
                  · (try dsimp only) <;> (with_reducible first | exact ⟨SB.out.c, KX.out _ QB.out⟩ | exact ⟨SA.out.c, KX.out _ QA.out⟩)
                  refine wpAnyH_take (i := 0) (oi := { dst := some 27, op := Op.load 24 (Operand.tmp 3), type := 24, pos := "ref.go:102", after := #[], guard := none }) (v := ?v_rc11p_11) rfl (by kernel_rfl) (by kernel_rfl) (by kernel_rfl) (fun _ _ _ h => h) (Or.inl ⟨by rfl, ?y_rc11p_11⟩) (by assumption) ?_
                  case y_rc11p_11 => intro w hSw; (try dsimp only at hSw); go_simp; with_reducible rfl
                  try simp only [Act.put, List.setIfInBounds_toArray, List.set_cons_zero, List.set_cons_succ]
                  refine wpAnyH_take (i := 1) (oi := { dst := some 28, op := Op.move (Operand.tmp 1), type := 25, pos := "ref.go:102", after := #[], guard := none }) (v := ?v_rc11p_12) rfl (by kernel_rfl) (by kernel_rfl) (by kernel_rfl) (fun _ _ _ h => h) (Or.inl ⟨by rfl, ?y_rc11p_12⟩) (by assumption) ?_
                  case y_rc11p_12 => intro w hSw; (try dsimp only at hSw); go_simp; with_reducible rfl
                  try simp only [Act.put, List.setIfInBounds_toArray, List.set_cons_zero, List.set_cons_succ]
                  refine wpAnyH_take (i := 2) (oi := { dst := some 29, op := Op.move (Operand.tmp 9), type := 3, pos := "ref.go:102", after := #[], guard := none }) (v := ?v_rc11p_13) rfl (by kernel_rfl) (by kernel_rfl) (by kernel_rfl) (fun _ _ _ h => h) (Or.inl ⟨by rfl, ?y_rc11p_13⟩) (by assumption) ?_
                  case y_rc11p_13 => intro w hSw; (try dsimp only at hSw); go_simp; with_reducible rfl
                  try simp only [Act.put, List.setIfInBounds_toArray, List.set_cons_zero, List.set_cons_succ]
                  refine wpAnyH_take (i := 3) (oi := { dst := some 30, op := Op.indexAddr 25 (Operand.tmp 28) (Operand.tmp 29), type := 0, pos := "ref.go:102", after := #[{ on := 1, ground := Ground.data }, { on := 2, ground := Ground.data }], guard := none }) (v := ?v_rc11p_14) rfl (by kernel_rfl) (by kernel_rfl) (by kernel_rfl) (fun _ _ _ h => h) (Or.inl ⟨by rfl, ?y_rc11p_14⟩) (by assumption) ?_
                  case y_rc11p_14 => intro w hSw; (try dsimp only at hSw); go_simp; with_reducible rfl
                  try simp only [Act.put, List.setIfInBounds_toArray, List.set_cons_zero, List.set_cons_succ]
                  refine wpAnyH_take (i := 4) (oi := { dst := some 31, op := Op.load 3 (Operand.tmp 30), type := 3, pos := "ref.go:102", after := #[{ on := 3, ground := Ground.data }], guard := none }) (v := ?v_rc11p_15) rfl (by kernel_rfl) (by kernel_rfl) (by kernel_rfl) (fun _ _ _ h => h) (Or.inl ⟨by rfl, ?y_rc11p_15⟩) (by assumption) ?_
                  case y_rc11p_15 => intro w hSw; (try dsimp only at hSw); go_simp; with_reducible rfl
                  try simp only [Act.put, List.setIfInBounds_toArray, List.set_cons_zero, List.set_cons_succ]
                  refine wpAnyH_take (i := 5) (oi := { dst := some 32, op := Op.move (Operand.tmp 7), type := 25, pos := "ref.go:102", after := #[], guard := none }) (v := ?v_rc11p_16) rfl (by kernel_rfl) (by kernel_rfl) (by kernel_rfl) (fun _ _ _ h => h) (Or.inl ⟨by rfl, ?y_rc11p_16⟩) (by assumption) ?_
                  case y_rc11p_16 => intro w hSw; (try dsimp only at hSw); go_simp; with_reducible rfl
                  try simp only [Act.put, List.setIfInBounds_toArray, List.set_cons_zero, List.set_cons_succ]
                  refine wpAnyH_take (i := 6) (oi := { dst := some 33, op := Op.move (Operand.tmp 10), type := 3, pos := "ref.go:102", after := #[], guard := none }) (v := ?v_rc11p_17) rfl (by kernel_rfl) (by kernel_rfl) (by kernel_rfl) (fun _ _ _ h => h) (Or.inl ⟨by rfl, ?y_rc11p_17⟩) (by assumption) ?_
                  case y_rc11p_17 => intro w hSw; (try dsimp only at hSw); go_simp; with_reducible rfl
                  try simp only [Act.put, List.setIfInBounds_toArray, List.set_cons_zero, List.set_cons_succ]
                  refine wpAnyH_take (i := 7) (oi := { dst := some 34, op := Op.indexAddr 25 (Operand.tmp 32) (Operand.tmp 33), type := 0, pos := "ref.go:102", after := #[{ on := 5, ground := Ground.data }, { on := 6, ground := Ground.data }], guard := none }) (v := ?v_rc11p_18) rfl (by kernel_rfl) (by kernel_rfl) (by kernel_rfl) (fun _ _ _ h => h) (Or.inl ⟨by rfl, ?y_rc11p_18⟩) (by assumption) ?_
                  case y_rc11p_18 => intro w hSw; (try dsimp only at hSw); go_simp; with_reducible rfl
                  try simp only [Act.put, List.setIfInBounds_toArray, List.set_cons_zero, List.set_cons_succ]
                  refine wpAnyH_take (i := 8) (oi := { dst := some 35, op := Op.load 3 (Operand.tmp 34), type := 3, pos := "ref.go:102", after := #[{ on := 7, ground := Ground.data }], guard := none }) (v := ?v_rc11p_19) rfl (by kernel_rfl) (by kernel_rfl) (by kernel_rfl) (fun _ _ _ h => h) (Or.inl ⟨by rfl, ?y_rc11p_19⟩) (by assumption) ?_
                  case y_rc11p_19 => intro w hSw; (try dsimp only at hSw); go_simp; with_reducible rfl
                  try simp only [Act.put, List.setIfInBounds_toArray, List.set_cons_zero, List.set_cons_succ]
                  refine wpAnyH_ready (rs := [9]) (by kernel_rfl) (by simp) ?_
                  refine AllReadyH.cons (o := { dst := some 36, op := Op.call { callee := Callee.value (Operand.func 91), args := #[Operand.tmp 27, Operand.tmp 31, Operand.tmp 35], argTypes := #[24, 3, 3] }, type := 4, pos := "ref.go:102", after := #[{ on := 0, ground := Ground.data }, { on := 4, ground := Ground.data }, { on := 8, ground := Ground.data }], guard := none }) rfl (fun K hK => ?_) ?_
                  go_simp
                  (first | (go_at_call 91; (with_reducible refine (NBz.out _).mono ?_); rintro e wB ⟨rfl, hb⟩; have SB := Lib.hid (SA.out.go hb); have OB := Lib.hid (OA.out.lo hb); have QB := Lib.hid (below_go QA.out hb); clear hb) | (go_at_call 39; (with_reducible refine (HSy.out _ QB.out).mono ?_); rintro e wC ⟨rfl, rfl⟩))
                  go_wp2_with fail
                  refine hK.out _ _ ?_ (fun hHeld => ?_)
                  · (try dsimp only) <;> (with_reducible first | exact ⟨SB.out.c, KX.out _ QB.out⟩ | exact ⟨SA.out.c, KX.out _ QA.out⟩)
                  clear hK K
                  try simp only [Act.put, List.setIfInBounds_toArray, List.set_cons_zero, List.set_cons_succ]
                  refine wpAnyH_take (i := 10) (oi := { dst := some 37, op := Op.move (Operand.tmp 36), type := 4, pos := "ref.go:102", after := #[{ on := 9, ground := Ground.data }, { on := 9, ground := Ground.chain }], guard := none }) (v := ?v_rc11p_20) rfl (by kernel_rfl) (by kernel_rfl) (by kernel_rfl) (fun _ _ _ h => h) (Or.inl ⟨by rfl, ?y_rc11p_20⟩) (by assumption) ?_
                  case y_rc11p_20 => intro w hSw; (try dsimp only at hSw); go_simp; with_reducible rfl
                  try simp only [Act.put, List.setIfInBounds_toArray, List.set_cons_zero, List.set_cons_succ]
                  refine wpAnyH_take (i := 11) (oi := { dst := some 38, op := Op.move (Operand.tmp 7), type := 25, pos := "ref.go:102", after := #[{ on := 10, ground := Ground.guard }], guard := some (10, true) }) (v := ?v_rc11p_21) rfl (by kernel_rfl) (by kernel_rfl) (by kernel_rfl) (fun _ _ _ h => h) (Or.inl ⟨by rfl, ?y_rc11p_21⟩) (by assumption) ?_
                  case y_rc11p_21 => intro w hSw; (try dsimp only at hSw); go_simp; with_reducible rfl
                  try simp only [Act.put, List.setIfInBounds_toArray, List.set_cons_zero, List.set_cons_succ]
                  refine wpAnyH_take (i := 12) (oi := { dst := some 39, op := Op.move (Operand.tmp 1), type := 25, pos := "ref.go:102", after := #[{ on := 10, ground := Ground.guard }], guard := some (10, true) }) (v := ?v_rc11p_22) rfl (by kernel_rfl) (by kernel_rfl) (by kernel_rfl) (fun _ _ _ h => h) (Or.inl ⟨by rfl, ?y_rc11p_22⟩) (by assumption) ?_
                  case y_rc11p_22 => intro w hSw; (try dsimp only at hSw); go_simp; with_reducible rfl
                  try simp only [Act.put, List.setIfInBounds_toArray, List.set_cons_zero, List.set_cons_succ]
                  refine wpAnyH_take (i := 13) (oi := { dst := some 40, op := Op.move (Operand.tmp 9), type := 3, pos := "ref.go:102", after := #[{ on := 10, ground := Ground.guard }], guard := some (10, true) }) (v := ?v_rc11p_23) rfl (by kernel_rfl) (by kernel_rfl) (by kernel_rfl) (fun _ _ _ h => h) (Or.inl ⟨by rfl, ?y_rc11p_23⟩) (by assumption) ?_
                  case y_rc11p_23 => intro w hSw; (try dsimp only at hSw); go_simp; with_reducible rfl
                  try simp only [Act.put, List.setIfInBounds_toArray, List.set_cons_zero, List.set_cons_succ]
                  refine wpAnyH_take (i := 14) (oi := { dst := some 41, op := Op.indexAddr 25 (Operand.tmp 39) (Operand.tmp 40), type := 0, pos := "ref.go:102", after := #[{ on := 12, ground := Ground.data }, { on := 13, ground := Ground.data }, { on := 10, ground := Ground.guard }], guard := some (10, true) }) (v := ?v_rc11p_24) rfl (by kernel_rfl) (by kernel_rfl) (by kernel_rfl) (fun _ _ _ h => h) (Or.inl ⟨by rfl, ?y_rc11p_24⟩) (by assumption) ?_
                  case y_rc11p_24 => intro w hSw; (try dsimp only at hSw); go_simp; with_reducible rfl
                  try simp only [Act.put, List.setIfInBounds_toArray, List.set_cons_zero, List.set_cons_succ]
                  refine wpAnyH_take (i := 15) (oi := { dst := some 42, op := Op.load 3 (Operand.tmp 41), type := 3, pos := "ref.go:102", after := #[{ on := 14, ground := Ground.data }, { on := 10, ground := Ground.guard }], guard := some (10, true) }) (v := ?v_rc11p_25) rfl (by kernel_rfl) (by kernel_rfl) (by kernel_rfl) (fun _ _ _ h => h) (Or.inl ⟨by rfl, ?y_rc11p_25⟩) (by assumption) ?_
                  case y_rc11p_25 => intro w hSw; (try dsimp only at hSw); go_simp; with_reducible rfl
                  try simp only [Act.put, List.setIfInBounds_toArray, List.set_cons_zero, List.set_cons_succ]
                  refine wpAnyH_ready (rs := [16]) (by kernel_rfl) (by simp) ?_
                  refine AllReadyH.cons (o := { dst := some 43, op := Op.call { callee := Callee.value (Operand.func 39), args := #[Operand.tmp 38, Operand.tmp 42], argTypes := #[25, 3] }, type := 4, pos := "ref.go:102", after := #[{ on := 11, ground := Ground.data }, { on := 15, ground := Ground.data }, { on := 10, ground := Ground.chain }, { on := 10, ground := Ground.guard }], guard := some (10, true) }) rfl (fun K hK => ?_) ?_
                  go_simp
                  (first | (go_at_call 91; (with_reducible refine (NBz.out _).mono ?_); rintro e wB ⟨rfl, hb⟩; have SB := Lib.hid (SA.out.go hb); have OB := Lib.hid (OA.out.lo hb); have QB := Lib.hid (below_go QA.out hb); clear hb) | (go_at_call 39; (with_reducible refine (HSy.out _ QB.out).mono ?_); rintro e wC ⟨rfl, rfl⟩))
                  go_wp2_with fail
                  refine hK.out _ _ ?_ (fun hHeld => ?_)
                  · (try dsimp only) <;> (with_reducible first | exact ⟨SB.out.c, KX.out _ QB.out⟩ | exact ⟨SA.out.c, KX.out _ QA.out⟩)
                  clear hK K
                  try simp only [Act.put, List.setIfInBounds_toArray, List.set_cons_zero, List.set_cons_succ]
                  refine wpAnyH_take (i := 17) (oi := { dst := some 44, op := Op.unOp UnOp.not 4 (Operand.tmp 43), type := 4, pos := "ref.go:102", after := #[{ on := 16, ground := Ground.data }, { on := 10, ground := Ground.guard }], guard := some (10, true) }) (v := ?v_rc11p_26) rfl (by kernel_rfl) (by kernel_rfl) (by kernel_rfl) (fun _ _ _ h => h) (Or.inl ⟨by rfl, ?y_rc11p_26⟩) (by assumption) ?_
                  case y_rc11p_26 => intro w hSw; (try dsimp only at hSw); go_simp; with_reducible rfl
                  try simp only [Act.put, List.setIfInBounds_toArray, List.set_cons_zero, List.set_cons_succ]
                  refine wpAnyH_take (i := 18) (oi := { dst := some 45, op := Op.pick (Operand.tmp 37) (Operand.tmp 44) (Operand.const (Value.bool false)), type := 4, pos := "ref.go:102", after := #[{ on := 10, ground := Ground.data }, { on := 17, ground := Ground.data }], guard := none }) (v := ?v_rc11p_27) rfl (by kernel_rfl) (by kernel_rfl) (by kernel_rfl) (fun _ _ _ h => h) (Or.inl ⟨by rfl, ?y_rc11p_27⟩) (by assumption) ?_
                  case y_rc11p_27 => intro w hSw; (try dsimp only at hSw); go_simp; with_reducible rfl
                  try simp only [Act.put, List.setIfInBounds_toArray, List.set_cons_zero, List.set_cons_succ]
                  refine wpAnyH_done (by kernel_rfl) ?_ _
                  rotate_left 1
                  exact AllReadyH.nil
                  exact AllReadyH.nil
                  have kxx := (KX.out _ QB.out).1
                  have HSZ := Lib.hid OB.out.bl.size
                  clear SA OA QA SB QB KX NBz HSy
                  go_wp2_with (at_builtin; go_must (refine wpList_append_lies _ rfl _ _ 25 rfl w0.heap.size 3 i3 (.int .i64 0) 1 8 Tryd.underlying25 hi3 hy0 hy1 hy2 rfl (by decide) _ zs2.length (zs2.map (Value.int .i64)) rfl (OB.out.ow.alloc _) ⟨wB.heap.size, 0, none⟩ 1 1 [.int .i64 y] rfl rfl (World.news_of_block (cs := #[.int .i64 y]) (t := 3) (fr := (0, 0)) (heap_alloc_new wB _)) (by simp [Value.oneCell']) (by omega) (by unfold maxLen; omega) (by omega) (by have := HSZ.out; simp; omega) (wB.heap.size + 1) (by simp) ?_); intro gA capA w1 hown hgrow hat hlt1; have OP := Lib.hid (OB.out.push hgrow hown); clear hown hgrow hat hlt1)
                  go_roundg (16 - (k + 1))
                  case measure => omega
                  case rel => exact ⟨zs2 ++ [y], true, k + 1, by simp; omega, rfl, by simp, rfl, OP, HR2, HIP⟩
                · have HI2 := Lib.hid (HSK.out (fun _ => HIN.out.1 hb2))
                  have HSy := Lib.hid (fun W (hb : Below wr.heap.size wr W) => by have h := HSz.out W hb; rw [hb2] at h; exact h)
                  clear HSK HPU HIP HIN HSz hb1 hb2
                  go_wp2_with fail
                  refine wp_region_held_drew (S := (fun W => (W.cell? ⟨w.heap.size, 0, none⟩ = some (.int .i64 r.rows) ∧ W.cell? ⟨w.heap.size, 1, none⟩ = some (.int .i64 r.mid) ∧ W.cell? ⟨w.heap.size, 2, none⟩ = some (.int .i64 r.gap) ∧ W.cell? ⟨w.heap.size, 3, none⟩ = some (.int .i64 r.reach) ∧ W.cell? ⟨w.heap.size, 4, none⟩ = some (.slice r.la r.ls.length r.lc)) ∧ W.cell? ⟨g, o + i, none⟩ = some (.int .i64 y) ∧ W.cell? ⟨gz, oz + k, none⟩ = some (.int .i64 z))) (by kernel_rfl) ?_ (fun hHeld => ?_)
                  · (try dsimp only) <;> (with_reducible first | exact ⟨SB.out.c, KX.out _ QB.out⟩ | exact ⟨SA.out.c, KX.out _ QA.out⟩)
                  refine wpAnyH_take (i := 0) (oi := { dst := some 27, op := Op.load 24 (Operand.tmp 3), type := 24, pos := "ref.go:102", after := #[], guard := none }) (v := ?v_rc11h_28) rfl (by kernel_rfl) (by kernel_rfl) (by kernel_rfl) (fun _ _ _ h => h) (Or.inl ⟨by rfl, ?y_rc11h_28⟩) (by assumption) ?_
                  case y_rc11h_28 => intro w hSw; (try dsimp only at hSw); go_simp; with_reducible rfl
                  try simp only [Act.put, List.setIfInBounds_toArray, List.set_cons_zero, List.set_cons_succ]
                  refine wpAnyH_take (i := 1) (oi := { dst := some 28, op := Op.move (Operand.tmp 1), type := 25, pos := "ref.go:102", after := #[], guard := none }) (v := ?v_rc11h_29) rfl (by kernel_rfl) (by kernel_rfl) (by kernel_rfl) (fun _ _ _ h => h) (Or.inl ⟨by rfl, ?y_rc11h_29⟩) (by assumption) ?_
                  case y_rc11h_29 => intro w hSw; (try dsimp only at hSw); go_simp; with_reducible rfl
                  try simp only [Act.put, List.setIfInBounds_toArray, List.set_cons_zero, List.set_cons_succ]
                  refine wpAnyH_take (i := 2) (oi := { dst := some 29, op := Op.move (Operand.tmp 9), type := 3, pos := "ref.go:102", after := #[], guard := none }) (v := ?v_rc11h_30) rfl (by kernel_rfl) (by kernel_rfl) (by kernel_rfl) (fun _ _ _ h => h) (Or.inl ⟨by rfl, ?y_rc11h_30⟩) (by assumption) ?_
                  case y_rc11h_30 => intro w hSw; (try dsimp only at hSw); go_simp; with_reducible rfl
                  try simp only [Act.put, List.setIfInBounds_toArray, List.set_cons_zero, List.set_cons_succ]
                  refine wpAnyH_take (i := 3) (oi := { dst := some 30, op := Op.indexAddr 25 (Operand.tmp 28) (Operand.tmp 29), type := 0, pos := "ref.go:102", after := #[{ on := 1, ground := Ground.data }, { on := 2, ground := Ground.data }], guard := none }) (v := ?v_rc11h_31) rfl (by kernel_rfl) (by kernel_rfl) (by kernel_rfl) (fun _ _ _ h => h) (Or.inl ⟨by rfl, ?y_rc11h_31⟩) (by assumption) ?_
                  case y_rc11h_31 => intro w hSw; (try dsimp only at hSw); go_simp; with_reducible rfl
                  try simp only [Act.put, List.setIfInBounds_toArray, List.set_cons_zero, List.set_cons_succ]
                  refine wpAnyH_take (i := 4) (oi := { dst := some 31, op := Op.load 3 (Operand.tmp 30), type := 3, pos := "ref.go:102", after := #[{ on := 3, ground := Ground.data }], guard := none }) (v := ?v_rc11h_32) rfl (by kernel_rfl) (by kernel_rfl) (by kernel_rfl) (fun _ _ _ h => h) (Or.inl ⟨by rfl, ?y_rc11h_32⟩) (by assumption) ?_
                  case y_rc11h_32 => intro w hSw; (try dsimp only at hSw); go_simp; with_reducible rfl
                  try simp only [Act.put, List.setIfInBounds_toArray, List.set_cons_zero, List.set_cons_succ]
                  refine wpAnyH_take (i := 5) (oi := { dst := some 32, op := Op.move (Operand.tmp 7), type := 25, pos := "ref.go:102", after := #[], guard := none }) (v := ?v_rc11h_33) rfl (by kernel_rfl) (by kernel_rfl) (by kernel_rfl) (fun _ _ _ h => h) (Or.inl ⟨by rfl, ?y_rc11h_33⟩) (by assumption) ?_
                  case y_rc11h_33 => intro w hSw; (try dsimp only at hSw); go_simp; with_reducible rfl
                  try simp only [Act.put, List.setIfInBounds_toArray, List.set_cons_zero, List.set_cons_succ]
                  refine wpAnyH_take (i := 6) (oi := { dst := some 33, op := Op.move (Operand.tmp 10), type := 3, pos := "ref.go:102", after := #[], guard := none }) (v := ?v_rc11h_34) rfl (by kernel_rfl) (by kernel_rfl) (by kernel_rfl) (fun _ _ _ h => h) (Or.inl ⟨by rfl, ?y_rc11h_34⟩) (by assumption) ?_
                  case y_rc11h_34 => intro w hSw; (try dsimp only at hSw); go_simp; with_reducible rfl
                  try simp only [Act.put, List.setIfInBounds_toArray, List.set_cons_zero, List.set_cons_succ]
                  refine wpAnyH_take (i := 7) (oi := { dst := some 34, op := Op.indexAddr 25 (Operand.tmp 32) (Operand.tmp 33), type := 0, pos := "ref.go:102", after := #[{ on := 5, ground := Ground.data }, { on := 6, ground := Ground.data }], guard := none }) (v := ?v_rc11h_35) rfl (by kernel_rfl) (by kernel_rfl) (by kernel_rfl) (fun _ _ _ h => h) (Or.inl ⟨by rfl, ?y_rc11h_35⟩) (by assumption) ?_
                  case y_rc11h_35 => intro w hSw; (try dsimp only at hSw); go_simp; with_reducible rfl
                  try simp only [Act.put, List.setIfInBounds_toArray, List.set_cons_zero, List.set_cons_succ]
                  refine wpAnyH_take (i := 8) (oi := { dst := some 35, op := Op.load 3 (Operand.tmp 34), type := 3, pos := "ref.go:102", after := #[{ on := 7, ground := Ground.data }], guard := none }) (v := ?v_rc11h_36) rfl (by kernel_rfl) (by kernel_rfl) (by kernel_rfl) (fun _ _ _ h => h) (Or.inl ⟨by rfl, ?y_rc11h_36⟩) (by assumption) ?_
                  case y_rc11h_36 => intro w hSw; (try dsimp only at hSw); go_simp; with_reducible rfl
                  try simp only [Act.put, List.setIfInBounds_toArray, List.set_cons_zero, List.set_cons_succ]
                  refine wpAnyH_ready (rs := [9]) (by kernel_rfl) (by simp) ?_
                  refine AllReadyH.cons (o := { dst := some 36, op := Op.call { callee := Callee.value (Operand.func 91), args := #[Operand.tmp 27, Operand.tmp 31, Operand.tmp 35], argTypes := #[24, 3, 3] }, type := 4, pos := "ref.go:102", after := #[{ on := 0, ground := Ground.data }, { on := 4, ground := Ground.data }, { on := 8, ground := Ground.data }], guard := none }) rfl (fun K hK => ?_) ?_
                  go_simp
                  (first | (go_at_call 91; (with_reducible refine (NBz.out _).mono ?_); rintro e wB ⟨rfl, hb⟩; have SB := Lib.hid (SA.out.go hb); have OB := Lib.hid (OA.out.lo hb); have QB := Lib.hid (below_go QA.out hb); clear hb) | (go_at_call 39; (with_reducible refine (HSy.out _ QB.out).mono ?_); rintro e wC ⟨rfl, rfl⟩))
                  go_wp2_with fail
                  refine hK.out _ _ ?_ (fun hHeld => ?_)
                  · (try dsimp only) <;> (with_reducible first | exact ⟨SB.out.c, KX.out _ QB.out⟩ | exact ⟨SA.out.c, KX.out _ QA.out⟩)
                  clear hK K
                  try simp only [Act.put, List.setIfInBounds_toArray, List.set_cons_zero, List.set_cons_succ]
                  refine wpAnyH_take (i := 10) (oi := { dst := some 37, op := Op.move (Operand.tmp 36), type := 4, pos := "ref.go:102", after := #[{ on := 9, ground := Ground.data }, { on := 9, ground := Ground.chain }], guard := none }) (v := ?v_rc11h_37) rfl (by kernel_rfl) (by kernel_rfl) (by kernel_rfl) (fun _ _ _ h => h) (Or.inl ⟨by rfl, ?y_rc11h_37⟩) (by assumption) ?_
                  case y_rc11h_37 => intro w hSw; (try dsimp only at hSw); go_simp; with_reducible rfl
                  try simp only [Act.put, List.setIfInBounds_toArray, List.set_cons_zero, List.set_cons_succ]
                  refine wpAnyH_take (i := 11) (oi := { dst := some 38, op := Op.move (Operand.tmp 7), type := 25, pos := "ref.go:102", after := #[{ on := 10, ground := Ground.guard }], guard := some (10, true) }) (v := ?v_rc11h_38) rfl (by kernel_rfl) (by kernel_rfl) (by kernel_rfl) (fun _ _ _ h => h) (Or.inl ⟨by rfl, ?y_rc11h_38⟩) (by assumption) ?_
                  case y_rc11h_38 => intro w hSw; (try dsimp only at hSw); go_simp; with_reducible rfl
                  try simp only [Act.put, List.setIfInBounds_toArray, List.set_cons_zero, List.set_cons_succ]
                  refine wpAnyH_take (i := 12) (oi := { dst := some 39, op := Op.move (Operand.tmp 1), type := 25, pos := "ref.go:102", after := #[{ on := 10, ground := Ground.guard }], guard := some (10, true) }) (v := ?v_rc11h_39) rfl (by kernel_rfl) (by kernel_rfl) (by kernel_rfl) (fun _ _ _ h => h) (Or.inl ⟨by rfl, ?y_rc11h_39⟩) (by assumption) ?_
                  case y_rc11h_39 => intro w hSw; (try dsimp only at hSw); go_simp; with_reducible rfl
                  try simp only [Act.put, List.setIfInBounds_toArray, List.set_cons_zero, List.set_cons_succ]
                  refine wpAnyH_take (i := 13) (oi := { dst := some 40, op := Op.move (Operand.tmp 9), type := 3, pos := "ref.go:102", after := #[{ on := 10, ground := Ground.guard }], guard := some (10, true) }) (v := ?v_rc11h_40) rfl (by kernel_rfl) (by kernel_rfl) (by kernel_rfl) (fun _ _ _ h => h) (Or.inl ⟨by rfl, ?y_rc11h_40⟩) (by assumption) ?_
                  case y_rc11h_40 => intro w hSw; (try dsimp only at hSw); go_simp; with_reducible rfl
                  try simp only [Act.put, List.setIfInBounds_toArray, List.set_cons_zero, List.set_cons_succ]
                  refine wpAnyH_take (i := 14) (oi := { dst := some 41, op := Op.indexAddr 25 (Operand.tmp 39) (Operand.tmp 40), type := 0, pos := "ref.go:102", after := #[{ on := 12, ground := Ground.data }, { on := 13, ground := Ground.data }, { on := 10, ground := Ground.guard }], guard := some (10, true) }) (v := ?v_rc11h_41) rfl (by kernel_rfl) (by kernel_rfl) (by kernel_rfl) (fun _ _ _ h => h) (Or.inl ⟨by rfl, ?y_rc11h_41⟩) (by assumption) ?_
                  case y_rc11h_41 => intro w hSw; (try dsimp only at hSw); go_simp; with_reducible rfl
                  try simp only [Act.put, List.setIfInBounds_toArray, List.set_cons_zero, List.set_cons_succ]
                  refine wpAnyH_take (i := 15) (oi := { dst := some 42, op := Op.load 3 (Operand.tmp 41), type := 3, pos := "ref.go:102", after := #[{ on := 14, ground := Ground.data }, { on := 10, ground := Ground.guard }], guard := some (10, true) }) (v := ?v_rc11h_42) rfl (by kernel_rfl) (by kernel_rfl) (by kernel_rfl) (fun _ _ _ h => h) (Or.inl ⟨by rfl, ?y_rc11h_42⟩) (by assumption) ?_
                  case y_rc11h_42 => intro w hSw; (try dsimp only at hSw); go_simp; with_reducible rfl
                  try simp only [Act.put, List.setIfInBounds_toArray, List.set_cons_zero, List.set_cons_succ]
                  refine wpAnyH_ready (rs := [16]) (by kernel_rfl) (by simp) ?_
                  refine AllReadyH.cons (o := { dst := some 43, op := Op.call { callee := Callee.value (Operand.func 39), args := #[Operand.tmp 38, Operand.tmp 42], argTypes := #[25, 3] }, type := 4, pos := "ref.go:102", after := #[{ on := 11, ground := Ground.data }, { on := 15, ground := Ground.data }, { on := 10, ground := Ground.chain }, { on := 10, ground := Ground.guard }], guard := some (10, true) }) rfl (fun K hK => ?_) ?_
                  go_simp
                  (first | (go_at_call 91; (with_reducible refine (NBz.out _).mono ?_); rintro e wB ⟨rfl, hb⟩; have SB := Lib.hid (SA.out.go hb); have OB := Lib.hid (OA.out.lo hb); have QB := Lib.hid (below_go QA.out hb); clear hb) | (go_at_call 39; (with_reducible refine (HSy.out _ QB.out).mono ?_); rintro e wC ⟨rfl, rfl⟩))
                  go_wp2_with fail
                  refine hK.out _ _ ?_ (fun hHeld => ?_)
                  · (try dsimp only) <;> (with_reducible first | exact ⟨SB.out.c, KX.out _ QB.out⟩ | exact ⟨SA.out.c, KX.out _ QA.out⟩)
                  clear hK K
                  try simp only [Act.put, List.setIfInBounds_toArray, List.set_cons_zero, List.set_cons_succ]
                  refine wpAnyH_take (i := 17) (oi := { dst := some 44, op := Op.unOp UnOp.not 4 (Operand.tmp 43), type := 4, pos := "ref.go:102", after := #[{ on := 16, ground := Ground.data }, { on := 10, ground := Ground.guard }], guard := some (10, true) }) (v := ?v_rc11h_43) rfl (by kernel_rfl) (by kernel_rfl) (by kernel_rfl) (fun _ _ _ h => h) (Or.inl ⟨by rfl, ?y_rc11h_43⟩) (by assumption) ?_
                  case y_rc11h_43 => intro w hSw; (try dsimp only at hSw); go_simp; with_reducible rfl
                  try simp only [Act.put, List.setIfInBounds_toArray, List.set_cons_zero, List.set_cons_succ]
                  refine wpAnyH_take (i := 18) (oi := { dst := some 45, op := Op.pick (Operand.tmp 37) (Operand.tmp 44) (Operand.const (Value.bool false)), type := 4, pos := "ref.go:102", after := #[{ on := 10, ground := Ground.data }, { on := 17, ground := Ground.data }], guard := none }) (v := ?v_rc11h_44) rfl (by kernel_rfl) (by kernel_rfl) (by kernel_rfl) (fun _ _ _ h => h) (Or.inl ⟨by rfl, ?y_rc11h_44⟩) (by assumption) ?_
                  case y_rc11h_44 => intro w hSw; (try dsimp only at hSw); go_simp; with_reducible rfl
                  try simp only [Act.put, List.setIfInBounds_toArray, List.set_cons_zero, List.set_cons_succ]
                  refine wpAnyH_done (by kernel_rfl) ?_ _
                  rotate_left 1
                  exact AllReadyH.nil
                  exact AllReadyH.nil
                  clear SA OA QA SB QB KX NBz HSy
                  go_wp2_with fail
                  go_roundg (16 - (k + 1))
                  case measure => omega
                  case rel => exact ⟨zs2, ag2, k + 1, by omega, rfl, by simp, rfl, OB, hR, HI2⟩
            · have hy1' : ¬ (k : Int) < (zs2.length : Int) := by omega
              have HM := Lib.hid (in_mid hI.out (by omega) HY.out)
              clear hIz hNz hI
              go_wp2_with fail
              go_roundg (xs.length - (i + 1))
              case measure => omega
              case rel => exact ⟨zs2, ag2, i + 1, by omega, rfl, by simp, rfl, hO, hR, HM⟩
        · have hz1 : ¬ (i : Int) < (xs.length : Int) := by omega
          have HE := mid_end hM.out (by omega)
          have hl1 := hR.out.len
          have HCC := Lib.hid (show ag1 = false → RchC r xs zs1 from fun h => by
            rcases HE with ⟨e, _⟩ | ⟨_, _, e⟩
            · rw [h] at e; cases e
            · exact e)
          have HMS : 2 * (xs.length - zs1.length) + (if ag1 = true then 1 else 0) < 2 * (xs.length - zs.length) + 1 := by
            rcases HE with ⟨e, h⟩ | ⟨e, h, _⟩
            · rw [if_pos e]; omega
            · subst h; rw [e]; simp
          have HMS := Lib.hid HMS
          clear HE hM hlt
          go_wp2_with fail
          go_roundg (2 * (xs.length - zs1.length) + (if ag1 = true then 1 else 0))
          case measure => have := HMS.out; first | exact this | (simp only [if_true]; exact this)
          case rel => exact ⟨zs1, ag1, rfl, rfl, hO, hR, HCC⟩

end Go.Proofs.YtaloffdkadhhnaaDoor
