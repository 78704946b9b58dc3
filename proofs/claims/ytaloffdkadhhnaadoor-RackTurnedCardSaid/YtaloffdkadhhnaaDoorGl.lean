/- The contracts of the law's word and Picked. An append whose run is known; truth values copied. More pins, more links, wider ranges: what falls then, in plain words of sets. -/
import Derived.Test.YtaloffdkadhhnaaDoorGk
set_option linter.unusedVariables false
set_option linter.unusedSimpArgs false

namespace Go.Proofs.YtaloffdkadhhnaaDoor
open Go.RowKit

attribute [local go_sem] Oper.semAt_some

/-- Words that lie in a slice. -/
structure WordsAt (w : World) (a : Option Addr) (ws : List Int) : Prop where
  at' : ∀ i v, ws[i]? = some v → ∃ g o, a = some ⟨g, o, none⟩ ∧ w.cell? ⟨g, o + i, none⟩ = some (.int .u16 v)
  bd : ∀ v ∈ ws, 0 ≤ v ∧ v < 65536
theorem WordsAt.lo {w W : World} {a : Option Addr} {xs : List Int} (h : WordsAt w a xs) (hb : Below w.heap.size w W) : WordsAt W a xs :=
  ⟨fun i v hv => by
    obtain ⟨g, o, e, h1⟩ := h.at' i v hv
    exact ⟨g, o, e, cell_lo hb h1⟩, h.bd⟩
def wordN (ws : List Int) (i : Nat) : Int := if ws.length = 0 then 0 else ws.getD (i % ws.length) 0
theorem wordN_bd {ws : List Int} (h : ∀ v ∈ ws, 0 ≤ v ∧ v < 65536) (i : Nat) : 0 ≤ wordN ws i ∧ wordN ws i < 65536 := by
  unfold wordN
  split
  · omega
  · rename_i h0
    have hlt : i % ws.length < ws.length := Nat.mod_lt _ (by omega)
    rw [getD_of (List.getElem?_eq_getElem hlt)]
    exact h _ (List.getElem_mem _)

set_option maxRecDepth 100000 in
set_option maxHeartbeats 2000000 in
theorem word_any (ws : List Int) (i : Nat) (a : Option Addr) (c : Nat) (w : World) (hW : WordsAt w a ws) (hl : (ws.length : Int) ≤ 9223372036854775807) (hi : i ≤ 1000) :
    Calls Tryd.prog 86 #[.slice a ws.length c, .int .i64 (i : Int)] w fun e w' => e = .returned (.int .i64 (wordN ws i)) ∧ w = w' := by
  by_cases h0 : ws.length = 0
  · have HV := Lib.hid (show wordN ws i = 0 by unfold wordN; rw [if_pos h0])
    have hz : ((ws.length : Int) == 0) = true := by simp [h0]
    clear h0 hW
    go_enter Tryd.func86, Tryd.ntmps86
    go_wp2_with fail
    go_returns
    exact ⟨by rw [HV.out]; first | done | rfl, rfl⟩
  · have hlt : i % ws.length < ws.length := Nat.mod_lt _ (by omega)
    have HV := Lib.hid (show wordN ws i = ws.getD (i % ws.length) 0 by unfold wordN; rw [if_neg h0])
    obtain ⟨x, hx⟩ : ∃ x, ws[i % ws.length]? = some x := ⟨ws[i % ws.length], List.getElem?_eq_getElem hlt⟩
    have HX := Lib.hid (show wordN ws i = x by rw [HV.out, getD_of hx])
    obtain ⟨g, o, rfl, k1⟩ := hW.at' _ _ hx
    have hb := hW.bd x (List.mem_of_getElem? hx)
    have hb1 := hb.1
    have hb2 := hb.2
    have hz : ((ws.length : Int) == 0) = false := beq_eq_false_iff_ne.2 (by omega)
    have hp : (1 : Int) ≤ (ws.length : Int) := by omega
    have hm0 : (0 : Int) ≤ (i : Int) % (ws.length : Int) := Int.emod_nonneg _ (by omega)
    have hm1 : (i : Int) % (ws.length : Int) < (ws.length : Int) := Int.emod_lt_of_pos _ (by omega)
    have hm2 : ((i : Int) % (ws.length : Int)).toNat = i % ws.length := by
      have : (i : Int) % (ws.length : Int) = ((i % ws.length : Nat) : Int) := by omega
      rw [this, Int.toNat_natCast]
    have ew : IntKind.i64.wrap x = x := IntWalk.i64_in _ (by omega)
    clear hb h0 hx hW HV hlt
    go_enter Tryd.func86, Tryd.ntmps86
    go_wp2_with fail
    go_returns
    exact ⟨by rw [HX.out]; first | done | rfl, rfl⟩

/-- The truth that words pick: boards, and what carries. -/
def pickBf (ball : List Rg) (ws : List Int) (i : Nat) : Int := (ball.getD i ⟨0, 0⟩).lo + wordN ws i % ((ball.getD i ⟨0, 0⟩).hi - (ball.getD i ⟨0, 0⟩).lo + 1)
def pickBs (ball : List Rg) (ws : List Int) (n : Nat) : List Int := (List.range n).map (pickBf ball ws)
theorem pickBs_succ (ball : List Rg) (ws : List Int) (n : Nat) : pickBs ball ws (n + 1) = pickBs ball ws n ++ [pickBf ball ws n] := by unfold pickBs; rw [List.range_succ, List.map_append]; rfl
theorem pickBs_len (ball : List Rg) (ws : List Int) (n : Nat) : (pickBs ball ws n).length = n := by unfold pickBs; simp
def pickCf (ls : List Lk) (ws : List Int) (i : Nat) : Bool := (ls.getD i ⟨0, 0, false⟩).sr || decide (wordN ws (i + 3) % 2 = 1)
def pickCs (ls : List Lk) (ws : List Int) (n : Nat) : List Bool := (List.range n).map (pickCf ls ws)
theorem pickCs_succ (ls : List Lk) (ws : List Int) (n : Nat) : pickCs ls ws (n + 1) = pickCs ls ws n ++ [pickCf ls ws n] := by unfold pickCs; rw [List.range_succ, List.map_append]; rfl
theorem pickCs_len (ls : List Lk) (ws : List Int) (n : Nat) : (pickCs ls ws n).length = n := by unfold pickCs; simp

theorem info4 : (Tryd.prog.info? 4).map (fun i => (i.zero, i.size, i.bytes)) = some (some (.bool false), 1, 1) := by kernel_rfl
/-- A list of truth values of the call's own, while it grows. -/
structure OwnB (w W : World) (v : Value) (zs : List Bool) : Prop where
  ow : W.ownsRow w.heap.size 4 1 v zs.length (zs.map Value.bool)
  bl : Below w.heap.size w W
theorem OwnB.nil (w : World) : OwnB w w (.slice none 0 0) [] := ⟨⟨rfl, .inl ⟨rfl, rfl⟩⟩, Below.refl _ _⟩
theorem OwnB.lo {w W W' : World} {v : Value} {zs : List Bool} (h : OwnB w W v zs) (hb : Below W.heap.size W W') : OwnB w W' v zs :=
  ⟨h.ow.kept (below_row hb) (by cases hk : v.ownBlock with | none => exact .inl rfl | some k => exact .inr (fun e => by cases e)), below_go h.bl hb⟩
theorem OwnB.push {w W W1 : World} {v v' : Value} {zs : List Bool} {x : Bool} {o : Obj} (h : OwnB w W v zs) (hg : (W.alloc o).grownBy W1 v.ownBlock)
    (ho : W1.ownsRow w.heap.size 4 1 v' (zs.length + 1) (zs.map Value.bool ++ [Value.bool x])) : OwnB w W1 v' (zs ++ [x]) :=
  ⟨by simpa using ho, (below_al2 h.bl o).grown hg (below_al2 h.bl o).size (fun k e => own_base h.ow e)⟩
theorem own_boolsAt {W : World} {base : Nat} {v : Value} {xs : List Bool} (h : W.ownsRow base 4 1 v xs.length (xs.map Value.bool)) : ∃ a c, v = .slice a xs.length c ∧ BoolsAt W a xs ∧ (a = none → xs = [] ∧ c = 0) := by
  obtain ⟨h1, h2⟩ := h
  rcases h2 with ⟨rfl, h0⟩ | ⟨g, cap, cur, e1, e2, e3, e4, e5, e6, e7⟩
  · have : xs = [] := List.eq_nil_of_length_eq_zero h0
    subst this
    exact ⟨none, 0, rfl, fun i v hv => by simp at hv, fun _ => ⟨rfl, rfl⟩⟩
  · refine ⟨some ⟨g, 0, none⟩, cap, e1, ?_, fun e => by cases e⟩
    intro i v hv
    refine ⟨g, 0, rfl, ?_⟩
    have hlt := (List.getElem?_eq_some_iff.1 hv).1
    have : cur.toList[i]? = some (.bool v) := by
      have e8 : (cur.toList.take (xs.length * 1))[i]? = some (Value.bool v) := by rw [e7, List.getElem?_map, hv]; rfl
      rw [List.getElem?_take] at e8
      split at e8
      · exact e8
      · cases e8
    simp only [World.cell?, e3, Nat.zero_add]
    simpa using this
theorem OwnI.push' {w W W1 : World} {v v' : Value} {zs : List Int} {x : Int} {o : Obj} (h : OwnI w W v zs) (hg : (W.alloc o).drew.grownBy W1 v.ownBlock)
    (ho : W1.ownsRow w.heap.size 3 1 v' (zs.length + 1) (zs.map (Value.int .i64) ++ [Value.int .i64 x])) : OwnI w W1 v' (zs ++ [x]) :=
  ⟨by simpa using ho, (show Below w.heap.size w (W.alloc o).drew from Below.drew (below_al2 h.bl o)).grown hg (below_al2 h.bl o).size (fun k e => own_base h.ow e)⟩

/-- What Picked returns. -/
def PickP (bs : List Int) (cs : List Bool) (w : World) (e : Ending) (w' : World) : Prop :=
  ∃ a1 c1 a2 c2, e = .returned (.tuple #[.slice a1 bs.length c1, .slice a2 cs.length c2]) ∧ IntsAt w' a1 bs ∧ (a1 = none → bs = [] ∧ c1 = 0) ∧ BoolsAt w' a2 cs ∧ (a2 = none → cs = [] ∧ c2 = 0) ∧ Below w.heap.size w w'

theorem rg_of {ball : List Rg} (h : ∀ b ∈ ball, wrongG b = false) {i : Nat} {b : Rg} (hb : ball[i]? = some b) : 0 ≤ b.lo ∧ b.lo ≤ b.hi ∧ b.hi ≤ 60 := by
  have := h b (List.mem_of_getElem? hb)
  unfold wrongG at this
  simp at this
  omega

set_option maxRecDepth 100000 in
set_option maxHeartbeats 8000000 in
theorem picked_any (r : Rk) (ball : List Rg) (a : Option Addr) (c : Nat) (ws : List Int) (a2 : Option Addr) (c2 : Nat) (w : World) (hL : LinksAt w r.la r.ls) (hn : r.ls.length ≤ 990) (hG : RgsAt w a ball) (hb : ball.length ≤ 1000) (hw : ∀ b ∈ ball, wrongG b = false)
    (hW : WordsAt w a2 ws) (hl : (ws.length : Int) ≤ 9223372036854775807) :
    Calls Tryd.prog 49 #[r.val, .slice a ball.length c, .slice a2 ws.length c2] w (PickP (pickBs ball ws ball.length) (pickCs r.ls ws r.ls.length) w) := by
  have HL := Lib.hid hL; have HG := Lib.hid hG
  have WD := Lib.hid (fun i W (hi : i ≤ 1000) (hb : Below w.heap.size w W) => word_any ws i a2 c2 W (hW.lo hb) hl hi)
  have WB := Lib.hid (wordN_bd hW.bd)
  have HRG := Lib.hid (fun i b (h : ball[i]? = some b) => rg_of hw h)
  have S0 := Lib.hid (St.start r w)
  have HP : Hid (∀ e w', (∃ a1 c1 a2 c2, e = .returned (.tuple #[.slice a1 (pickBs ball ws ball.length).length c1, .slice a2 (pickCs r.ls ws r.ls.length).length c2]) ∧ IntsAt w' a1 (pickBs ball ws ball.length) ∧ (a1 = none → (pickBs ball ws ball.length) = [] ∧ c1 = 0) ∧ BoolsAt w' a2 (pickCs r.ls ws r.ls.length) ∧ (a2 = none → (pickCs r.ls ws r.ls.length) = [] ∧ c2 = 0) ∧ Below w.heap.size w w') → PickP (pickBs ball ws ball.length) (pickCs r.ls ws r.ls.length) w e w') := Lib.hid (fun e w' h => h)
  generalize PickP (pickBs ball ws ball.length) (pickCs r.ls ws r.ls.length) w = Post at *
  obtain ⟨i3, hi3, hy0, hy1, hy2⟩ := info_parts info3
  obtain ⟨i4, hi4, hx0, hx1, hx2⟩ := info_parts info4
  unfold rCells at S0
  unfold Rk.val
  clear hL hG hw hW
  go_enter Tryd.func49, Tryd.ntmps49
  go_wp2_with fail
  generalize w.alloc _ = w1 at S0 ⊢
  have O0 := Lib.hid (OwnI.nil w1)
  go_loopg [8, 10] ball.length (fun g s8 s10 wx => ∃ (i : Nat) (v : Value), i ≤ ball.length ∧ g = ball.length - i ∧ s10 = .int .i64 (i : Int) ∧ s8 = v ∧ Hid (OwnI w1 wx v (pickBs ball ws i)))
  case atStart => exact ⟨0, _, by omega, by omega, rfl, rfl, O0⟩
  case round =>
    obtain ⟨i, v, hi, rfl, rfl, hv, hO⟩ := hrel
    have hv2 := hv.symm
    clear hv O0
    subst hv2
    by_cases hlt : i < ball.length
    · obtain ⟨b, hb2⟩ : ∃ b, ball[i]? = some b := ⟨ball[i]'hlt, List.getElem?_eq_getElem _⟩
      obtain ⟨g, o, rfl, k1, k2⟩ := HG.out _ _ hb2
      have hz0 : (0 : Int) ≤ (i : Int) := by omega
      have hz1 : (i : Int) < (ball.length : Int) := by omega
      have hbw : Below w.heap.size w wr := S0.out.bl.trans (hO.out.bl.mono S0.out.bl.size)
      have q1 : wr.cell? ⟨g, o + i * 2, none⟩ = some (.int .i64 b.lo) := cell_lo hbw k1
      have q2 : wr.cell? ⟨g, o + i * 2 + 1, none⟩ = some (.int .i64 b.hi) := cell_lo hbw k2
      have hg1 : g < w.heap.size := cell_lt k1
      have hs1 : w.heap.size < w1.heap.size := S0.out.bK.lt
      obtain ⟨hr1, hr2, hr3⟩ := HRG.out _ _ hb2
      have HN := Lib.hid (show pickBs ball ws (i + 1) = pickBs ball ws i ++ [b.lo + wordN ws i % (b.hi - b.lo + 1)] by rw [pickBs_succ]; unfold pickBf; rw [getD_of hb2])
      have HLn := Lib.hid (pickBs_len ball ws i)
      have hwb := WB.out i
      have WDi := Lib.hid (fun W hb => WD.out i W (by omega) hb)
      obtain ⟨lo, hi2⟩ := b
      simp only at *
      generalize wordN ws i = wd at *
      generalize pickBs ball ws i = zs at *
      have hmod0 : 0 ≤ wd % (hi2 - lo + 1) := Int.emod_nonneg _ (by omega)
      have hmod1 : wd % (hi2 - lo + 1) < hi2 - lo + 1 := Int.emod_lt_of_pos _ (by omega)
      have HSZ := Lib.hid hO.out.bl.size
      have HNC : Hid (2 * 1000 ≤ maxLen) := Lib.hid (by unfold maxLen; omega)
      have HAL := Lib.hid (show ∀ k, v.ownBlock = some k → w1.heap.size ≤ k from fun k e => own_base hO.out.ow e)
      have SP := Lib.hid (show ∀ W, Alt (fun k => w1.heap.size ≤ k) wr W → (W.cell? ⟨g, o + i * 2, none⟩ = some (.int .i64 lo) ∧ W.cell? ⟨g, o + i * 2 + 1, none⟩ = some (.int .i64 hi2)) from fun W hA =>
        ⟨alt_cell hA q1 (by omega), alt_cell hA q2 (by omega)⟩)
      have WDr := Lib.hid (WDi.out wr.drew (Below.drew hbw))
      have hnz : ((hi2 - lo + 1) == 0) = false := beq_eq_false_iff_ne.2 (by omega)
      have hnz2 : ¬ (hi2 - lo + 1 = 0) := by omega
      have et := Int.tmod_eq_emod_of_nonneg (a := wd) (b := hi2 - lo + 1) hwb.1
      have ew1 : IntKind.i64.wrap (hi2 - lo) = hi2 - lo := IntWalk.i64_in _ (by omega)
      have ew2 : IntKind.i64.wrap (hi2 - lo + 1) = hi2 - lo + 1 := IntWalk.i64_in _ (by omega)
      have ew4 : IntKind.i64.wrap (wd % (hi2 - lo + 1)) = wd % (hi2 - lo + 1) := IntWalk.i64_in _ (by omega)
      have ew3 : IntKind.i64.wrap (lo + wd % (hi2 - lo + 1)) = lo + wd % (hi2 - lo + 1) := IntWalk.i64_in _ (by omega)
      have HSZ2 := Lib.hid (show w1.heap.size ≤ wr.heap.size + 1 by have := HSZ.out; omega)
      have HL1 := Lib.hid (show zs.length ≤ 1000 by have := HLn.out; omega)
      have HL2 := Lib.hid (show zs.length + 1 ≤ maxLen by have := HL1.out; have := HNC.out; omega)
      have HL3 := Lib.hid (show (zs.length + 1) * 8 ≤ 140737488355328 by have := HL1.out; omega)
      clear hb2 k1 k2 hg1 hs1 hbw hwb
      go_wp2_with fail
      first
      | (go_region_held3 (fun W => W.cell? ⟨g, o + i * 2, none⟩ = some (.int .i64 lo) ∧ W.cell? ⟨g, o + i * 2 + 1, none⟩ = some (.int .i64 hi2))
          (with_reducible first | exact SP.out _ ((Alt.refl _ wr).drew) | exact SP.out _ (((Alt.refl _ wr).alloc _).drew) | exact SP.out _ ((((Alt.refl _ wr).alloc _).drew).grown hgrow HAL.out))
          (first
           | (go_at_call 86; (with_reducible refine WDr.out.mono ?_); rintro e w' ⟨rfl, rfl⟩)
           | ((with_reducible refine append_here ?_); go_must (refine step_append_lies _ (by rfl) _ _ _ (by rfl) w1.heap.size 3 i3 _ 1 8 Tryd.underlying25 hi3 hy0 hy1 hy2 rfl (by decide) v zs.length (zs.map (Value.int .i64)) (by rfl) ((hO.out.ow.alloc _).drew) ⟨wr.heap.size, 0, none⟩ 1 1 [.int .i64 (lo + wd % (hi2 - lo + 1))] (by rfl) (by rfl) (World.news_of_block (cs := #[.int .i64 (lo + wd % (hi2 - lo + 1))]) (t := 3) (fr := (0, 0)) (heap_alloc_new wr _)) (by simp [Value.oneCell']) (by decide) HL2.out HL3.out (by simpa using HSZ2.out) (wr.heap.size + 1) (by simp) ?_); intro gA capA wA hown1 hgrow hat hlt1)))
      | fail "region"
      have OP := Lib.hid (hO.out.push' hgrow hown1)
      clear hown1 hgrow hat hlt1 q1 q2 hO SP et ew1 ew2 ew3 ew4 hnz hnz2
      go_wp2_with fail
      go_roundg (ball.length - (i + 1))
      case measure => omega
      case rel => exact ⟨i + 1, _, by omega, rfl, by simp, rfl, by rw [HN.out]; exact OP⟩
    · have hz1 : ¬ (i : Int) < (ball.length : Int) := by omega
      obtain rfl : i = ball.length := by omega
      obtain ⟨aB, cB, rfl, hIB, hNB⟩ := hO.out.out
      have S2 := Lib.hid (S0.out.go hO.out.bl)
      have IB := Lib.hid hIB
      have NB := Lib.hid hNB
      have HLB := Lib.hid (pickBs_len ball ws ball.length)
      generalize pickBs ball ws ball.length = BS at *
      obtain ⟨w2, hw2⟩ : ∃ w2, w2 = wr := ⟨_, rfl⟩
      subst hw2
      have O2 := Lib.hid (OwnB.nil w2)
      clear hO hIB hNB hlt HRG HG S0
      go_wp2_with fail
      go_loopg [9, 11] r.ls.length (fun g s9 s11 wx => ∃ (j : Nat) (v : Value), j ≤ r.ls.length ∧ g = r.ls.length - j ∧ s11 = .int .i64 (j : Int) ∧ s9 = v ∧ Hid (OwnB w2 wx v (pickCs r.ls ws j)))
      case atStart => exact ⟨0, _, by omega, by omega, rfl, rfl, O2⟩
      case round =>
        obtain ⟨j, v, hj, rfl, rfl, hv, hO⟩ := hrel
        have hv2 := hv.symm
        clear hv O2
        subst hv2
        have S3 := Lib.hid (S2.out.go hO.out.bl)
        obtain ⟨r0, r1, r2, r3, r4⟩ := S3.out.c
        by_cases hlt : j < r.ls.length
        · have hz0 : (0 : Int) ≤ (j : Int) := by omega
          have hz2 : (j : Int) < (r.ls.length : Int) := by omega
          obtain ⟨l, hl2⟩ : ∃ l, r.ls[j]? = some l := ⟨r.ls[j]'hlt, List.getElem?_eq_getElem _⟩
          obtain ⟨g, o, hla, k1, k2, k3⟩ := HL.out _ _ hl2
          have q3 : wr.cell? ⟨g, o + j * 3 + 2, none⟩ = some (.bool l.sr) := cell_lo S3.out.bl k3
          rw [hla] at r4
          have HN := Lib.hid (show pickCs r.ls ws (j + 1) = pickCs r.ls ws j ++ [l.sr || decide (wordN ws (j + 3) % 2 = 1)] by rw [pickCs_succ]; unfold pickCf; rw [getD_of hl2])
          have HLn := Lib.hid (pickCs_len r.ls ws j)
          have hwb := WB.out (j + 3)
          have WDj := Lib.hid (WD.out (j + 3) wr (by omega) S3.out.bl)
          have HAL := Lib.hid (show w2.heap.size ≤ wr.heap.size + 1 by have := hO.out.bl.size; omega)
          generalize wordN ws (j + 3) = wd at *
          generalize pickCs r.ls ws j = zs at *
          have HL2 := Lib.hid (show zs.length + 1 ≤ maxLen by have := HLn.out; unfold maxLen; omega)
          have HL3 := Lib.hid (show (zs.length + 1) * 1 ≤ 140737488355328 by have := HLn.out; omega)
          obtain ⟨fr, to, sr⟩ := l
          simp only at *
          clear hl2 k1 k2 k3 hla
          cases sr
          · have ecast : ((j : Int) + 3) = ((j + 3 : Nat) : Int) := by omega
            have hm2 : (wd % 2 == 1) = decide (wd % 2 = 1) := by rw [Bool.eq_iff_iff]; simp
            have HC := Lib.hid ecast
            have HM := Lib.hid hm2
            have hw0 := hwb.1
            have hw9 := hwb.2
            clear ecast hm2 hwb
            go_wp2_with fail
            have WDj2 := WDj.out
            rw [← HC.out] at WDj2
            have WDj2 := Lib.hid WDj2
            have ew : IntKind.i64.wrap (wd % 2) = wd % 2 := IntWalk.i64_in _ (by omega)
            have HN2 := Lib.hid (show pickCs r.ls ws (j + 1) = zs ++ [wd % 2 == 1] by rw [HN.out, HM.out]; rfl)
            (with_reducible refine WDj2.out.mono ?_)
            rintro e w' ⟨rfl, rfl⟩
            go_wp2_with (at_builtin; go_must (refine wpList_append_lies _ rfl _ _ 48 rfl w2.heap.size 4 i4 (.bool false) 1 1 Tryd.underlying48 hi4 hx0 hx1 hx2 rfl (by decide) _ zs.length (zs.map Value.bool) rfl (hO.out.ow.alloc _) ⟨wr.heap.size, 0, none⟩ 1 1 [.bool (wd % 2 == 1)] rfl rfl (World.news_of_block (cs := #[.bool (wd % 2 == 1)]) (t := 4) (fr := (0, 0)) (heap_alloc_new wr _)) (by simp [Value.oneCell']) (by decide) HL2.out HL3.out (by simpa using HAL.out) (wr.heap.size + 1) (by simp) ?_); intro gA capA wA hown hgrow hat hlt1; have OP := Lib.hid (hO.out.push hgrow hown); clear hown hgrow hat hlt1 r0 r1 r2 r3 r4 q3)
            go_roundg (r.ls.length - (j + 1))
            case measure => omega
            case rel => exact ⟨j + 1, _, by omega, rfl, by simp, rfl, by rw [HN2.out]; exact OP⟩
          · have HN2 := Lib.hid (show pickCs r.ls ws (j + 1) = zs ++ [true] from HN.out)
            clear hwb
            go_wp2_with (at_builtin; go_must (refine wpList_append_lies _ rfl _ _ 48 rfl w2.heap.size 4 i4 (.bool false) 1 1 Tryd.underlying48 hi4 hx0 hx1 hx2 rfl (by decide) _ zs.length (zs.map Value.bool) rfl (hO.out.ow.alloc _) ⟨wr.heap.size, 0, none⟩ 1 1 [.bool true] rfl rfl (World.news_of_block (cs := #[.bool true]) (t := 4) (fr := (0, 0)) (heap_alloc_new wr _)) (by simp [Value.oneCell']) (by decide) HL2.out HL3.out (by simpa using HAL.out) (wr.heap.size + 1) (by simp) ?_); intro gA capA wA hown hgrow hat hlt1; have OP := Lib.hid (hO.out.push hgrow hown); clear hown hgrow hat hlt1 r0 r1 r2 r3 r4 q3)
            go_roundg (r.ls.length - (j + 1))
            case measure => omega
            case rel => exact ⟨j + 1, _, by omega, rfl, by simp, rfl, by rw [HN2.out]; exact OP⟩
        · have hz2 : ¬ (j : Int) < (r.ls.length : Int) := by omega
          obtain rfl : j = r.ls.length := by omega
          obtain ⟨aC, cC, rfl, hIC, hNC⟩ := own_boolsAt hO.out.ow
          have IC := Lib.hid hIC
          have NC := Lib.hid hNC
          have IB2 := Lib.hid (IB.out.lo hO.out.bl)
          have BLf := Lib.hid S3.out.bl
          generalize pickCs r.ls ws r.ls.length = CS at *
          clear hIC hNC hO hlt IB
          go_wp2_with fail
          exact HP.out _ _ ⟨aB, cB, aC, cC, rfl, IB2.out, NB.out, IC.out, NC.out, BLf.out⟩

end Go.Proofs.YtaloffdkadhhnaaDoor

namespace Go.Proofs.YtaloffdkadhhnaaDoor
open Go.RowKit

theorem wpList_append_run {P : Program} {ops : Array Oper} {rest : List Oper} {o : Oper} {a : Act} {w : World} {Q : Exit → Act → World → Prop} (hgd : o.guard = none) (d s : Operand) (t t' : TypeId)
    (ho : o.op = .call { callee := .builtin .append, args := #[d, s], argTypes := #[t, t'] }) (v u : Value) (hd : a.eval d = v) (hs : a.eval s = u) {v' : Value} {w' : World}
    (hr : (Builtin.append_ #[t, t'] o.type #[v, u]).run P w = .ok v' w') (h : wpList P ops Q rest (a.put o.dst v') w') : wpList P ops Q (o :: rest) a w := by
  refine wpList_plain hgd fun K hK => ?_
  unfold Oper.wp
  simp [execOp, ho, resolve, invoke, builtin, hd, hs, hr, Result.andThen]
  exact hK _ _ h

theorem run_copy_bools (cs : List Bool) (a2 : Option Addr) (c2 : Nat) (W : World) (hB : BoolsAt W a2 cs) (h0 : a2 = none → cs = [] ∧ c2 = 0) (hn : cs.length ≤ 1000) :
    ∃ a c w', (Builtin.append_ #[48, 48] 48 #[.slice none 0 0, .slice a2 cs.length c2]).run Tryd.prog W = .ok (.slice a cs.length c) w' ∧ BoolsAt w' a cs ∧ Below W.heap.size W w' := by
  obtain ⟨i4, hi4, hx0, hx1, hx2⟩ := info_parts info4
  cases a2 with
  | none =>
    obtain ⟨rfl, rfl⟩ := h0 rfl
    refine ⟨none, 0, W, ?_, fun i v h => by simp at h, Below.refl _ _⟩
    have hu := run_underlying (P := Tryd.prog) (w := W) Tryd.underlying48
    simp [Builtin.append_, hu, sizeOf, typeInfo, hi4, go_sem]
  | some ad =>
    have hnews : ∀ j u, (cs.map Value.bool)[j]? = some u → W.cell? (ad.add j) = some u := by
      intro j u hj
      rw [List.getElem?_map] at hj
      cases hx : cs[j]? with
      | none => rw [hx] at hj; cases hj
      | some x =>
        rw [hx] at hj
        cases hj
        obtain ⟨g', o', e, hc⟩ := hB j x hx
        cases e
        have e : (⟨g', o', none⟩ : Addr).add j = ⟨g', o' + j, none⟩ := by unfold Addr.add; split <;> simp_all
        rw [e]
        exact hc
    obtain ⟨v', w', hr, ho, hg, _, _⟩ := run_append_own_at (P := Tryd.prog) (w := W) W.heap.size 48 48 4 i4 (.bool false) 1 1 Tryd.underlying48 hi4 hx0 hx1 hx2 rfl (by decide) (.slice none 0 0) 0 [] ⟨rfl, .inl ⟨rfl, rfl⟩⟩ ad cs.length c2 (cs.map Value.bool) (by simp) hnews (by intro u hu; obtain ⟨b, _, rfl⟩ := List.mem_map.1 hu; rfl) (by unfold maxLen; omega) (by omega) (Nat.le_refl _)
    rw [Nat.zero_add, List.nil_append] at ho
    obtain ⟨a, c, rfl, hb, _⟩ := own_boolsAt ho
    exact ⟨a, c, w', hr, hb, (Below.refl W.heap.size W).grown hg (Nat.le_refl _) (fun k e => by cases e)⟩

end Go.Proofs.YtaloffdkadhhnaaDoor

namespace Go.Proofs.YtaloffdkadhhnaaDoor
open Go.RowKit

theorem touch_iff {r : Rk} {c : Cs} {N i : Nat} : (touchN r c N).testBit i = true ↔ N.testBit i = true ∧ i < 16 ∧ reachB r c (i : Int) = true := by
  unfold touchN
  rw [setN_bit, List.any_eq_true]
  constructor
  · rintro ⟨x, hx, he⟩
    obtain ⟨h1, h2⟩ := List.mem_filter.1 hx
    obtain ⟨a, b, d⟩ := (mem_els _ _).1 h1
    have hi : x.toNat = i := by simpa using he
    have hx' : x = (i : Int) := by omega
    subst hx'
    exact ⟨by simpa using d, by omega, h2⟩
  · rintro ⟨h1, h2, h3⟩
    exact ⟨(i : Int), List.mem_filter.2 ⟨(mem_els _ _).2 ⟨by omega, by omega, by simpa using h1⟩, h3⟩, by simp⟩

theorem and_bit (a b i : Nat) : (a &&& b).testBit i = (a.testBit i && b.testBit i) := Nat.testBit_and ..

/-- Each pin that falls still falls if more pins stand. -/
theorem hit_more {r : Rk} {c : Cs} {cb : Lk → Bool} {St St' : Nat} (hl : LinksOk r.ls) (hS : St < 65536) (h : Sub St' St) : Sub (hitN r c cb St &&& St') (hitN r c cb St') := by
  unfold hitN
  obtain ⟨a1, a2, a3⟩ := leftN_spec r.ls cb hl St (touchN r c St)
  obtain ⟨b1, b2, b3⟩ := leftN_spec r.ls cb hl St' (touchN r c St')
  apply b3
  · intro i hi; rw [and_bit] at hi; simp at hi; exact hi.2
  · intro i hi
    rw [and_bit] at hi
    simp at hi
    cases ht : (touchN r c St').testBit i
    · rfl
    · obtain ⟨t1, t2, t3⟩ := touch_iff.1 ht
      have := a1 i (touch_iff.2 ⟨h i t1, t2, t3⟩) t2
      rw [hi.1] at this; cases this
  · intro l hlm hc hto hfr
    rw [and_bit] at hto ⊢
    simp at hto ⊢
    exact ⟨a2 l hlm hc hto.1 (h _ hfr), hfr⟩

/-- With more links that carry, and more pins touched, no more pins are left. -/
theorem left_anti {ls ls' : List Lk} {cb cb' : Lk → Bool} {St T T' : Nat} (hl : LinksOk ls) (hl' : LinksOk ls') (hS : St < 65536) (hls : ∀ l ∈ ls, cb l = true → l ∈ ls' ∧ cb' l = true) (hT : ∀ i, T.testBit i = true → i < 16 → T'.testBit i = true) :
    Sub (leftN ls' cb' St T') (leftN ls cb St T) := by
  obtain ⟨a1, a2, a3⟩ := leftN_spec ls' cb' hl' St T'
  obtain ⟨b1, b2, b3⟩ := leftN_spec ls cb hl St T
  have hle := leftN_le ls' cb' St T'
  apply b3 _ hle
  · intro i hi
    have hi16 := bit_in hS (hle i hi)
    cases ht : T.testBit i
    · rfl
    · rw [a1 i (hT i ht hi16) hi16] at hi; cases hi
  · intro l hlm hc hto hfr
    obtain ⟨m1, m2⟩ := hls l hlm hc
    exact a2 l m1 m2 hto hfr

end Go.Proofs.YtaloffdkadhhnaaDoor
