/- The walk of FrameWins. -/
import Derived.Test.YtmjbidnlknmcgabDoorWj
set_option linter.unusedVariables false
set_option linter.unusedSimpArgs false
namespace Go.Proofs.YtmjbidnlknmcgabDoor
open Go.RowKit

theorem Wi.turned {w W : World} {v1 v2 : Value} {n1 n2 : Nat} {CS DS : List (Option Addr × Nat × List Int)} {xa : Option Addr} {ws : List Int} (h : Wi w W v1 v2 n1 n2 CS DS xa ws) {V : World} (hb : Below W.heap.size W V) {vs : List Int} (hv : ∀ v ∈ vs, 0 ≤ v ∧ v < 256)
    {cs : List Value} {zs : Array Value} {e : TypeId} (hcs : cs = vs.map (Value.int .u8)) : Wi w (V.drew.alloc (.cells (cs.toArray ++ zs) e)) v1 v2 n1 n2 CS DS (some ⟨V.heap.size, 0, none⟩) vs := by
  have hb2 : Below W.heap.size W (V.drew.alloc (.cells (cs.toArray ++ zs) e)) := (hb.trans ((⟨rfl, rfl, rfl, Nat.le_refl _, fun _ _ => rfl⟩ : Below V.heap.size V V.drew).mono hb.size)).trans ((below_al V.drew _).mono hb.size)
  refine h.turn hb2 (fun k x hx => ⟨⟨V.heap.size, 0, rfl, ?_, hb.size⟩, hv x (List.mem_of_getElem? hx)⟩)
  have hbl := heap_alloc_new V.drew (.cells (cs.toArray ++ zs) e)
  rw [Nat.zero_add]
  have hbl2 : (V.drew.alloc (.cells (cs.toArray ++ zs) e)).heap[V.heap.size]? = some (.cells (cs.toArray ++ zs) e (0, 0)) := hbl
  rw [cell_of_row _ _ k _ _ _ hbl2]
  have hk : k < cs.length := by rw [hcs, List.length_map]; exact (List.getElem?_eq_some_iff.1 hx).1
  rw [Array.getElem?_append_left (by simpa using hk), List.getElem?_toArray, hcs, List.getElem?_map, hx]; rfl

theorem Wi.turned1 {w W : World} {v1 v2 : Value} {n1 n2 : Nat} {CS DS : List (Option Addr × Nat × List Int)} {xa : Option Addr} {ws : List Int} (h : Wi w W v1 v2 n1 n2 CS DS xa ws) {u : Int} (hv : 0 ≤ u ∧ u < 256) (o : Obj) {zs : Array Value} {e : TypeId} :
    Wi w (((W.alloc o).alloc (.cells (#[.int .u8 u] ++ zs) e)).drew.drew) v1 v2 n1 n2 CS DS (some ⟨W.heap.size + 1, 0, none⟩) [u] := by
  have h1 : Below (W.alloc o).heap.size (W.alloc o) (((W.alloc o).alloc (.cells (#[.int .u8 u] ++ zs) e)).drew.drew) := (below_al (W.alloc o) (.cells (#[.int .u8 u] ++ zs) e)).trans ⟨rfl, rfl, rfl, Nat.le_refl _, fun _ _ => rfl⟩
  have e1 : (W.alloc o).heap.size = W.heap.size + 1 := by simp
  have hb2 : Below W.heap.size W (((W.alloc o).alloc (.cells (#[.int .u8 u] ++ zs) e)).drew.drew) := (below_al W o).trans (h1.mono (below_al W o).size)
  refine h.turn hb2 (fun k x hx => ?_)
  have hk : k = 0 := by have := (List.getElem?_eq_some_iff.1 hx).1; simp at this; exact this
  subst hk
  obtain rfl : u = x := by simpa using hx
  refine ⟨⟨W.heap.size + 1, 0, rfl, ?_, by omega⟩, hv⟩
  have hbl := heap_alloc_new (W.alloc o) (.cells (#[.int .u8 u] ++ zs) e)
  rw [e1] at hbl
  have hbl2 : (((W.alloc o).alloc (.cells (#[.int .u8 u] ++ zs) e)).drew.drew).heap[W.heap.size + 1]? = some (.cells (#[.int .u8 u] ++ zs) e (0, 0)) := hbl
  rw [cell_of_row _ _ (0 + 0) _ _ _ hbl2]
  rw [Array.getElem?_append_left (by simp)]
  rfl

theorem Wi.turned2 {w W : World} {v1 v2 : Value} {n1 n2 : Nat} {CS DS : List (Option Addr × Nat × List Int)} {xa : Option Addr} {ws : List Int} (h : Wi w W v1 v2 n1 n2 CS DS xa ws) {vs : List Int} (hv : ∀ v ∈ vs, 0 ≤ v ∧ v < 256) (o : Obj)
    {cs : List Value} {zs : Array Value} {e : TypeId} (hcs : cs = vs.map (Value.int .u8)) :
    Wi w (((W.alloc o).alloc (.cells (cs.toArray ++ zs) e)).drew.drew) v1 v2 n1 n2 CS DS (some ⟨W.heap.size + 1, 0, none⟩) vs := by
  have h1 : Below (W.alloc o).heap.size (W.alloc o) (((W.alloc o).alloc (.cells (cs.toArray ++ zs) e)).drew.drew) := (below_al (W.alloc o) (.cells (cs.toArray ++ zs) e)).trans ⟨rfl, rfl, rfl, Nat.le_refl _, fun _ _ => rfl⟩
  have e1 : (W.alloc o).heap.size = W.heap.size + 1 := by simp
  have hb2 : Below W.heap.size W (((W.alloc o).alloc (.cells (cs.toArray ++ zs) e)).drew.drew) := (below_al W o).trans (h1.mono (below_al W o).size)
  refine h.turn hb2 (fun k x hx => ⟨⟨W.heap.size + 1, 0, rfl, ?_, by omega⟩, hv x (List.mem_of_getElem? hx)⟩)
  have hbl := heap_alloc_new (W.alloc o) (.cells (cs.toArray ++ zs) e)
  rw [e1] at hbl
  have hbl2 : (((W.alloc o).alloc (.cells (cs.toArray ++ zs) e)).drew.drew).heap[W.heap.size + 1]? = some (.cells (cs.toArray ++ zs) e (0, 0)) := hbl
  rw [Nat.zero_add, cell_of_row _ _ k _ _ _ hbl2]
  have hk : k < cs.length := by rw [hcs, List.length_map]; exact (List.getElem?_eq_some_iff.1 hx).1
  rw [Array.getElem?_append_left (by simpa using hk), List.getElem?_toArray, hcs, List.getElem?_map, hx]; rfl

theorem below_dr {W : World} : Below W.heap.size W W.drew := ⟨rfl, rfl, rfl, Nat.le_refl _, fun _ _ => rfl⟩
theorem own_drew {w : World} {base n : Nat} {e : TypeId} {v : Value} {xs : List Value} (h : w.ownsRow base e 1 v n xs) : w.drew.ownsRow base e 1 v n xs := own_below h below_dr
theorem grown_drew {V W : World} {r : Option Nat} (h : V.drew.grownBy W r) : V.grownBy W r := ⟨h.1, h.2, h.3, h.4, h.5⟩
theorem news_drew {V : World} {a : Addr} {l : List Value} (h : ∀ j u, l[j]? = some u → V.cell? (a.add j) = some u) : ∀ j u, l[j]? = some u → V.drew.cell? (a.add j) = some u := h

theorem Wi.app2d {w W : World} {v1 v2 : Value} {n1 n2 : Nat} {CS DS : List (Option Addr × Nat × List Int)} {xa : Option Addr} {ws : List Int} (h : Wi w W v1 v2 n1 n2 CS DS xa ws) {W1 W3 : World} {v2' : Value} {m c : Nat} {va : Option Addr} {zs : List Int} {o : Obj} (hz : zs.length = m) (hl : W1.ownsRow W.drew.heap.size 3 1 (.slice va m c) m (zs.map (Value.int .i64))) (hb : Below W.drew.heap.size W.drew W1)
    (hg : (W1.alloc o).grownBy W3 v2.ownBlock) (ho : W3.ownsRow w.heap.size 28 1 v2' (n2 + 1) (hdrL DS ++ [.slice va m c])) (hloc : v2'.ownBlock = v2.ownBlock ∨ v2'.ownBlock = some (W1.alloc o).heap.size) :
    Wi w W3 v1 v2' n1 (n2 + 1) CS (DS ++ [(va, c, zs)]) xa ws := Wi.app2 (h.lo below_dr) hz hl hb hg ho hloc

theorem own_balls2 {w : World} {base n c : Nat} {a : Option Addr} {xs : List Int} (h : w.ownsRow base 3 1 (.slice a n c) n (xs.map (Value.int .i64))) : BallsAt w a xs := own_ballsAt h
theorem own_mono2 {w : World} {base b n : Nat} {e : TypeId} {v : Value} {xs : List Value} (h : w.ownsRow base e 1 v n xs) (hb : b ≤ base) : w.ownsRow b e 1 v n xs :=
  ⟨h.1, h.2.imp id fun ⟨g, cap, cur, h1, h2, h3⟩ => ⟨g, cap, cur, h1, Nat.le_trans hb h2, h3⟩⟩
theorem own_put2 {W : World} {base n g : Nat} {e : TypeId} {v : Value} {xs : List Value} (h : W.ownsRow base e 1 v n xs) (hne : v.ownBlock ≠ some g) (a b c d : Value) :
    ((((W.setCell ⟨g, 0, none⟩ a).setCell ⟨g, 1, none⟩ b).setCell ⟨g, 2, none⟩ c).setCell ⟨g, 3, none⟩ d).ownsRow base e 1 v n xs :=
  h.kept (grown_set (grown_set (grown_set (grown_set (World.grownBy.refl W (some g)) 0 a) 1 b) 2 c) 3 d) (.inr hne)
theorem best_gt {T : List Int} {j : Nat} {bs t : Int} {FL : List Int} (h : bestG T j = (bs, FL)) (ht : T[j]? = some t) (hg : bs < t) : bestG T (j + 1) = (t, [(j : Int)]) := by simp [bestG, ht, h, hg]
theorem best_eq {T : List Int} {j : Nat} {bs t : Int} {FL : List Int} (h : bestG T j = (bs, FL)) (ht : T[j]? = some t) (hg : t = bs) : bestG T (j + 1) = (t, FL ++ [(j : Int)]) := by subst hg; simp [bestG, ht, h]
theorem best_lt {T : List Int} {j : Nat} {bs t : Int} {FL : List Int} (h : bestG T j = (bs, FL)) (ht : T[j]? = some t) (hg : ¬ bs < t) (he : ¬ t = bs) : bestG T (j + 1) = (bs, FL) := by simp [bestG, ht, h, hg, he]

theorem win_all {T : List Int} {j : Nat} {bs : Int} {FL L1 L2 : List Int} (hb : bestG T j = (bs, FL)) (hT : T.length = j) (hw : ∀ (i : Nat) (t : Int), T[i]? = some t → (∀ (k : Nat) (u : Int), T[k]? = some u → u ≤ t) → ((i : Nat) : Int) ∈ L1 ∧ ∀ x, L2 = [x] → x = (i : Int)) : ∀ x ∈ FL, x ∈ L1 ∧ ∀ y, L2 = [y] → y = x := by
  intro x hx
  have hm := bestG_mem T j (by omega)
  have hg := (bestG_ge T j).1
  rw [hb] at hm hg
  simp only at hm hg
  rw [hm] at hx
  obtain ⟨i, hi, rfl⟩ := List.mem_map.1 hx
  have h2 := (List.mem_filter.1 hi).2
  have h3 : T[i]? = some bs := by simpa using h2
  exact hw i bs h3 (fun k u hk => hg k u (by have := (List.getElem?_eq_some_iff.1 hk).1; omega) hk)

theorem step_append_growN {P : Program} (w : World) {ops : Array Oper} {o : Oper} {a : Act} {K : Act → World → Prop} {Q : Exit → Act → World → Prop} {E : Prop} (hw : Region.wanted o (yielded ops a.tmps) = true) (s x : Operand) (t : TypeId)
    (ho : o.op = .call { callee := .builtin .append, args := #[s, x], argTypes := #[t, t] })
    (e : TypeId) (i : TypeInfo) (z : Value) (ht : P.underlying t = some (.slice e)) (hi : P.info? e = some i) (hz : i.zero = some z) (hby : i.bytes = 1)
    (base : Option Addr) (n N : Nat) (hN : n + 1 = N) (olds : List Value) (hs : a.eval s = .slice base n n) (hold : (Builtin.firstCells i.size n (.slice base n n)).run P w.drew = .ok olds.toArray w.drew)
    (x' : Value) (hx : a.eval x = x') (news : List Value) (hsrc : Src P i.size t x' 1 news w) (hn : N ≤ 140737488355328)
    (h : ∀ c w', N ≤ c → w' = w.drew.alloc (.cells ((olds ++ news).toArray ++ Builtin.zeroCells z.cells (c - N)) e) → K (a.put o.dst (.slice (some ⟨w.heap.size, 0, none⟩) N c)) w') :
    if Region.wanted o (yielded ops a.tmps) = true then Oper.wp P o a w K Q else E := by
  subst hN
  exact step_append_grow w hw s x t ho e i z ht hi hz hby base n olds hs hold x' hx news hsrc hn h

theorem src_u8 {P : Program} {t e' : TypeId} (hk : P.underlying t = some (.slice e')) {W : World} {u : Int} {e : TypeId} {i : TypeInfo} (hs : i.size = 1) : Src P i.size t (.slice (some ⟨W.heap.size, 0, none⟩) 1 1) 1 [.int .u8 u] ((W.alloc (.cells #[.int .u8 u] e)).drew) := by
  rw [hs]
  exact Src.ofSlice _ hk _ 1 1 _ rfl (fun j v hj => World.news_of_block (w := (W.alloc (.cells #[.int .u8 u] e))) (heap_alloc_new W _) j v hj) (by simp [Value.oneCell'])

theorem run_firstCells_zero (W : World) (b : Option Addr) (c : Nat) : (Builtin.firstCells 1 0 (.slice b 0 c)).run Tryd.prog W = .ok (([] : List Value)).toArray W := by
  cases b with
  | none => exact run_firstCells_none W 1 0 0 c
  | some a => exact run_firstCells_some W 1 0 a 0 c [] rfl (fun j v h => by simp at h)

theorem info5 : (Tryd.prog.info? 5).map (fun i => (i.zero, i.size, i.bytes)) = some (some (.int .u8 0), 1, 1) := by kernel_rfl

/-- Each sheet's header and balls lie. -/
def HdOK (SS : List (Option Addr × Nat × List Int)) : Prop := ∀ p ∈ SS, (p.1 = none → p.2.1 = 0 ∧ p.2.2 = []) ∧ p.2.2.length ≤ p.2.1

set_option maxRecDepth 100000 in
set_option maxHeartbeats 16000000 in
theorem wins_any (l : Lw) (SS : List (Option Addr × Nat × List Int)) (a : Option Addr) (c : Nat) (wa : Option Addr) (ws : List Int) (wc : Nat) (w : World) (hS : SheetsAt w a SS) (hH : HdOK SS) (hW : WordsAt w wa ws) (hwc : ws.length ≤ wc) (hw47 : ws.length + 1 ≤ 140737488355328) (hT : TabOK w) :
    Calls Tryd.prog 3 #[l.val, .slice a SS.length c, .slice wa ws.length wc] w fun e w' => e = .returned (.bool true) ∧ Below w.heap.size w w' := by
  have HT := Lib.hid hT
  have HS := Lib.hid hS
  have HH := Lib.hid hH
  have HW := Lib.hid hW
  have WAK := Lib.hid wakes_any
  have LAW := Lib.hid (law_any l)
  obtain ⟨n, hN⟩ : ∃ n, SS.length = n := ⟨_, rfl⟩
  obtain ⟨K, hK⟩ : ∃ K, ws.length = K := ⟨_, rfl⟩
  rw [hN, hK]
  rw [hK] at hwc hw47
  have HN := Lib.hid hN
  have HK := Lib.hid hK
  clear hT hS hH hW hN hK
  unfold Lw.val at *
  by_cases hn0 : n = 0
  · subst hn0
    go_enter Tryd.func3, Tryd.ntmps3
    go_wp2_with fail
    have A1 := WL.start w l
    generalize World.alloc w _ = w1 at A1 ⊢
    go_wp2_with fail
    refine (WAK.out _ (HT.out.below A1.out.bl HT.out.pos)).mono ?_
    rintro e wZ ⟨rfl, hb⟩
    have BF := Lib.hid (A1.out.bl.trans (hb.mono A1.out.bl.size))
    clear hb
    go_wp2_with fail
    go_ret
    exact ⟨rfl, BF.out⟩
  · have hz : ((n : Int) == 0) = false := by simp; omega
    by_cases hn6 : n ≤ 6
    · have hgt : ¬ (6 : Int) < (n : Int) := by omega
      go_enter Tryd.func3, Tryd.ntmps3
      go_wp2_with fail
      have A1 := WL.start w l
      generalize World.alloc w _ = w1 at A1 ⊢
      obtain ⟨i24, hi24, hz0, hz1, hz2⟩ := info_parts info24
      have W0 := Lib.hid (Wi.start (show WordsAt w1 wa ws from fun k x hx => by
        obtain ⟨⟨g, o, e, hc⟩, h0⟩ := HW.out k x hx
        exact ⟨⟨g, o, e, below_cell A1.out.bl hc⟩, h0⟩))
      have HU0 : Hid (ws.length = K ∧ K ≤ wc) := Lib.hid ⟨HK.out, hwc⟩
      clear HW
      go_wp2_with fail
      go_loopg [2, 7, 8, 9] n (fun g s2 s7 s8 s9 wx => ∃ (i : Nat) (ca da : Option Addr) (cc dc : Nat) (xa : Option Addr) (xc : Nat) (us : List Int) (CS DS : List (Option Addr × Nat × List Int)), i ≤ n ∧ g = n - i ∧ s9 = .int .i64 (i : Int) ∧ s7 = .slice ca i cc ∧ s8 = .slice da i dc ∧ s2 = .slice xa K xc ∧ Hid (Wi w1 wx (.slice ca i cc) (.slice da i dc) i i CS DS xa us) ∧ Hid (us.length = K ∧ K ≤ xc) ∧ Hid (CS.map (fun p => p.2.2) = (SS.take i).map (fun p => p.2.2)) ∧ Hid (Gn l CS DS) ∧ Hid (∀ p ∈ DS, p.1 = none → p.2.1 = 0 ∧ p.2.2 = []))
      case atStart => exact ⟨0, none, none, 0, 0, wa, wc, ws, [], [], by omega, rfl, rfl, rfl, rfl, rfl, W0, HU0, Lib.hid (by simp), Lib.hid (Gn.nil l), Lib.hid (fun p h => by cases h)⟩
      case round =>
        clear W0 HU0
        obtain ⟨i, ca, da, cc, dc, xa, xc, us, CS, DS, hi, rfl, rfl, rfl, rfl, rfl, HI, HU, HCS, HG, HDN⟩ := hrel
        have A3 := WL.lo A1 HI.out.bl
        by_cases hin : i < n
        · have hq0 : (0 : Int) ≤ (i : Int) := by omega
          have hq1 : (i : Int) < (n : Int) := by omega
          have hw1 : IntKind.i64.wrap ((i : Int) + 1) = (i : Int) + 1 := IntWalk.i64_in _ (by omega)
          obtain ⟨p, hp⟩ : ∃ p, SS[i]? = some p := ⟨SS[i]'(by rw [HN.out]; exact hin), List.getElem?_eq_getElem _⟩
          obtain ⟨g, o, hga, hcell, hballs⟩ := HS.out i p hp
          have htk : SS.take (i + 1) = SS.take i ++ [p] := by rw [List.take_add_one, hp]; rfl
          have hhd := HH.out p (List.mem_of_getElem? hp)
          obtain ⟨ya, yc, zs⟩ := p
          simp only at hcell hballs hhd
          obtain ⟨m, hm⟩ : ∃ m, zs.length = m := ⟨_, rfl⟩
          rw [hm] at hcell
          subst hga
          have HBL := Lib.hid hballs
          have HM := Lib.hid hm
          have HTK := Lib.hid htk
          have HHD := Lib.hid hhd
          have HCE := Lib.hid hcell
          have hcl := below_cell A3.out.bl hcell
          clear hp hcell hballs htk hhd hm
          have SP : Hid (∀ W, Hid (BL wr W) → ((W.cell? ⟨w.heap.size, 0, none⟩ = some (.int .i64 l.fr) ∧ W.cell? ⟨w.heap.size, 1, none⟩ = some (.int .i64 l.pn) ∧ W.cell? ⟨w.heap.size, 2, none⟩ = some (.int .i64 l.bl) ∧ W.cell? ⟨w.heap.size, 3, none⟩ = some (.int .i64 l.tp)) ∧ W.cell? ⟨g, o + i, none⟩ = some (.slice ya m yc))) := Lib.hid (fun W h => ⟨BL.law h A3, below_cell h.out.b (below_cell A3.out.bl HCE.out)⟩)
          have RDY := Lib.hid (fun W (h : Hid (BL wr W)) => (ready_any l zs ya yc W (HBL.out.lo (A3.out.bl.trans (h.out.b.mono A3.out.bl.size)))))
          rw [HM.out] at RDY
          unfold Lw.val at RDY
          obtain ⟨rb, hrb⟩ : ∃ rb, decide (rdE l zs = 0) = rb := ⟨_, rfl⟩
          rw [hrb] at RDY
          have HRB := Lib.hid hrb
          clear hrb
          go_upto_region 7 with fail
          go_cut [46] (fun s46 wx => s46 = .bool (!rb) ∧ Hid (BL wr wx))
          case first => as_aux_lemma =>
            clear A3 HBL HCE HM HRB HI HU HCS HG HDN HHD HTK HS HH HN LAW WAK HT A1
            go_region_held3 (fun W => (W.cell? ⟨w.heap.size, 0, none⟩ = some (.int .i64 l.fr) ∧ W.cell? ⟨w.heap.size, 1, none⟩ = some (.int .i64 l.pn) ∧ W.cell? ⟨w.heap.size, 2, none⟩ = some (.int .i64 l.bl) ∧ W.cell? ⟨w.heap.size, 3, none⟩ = some (.int .i64 l.tp)) ∧ W.cell? ⟨g, o + i, none⟩ = some (.slice ya m yc))
              (with_reducible first | exact SP.out _ (BL.dr (BL.start wr)) | exact SP.out _ PA)
              (first
                | (go_at_call 6; (with_reducible refine (RDY.out _ (BL.dr (BL.start wr))).mono ?_); rintro e wA ⟨rfl, hb⟩; have PA := BL.lo (BL.dr (BL.start wr)) hb; clear hb))
            all_goals
              go_wp2_with fail
              go_meet
              with_reducible exact ⟨rfl, PA⟩
          case rest =>
            obtain ⟨rfl, PA⟩ := hcut
            have I4 := Lib.hid (HI.out.lo PA.out.b)
            have A4 := WL.lo A3 PA.out.b
            clear SP RDY HI PA A3
            generalize wc = w4 at I4 A4 ⊢
            cases rb
            · have hx := trivial
              go_wp2_with fail

              refine (WAK.out _ (HT.out.below A4.out.bl HT.out.pos)).mono ?_
              rintro e wZ ⟨rfl, hb⟩
              have BF := Lib.hid (A4.out.bl.trans (hb.mono A4.out.bl.size))
              clear hb
              go_wp2_with fail
              go_ret
              exact ⟨rfl, BF.out⟩
            · have hr0 := of_decide_eq_true HRB.out
              have HR0 := Lib.hid hr0
              have LST := Lib.hid (fun W (hs : BallsAt W ya zs) => list_any zs ya yc W ⟨hs, HHD.out.1⟩ (by have := (errS_zero (rdE_zero hr0).1).2; omega))
              rw [HM.out] at LST
              have HC4 := below_cell A4.out.bl HCE.out
              clear hr0 HRB
              go_wp2_with fail
              refine (LST.out w4 (HBL.out.lo A4.out.bl)).mono ?_
              rintro e w5 ⟨v, rfl, ho, hb⟩
              obtain ⟨va, vc, rfl⟩ := own_len ho
              have I5 := Lib.hid (I4.out.lo hb)
              have hbs2 : w1.heap.size ≤ (w5.alloc (.cells #[.slice va m vc] 28)).heap.size := Nat.le_trans I5.out.bl.size (below_al w5 _).size
              have HO2 := Lib.hid ho
              have HB2 := Lib.hid hb
              clear ho hb HC4
              go_upto_region 10 with (at_builtin; go_must (refine wpList_append_own_at _ rfl _ _ 24 rfl w1.heap.size 28 i24 (.slice none 0 0) 1 24 Tryd.underlying24 hi24 hz0 hz1 hz2 rfl (by decide) _ i _ rfl (own_al I5.out.o1 _) ⟨w5.heap.size, 0, none⟩ 1 1 [.slice va m vc] rfl rfl (World.news_of_block (heap_alloc_new w5 _)) (by simp [Value.oneCell']) (by unfold maxLen; omega) (by omega) hbs2 ?_); intro v' w9 hown' hgrow hnil hloc; have I9 := Lib.hid (Wi.app1 I4.out HM.out HO2.out HB2.out hgrow hown' hloc); obtain ⟨za, zc, rfl⟩ := own_len hown'; clear hown' hgrow hnil hloc)
              have A9 := WL.lo A1 I9.out.bl
              clear I4 I5 A4 HO2 HB2 hbs2 LST
              have HKB := Lib.hid hw47
              clear hw47
              rcases (show K = 0 ∨ K = 1 ∨ 1 < K by omega) with hK0 | hK0 | hK0
              case' inl =>
                subst hK0
                have hKp : ¬ (0 : Int) < ((0 : Nat) : Int) := by omega
                go_upto_region 12 with fail
                have I10 := I9
                have HU10 := HU
                clear I9 HU A9
                obtain ⟨x9, hx9⟩ : ∃ x9, x9 = xa := ⟨_, rfl⟩
                obtain ⟨us9, hu9⟩ : ∃ us9, us9 = us := ⟨_, rfl⟩
                obtain ⟨c9, hc9⟩ : ∃ c9, c9 = xc := ⟨_, rfl⟩
                subst hx9 hu9 hc9
                generalize w9 = w10 at I10 ⊢
              case' inr.inl =>
                have hKp : (0 : Int) < (K : Int) := by omega
                obtain ⟨u, ut, hus⟩ : ∃ u ut, us = u :: ut := by
                  cases us with
                  | nil => exact absurd HU.out.1.symm (by simp only [List.length_nil]; omega)
                  | cons u ut => exact ⟨u, ut, rfl⟩
                subst hus
                obtain ⟨gx, ox, hxa, hcx⟩ := (I9.out.words 0 u rfl).1
                subst hxa
                rw [Nat.add_zero] at hcx
                have HCX := Lib.hid hcx
                have HVS : Hid (∀ v ∈ ut ++ [u], 0 ≤ v ∧ v < 256) := Lib.hid (fun v hv => by
                  have hv2 : v ∈ u :: ut := by simp at hv ⊢; exact hv.symm
                  obtain ⟨k, hk⟩ := List.mem_iff_getElem?.1 hv2
                  exact (I9.out.words k v hk).2)
                have HKC : Hid (ut.length + 1 = K) := Lib.hid (by simpa using HU.out.1)
                obtain ⟨i5, hi5, hv0, hv1, hv2⟩ := info_parts info5
                have HC1 : K ≤ xc := HU.out.2
                have hK1x := trivial
                have hb1 : (1 : Int) ≤ (K : Int) := by omega
                have hb2 : (K : Int) ≤ (xc : Int) := by omega
                have SPX : Hid (∀ W, Hid (BL w9 W) → W.cell? ⟨gx, ox, none⟩ = some (.int .u8 u)) := Lib.hid (fun W h => below_cell h.out.b HCX.out)
                clear hcx HCX A9
                subst hK0
                obtain rfl : ut = [] := List.length_eq_zero_iff.1 (by have := HKC.out; omega)
                have hc1 : (1 : Int) ≤ (xc : Int) := by omega
                go_upto_region 11 with fail
                go_cut [2] (fun s2 wx => ∃ (x9 : Option Addr) (c9 : Nat) (us9 : List Int), s2 = .slice x9 1 c9 ∧ Hid (Wi w1 wx (.slice za (i + 1) zc) (.slice da i dc) (i + 1) i (CS ++ [(va, vc, zs)]) DS x9 us9) ∧ Hid (us9.length = 1 ∧ 1 ≤ c9))
                case first => as_aux_lemma =>
                  clear HS HH HN LAW WAK HT A1 HBL HM HTK HHD HCE HR0 HG HDN HCS hi24 hz0 hz1 hz2 HU HKC HK hKp
                  go_region_held3 (fun W => W.cell? ⟨gx, ox, none⟩ = some (.int .u8 u))
                    (with_reducible first | exact SPX.out _ (BL.dr (BL.start w9)) | exact SPX.out _ (BL.dr (BL.al (BL.start w9) _)) | exact SPX.out _ (BL.dr (BL.al (BL.al (BL.start w9) _) _)) | exact SPX.out _ (BL.dr (BL.dr (BL.al (BL.al (BL.start w9) _) _))) | exact SPX.out _ (BL.dr (BL.dr (BL.al (BL.start w9) _))) | exact SPX.out _ (BL.dr (BL.dr (BL.start w9))))
                    (fail)
                  all_goals
                    go_wp2_with fail
                    go_meet
                    exact ⟨_, _, [u], rfl, Lib.hid (I9.out.turned1 (HVS.out u (by simp)) _), Lib.hid ⟨rfl, grownCap_ge (((w9.alloc (.cells #[.int .u8 u] 5))).drew) 1 0 5⟩⟩
                case' rest =>
                  obtain ⟨x9, c9, us9, rfl, I10, HU10⟩ := hcut
                  clear I9 HU
                  go_upto_region 12 with fail
                  generalize wc = w10 at I10 ⊢
              case' inr.inr =>
                have hKp : (0 : Int) < (K : Int) := by omega
                obtain ⟨u, ut, hus⟩ : ∃ u ut, us = u :: ut := by
                  cases us with
                  | nil => exact absurd HU.out.1.symm (by simp only [List.length_nil]; omega)
                  | cons u ut => exact ⟨u, ut, rfl⟩
                subst hus
                obtain ⟨gx, ox, hxa, hcx⟩ := (I9.out.words 0 u rfl).1
                subst hxa
                rw [Nat.add_zero] at hcx
                have HCX := Lib.hid hcx
                have HVS : Hid (∀ v ∈ ut ++ [u], 0 ≤ v ∧ v < 256) := Lib.hid (fun v hv => by
                  have hv2 : v ∈ u :: ut := by simp at hv ⊢; exact hv.symm
                  obtain ⟨k, hk⟩ := List.mem_iff_getElem?.1 hv2
                  exact (I9.out.words k v hk).2)
                have HKC : Hid (ut.length + 1 = K) := Lib.hid (by simpa using HU.out.1)
                obtain ⟨i5, hi5, hv0, hv1, hv2⟩ := info_parts info5
                have HC1 : K ≤ xc := HU.out.2
                have hK1x := trivial
                have hb1 : (1 : Int) ≤ (K : Int) := by omega
                have hb2 : (K : Int) ≤ (xc : Int) := by omega
                have SPX : Hid (∀ W, Hid (BL w9 W) → W.cell? ⟨gx, ox, none⟩ = some (.int .u8 u)) := Lib.hid (fun W h => below_cell h.out.b HCX.out)
                clear hcx HCX A9
                have hK1 : ¬ K = 1 := by omega
                have HOL : Hid (∀ W, Hid (BL w9 W) → (Builtin.firstCells i5.size (K - 1) (.slice (some ⟨gx, ox + 1, none⟩) (K - 1) (K - 1))).run Tryd.prog W = .ok (ut.map (Value.int .u8)).toArray W) := Lib.hid (fun W h => by rw [hv1]; exact run_firstCells_some W 1 (K - 1) _ _ _ _ (by have := HKC.out; simp; omega) (fun j v hj => by
                  rw [List.getElem?_map, Option.map_eq_some_iff] at hj
                  obtain ⟨y, hy, rfl⟩ := hj
                  obtain ⟨⟨g3, o3, e3, c3⟩, _⟩ := I9.out.words (j + 1) y (by simpa using hy)
                  cases e3
                  have := below_cell h.out.b c3
                  rw [Addr.add_lit, show ox + 1 + j = ox + (j + 1) by omega]
                  exact this))
                go_upto_region 11 with fail
                go_cut [2] (fun s2 wx => ∃ (x9 : Option Addr) (c9 : Nat) (us9 : List Int), s2 = .slice x9 K c9 ∧ Hid (Wi w1 wx (.slice za (i + 1) zc) (.slice da i dc) (i + 1) i (CS ++ [(va, vc, zs)]) DS x9 us9) ∧ Hid (us9.length = K ∧ K ≤ c9))
                case first => as_aux_lemma =>
                  clear HS HH HN LAW WAK HT A1 HBL HM HTK HHD HCE HR0 HG HDN HCS hi24 hz0 hz1 hz2 HU HK
                  go_region_held3 (fun W => W.cell? ⟨gx, ox, none⟩ = some (.int .u8 u))
                    (with_reducible first | exact SPX.out _ (BL.dr (BL.start w9)) | exact SPX.out _ (BL.dr (BL.al (BL.start w9) _)) | exact SPX.out _ (BL.al (BL.dr (BL.dr (BL.al (BL.start w9) _))) _) | exact SPX.out _ (BL.dr (BL.dr (BL.al (BL.start w9) _))) | exact SPX.out _ (BL.dr (BL.dr (BL.start w9))))
                    (first
                      | ((with_reducible refine append_hereG ?_); go_must (refine step_append_growN _ (by rfl) _ _ 25 (by rfl) 5 i5 (.int .u8 0) Tryd.underlying25 hi5 hv0 hv2 (some ⟨gx, ox + 1, none⟩) (K - 1) K (by omega) (ut.map (Value.int .u8)) (by simp [Act.eval, hK1]) (HOL.out _ (BL.dr (BL.dr (BL.al (BL.start w9) _)))) _ (by rfl) [.int .u8 u] (src_u8 Tryd.underlying25 hv1) (by have := HKB.out; omega) ?_); intro cq wq hcq hwq; subst hwq))
                  all_goals
                    go_wp2_with fail
                    go_meet
                    exact ⟨_, _, ut ++ [u], rfl, Lib.hid (I9.out.turned2 HVS.out _ (by rw [List.map_append]; rfl)), Lib.hid ⟨by rw [List.length_append]; exact HKC.out, hcq⟩⟩
                case' rest =>
                  obtain ⟨x9, c9, us9, rfl, I10, HU10⟩ := hcut
                  clear I9 HU
                  go_upto_region 12 with fail
                  generalize wc = w10 at I10 ⊢
              all_goals as_aux_lemma =>
                skip
                have e10 := HU10.out.1
                have ekc := HU10.out.2
                have HE10 := HU10
                have B10 : Hid (BL w1 w10) := Lib.hid ⟨I10.out.bl⟩
                have SP := Lib.hid (fun W (h : Hid (BL w1 W)) => (show (W.cell? ⟨w.heap.size, 0, none⟩ = some (.int .i64 l.fr) ∧ W.cell? ⟨w.heap.size, 1, none⟩ = some (.int .i64 l.pn) ∧ W.cell? ⟨w.heap.size, 2, none⟩ = some (.int .i64 l.bl) ∧ W.cell? ⟨w.heap.size, 3, none⟩ = some (.int .i64 l.tp)) ∧ W.cell? ⟨g, o + i, none⟩ = some (.slice ya m yc) from ⟨BL.law h A1, below_cell h.out.b (below_cell A1.out.bl HCE.out)⟩))
                have END := Lib.hid (fun W (h : Hid (BL w10 W)) => endd_any l zs ya yc x9 us9 c9 W HR0.out ⟨HBL.out.lo (A1.out.bl.trans ((B10.out.b.trans (h.out.b.mono B10.out.b.size)).mono A1.out.bl.size)), HHD.out.1⟩ ((I10.out.lo h.out.b).words) (by have := HKB.out; omega))
                rw [HM.out, e10] at END
                unfold Lw.val at END
                clear e10 ekc hcl
                go_region_held3 (fun W => (W.cell? ⟨w.heap.size, 0, none⟩ = some (.int .i64 l.fr) ∧ W.cell? ⟨w.heap.size, 1, none⟩ = some (.int .i64 l.pn) ∧ W.cell? ⟨w.heap.size, 2, none⟩ = some (.int .i64 l.bl) ∧ W.cell? ⟨w.heap.size, 3, none⟩ = some (.int .i64 l.tp)) ∧ W.cell? ⟨g, o + i, none⟩ = some (.slice ya m yc))
                  (with_reducible first | exact SP.out _ (BL.dr B10) | exact SP.out _ PA | exact SP.out _ (BL.dr (BL.al PA _)) | exact SP.out _ (BL.al PA _) | exact SP.out _ PB)
                  (first
                    | (go_at_call 8; (with_reducible refine (END.out _ (BL.dr (BL.start w10))).mono ?_); rintro e wA ⟨ys, v, rfl, ho, hpx, hfo, hb⟩; have HO := Lib.hid ho; obtain ⟨ea, ec, rfl⟩ := own_len ho; have HHB := Lib.hid hb; have PA := BL.lo (BL.dr B10) hb; have HPX := Lib.hid hpx; have HFO := Lib.hid hfo; have IA := Lib.hid ((I10.out.lo below_dr).lo hb); obtain ⟨my, hmy⟩ : ∃ my, ys.length = my := ⟨_, rfl⟩; rw [hmy] at HO ⊢; have HMY := Lib.hid hmy; clear ho hb hpx hfo hmy)
                    | ((with_reducible refine append_hereG ?_); go_must (refine step_append_own _ (by rfl) _ _ 24 (by rfl) w1.heap.size 28 i24 (.slice none 0 0) 1 24 Tryd.underlying24 hi24 hz0 hz1 hz2 rfl (by decide) _ i _ (by rfl) (own_al IA.out.o2 _) ⟨wA.heap.size, 0, none⟩ 1 1 [.slice ea my ec] (by rfl) rfl (World.news_of_block (heap_alloc_new wA _)) (by simp [Value.oneCell']) (by unfold maxLen; omega) (by omega) (Nat.le_trans IA.out.bl.size (below_al wA _).size) ?_); intro v' wB hown hgrow hloc; go_must (first | (have PB := BL.grow (BL.al PA _) IA.out.o2 (Nat.le_refl _) hgrow) | fail "PB"); go_must (first | (have IB := Lib.hid (Wi.app2d I10.out HMY.out HO.out HHB.out hgrow hown hloc)) | fail "IB"); go_must (obtain ⟨qa, qc, rfl⟩ := own_len hown; clear hown hgrow hloc)))
                all_goals
                  go_wp2_with fail
                  go_roundg (n - (i + 1))
                  case measure => omega
                  case rel => exact ⟨i + 1, za, qa, zc, qc, x9, c9, us9, _, _, by omega, rfl, by simp, rfl, rfl, rfl, IB, HE10, Lib.hid (by rw [HTK.out, List.map_append, List.map_append, HCS.out]; rfl), Lib.hid (HG.out.snoc HR0.out HPX.out HFO.out), Lib.hid (fun q hq => by
                    rcases List.mem_append.1 hq with hq | hq
                    · exact HDN.out q hq
                    · simp at hq; subst hq; exact (own_sheet HO.out).2)⟩
        · have hie : i = n := by omega
          have hq2 : ¬ (i : Int) < (n : Int) := by omega
          subst hie
          have hi1 : 1 ≤ i := by omega
          have hCM := HCS.out
          rw [← HN.out, List.take_length] at hCM
          have hCL : CS.length = i := by have := congrArg List.length hCM; simpa [HN.out] using this
          have hDL : DS.length = i := by rw [← HG.out.len]; exact hCL
          obtain ⟨q0, hq0m⟩ : ∃ q, q ∈ CS := ⟨CS[0]'(by omega), List.getElem_mem _⟩
          have ok := (recS_ok (HG.out.rd _ hq0m)).1
          have hk := (okB_iff l).2 ok
          have HSC := Lib.hid (hdr_sheets HI.out.o1 HI.out.q1)
          have HSD := Lib.hid (hdr_sheets HI.out.o2 HI.out.q2)
          have AHD := Lib.hid (fun W (hs : SheetsAt W ca CS) hT => ahead_good l ok CS ca cc W hs (match_zero hk (by omega) (by omega) HG.out.rd) (spE_zero HG.out.rd) hT)
          have wn := HG.out.wn ok (by omega)
          have hRL : (spR l CS).length = i := by rw [spR, List.length_map]; exact hCL
          have hne := wn.may_ne
          have hso := wn.sure_one
          have hsm := wn.sure_may
          have WON := Lib.hid (fun (j : Nat) (t : Int) => wn.won (i := j) (t := t))
          rw [hRL] at hne hso hsm WON
          rw [hCL] at AHD
          obtain ⟨L1, hL1⟩ : ∃ L1, selL mayI (spR l CS) i = L1 := ⟨_, rfl⟩
          obtain ⟨L2, hL2⟩ : ∃ L2, selL sureI (spR l CS) i = L2 := ⟨_, rfl⟩
          rw [hL1, hL2] at AHD WON hsm
          rw [hL1] at hne
          rw [hL2] at hso
          obtain ⟨N1, hN1⟩ : ∃ N1, L1.length = N1 := ⟨_, rfl⟩
          obtain ⟨N2, hN2⟩ : ∃ N2, L2.length = N2 := ⟨_, rfl⟩
          rw [hN1, hN2] at AHD
          rw [hN1] at hne
          rw [hN2] at hso hsm
          have hlN : N1 ≤ 6 := by
            rw [← hN1, ← hL1]; have := selL_len mayI (spR l CS) i; omega
          have HNN1 := Lib.hid hN1
          have HNN2 := Lib.hid hN2
          have HSM := Lib.hid hsm
          have OK := Lib.hid ok
          have HDL := Lib.hid hDL
          have HCL := Lib.hid hCL
          unfold Lw.val at AHD
          have c1 : ((N1 : Int) == 0) = false := by simp; omega
          have c2 : ¬ (1 : Int) < (N2 : Int) := by omega
          clear hCM hCL hDL hq0m ok hk wn hRL hsm hL1 hL2 hN1 hN2 HCS HI HU HS hi24 hz0 hz1 hz2 hin hi
          obtain ⟨k0, k1, k2, k3⟩ := WL.at A3
          go_wp2_with fail
          refine (LAW.out wr).mono ?_
          rintro e w4 ⟨rfl, hb⟩
          have A4 := WL.lo A3 hb
          have SC4 := Lib.hid (HSC.out.lo hb)
          have SD4 := Lib.hid (HSD.out.lo hb)
          clear hb k0 k1 k2 k3 HSC HSD
          go_wp2_with fail
          refine (AHD.out w4 SC4.out (HT.out.below A4.out.bl HT.out.pos)).mono ?_
          rintro e w5 ⟨v1, v2, rfl, ho1, ho2, hb⟩
          obtain ⟨ma, mc, rfl⟩ := own_len ho1
          obtain ⟨ua, uc, rfl⟩ := own_len ho2
          have A5 := WL.lo A4 hb
          have M5 := Lib.hid (own_ballsAt ho1)
          have U5 := Lib.hid (own_ballsAt ho2)
          have SD5 := Lib.hid (SD4.out.lo hb)
          clear hb SC4 SD4 AHD ho1 ho2 A4 A3
          go_upto_region 14 with fail
          go_cut [110] (fun s110 wx => s110 = .bool false ∧ Hid (BL w5 wx))
          case first => as_aux_lemma =>
            rcases (show N2 = 0 ∨ N2 = 1 by omega) with h2 | h2
            · subst h2
              go_wp2_with fail
              go_meet
              exact ⟨rfl, BL.start _⟩
            · have hll := HSM.out h2
              have e12 : N1 = N2 := by rw [← HNN1.out, hll]; exact HNN2.out
              have M5b := M5.out
              rw [hll] at M5b
              have SAM := Lib.hid (ints_same L2 N2 ma ua mc uc w5 HNN2.out (by omega) M5b U5.out)
              subst e12
              subst h2
              clear hll M5b c1
              go_wp2_with fail
              refine SAM.out.mono ?_
              rintro e wX ⟨rfl, hg⟩
              have hb := grown_belowN hg.out
              have PX := BL.lo (BL.start w5) hb
              clear hb hg
              go_wp2_with fail
              go_meet
              exact ⟨rfl, PX⟩
          case rest =>
            obtain ⟨rfl, PA⟩ := hcut
            have A6 := WL.lo A5 PA.out.b
            have M6 := Lib.hid (M5.out.lo PA.out.b)
            have U6 := Lib.hid (U5.out.lo PA.out.b)
            have SD6 := Lib.hid (SD5.out.lo PA.out.b)
            clear A5 M5 U5 SD5 PA
            generalize wc = w6 at A6 M6 U6 SD6 ⊢
            obtain ⟨F, hF⟩ : ∃ F : Nat, (F : Int) = l.fr := ⟨l.fr.toNat, by have := OK.out; have h1 := this.f1; have h2 := this.f2; omega⟩
            have hF2 : 1 ≤ F ∧ F ≤ 1000 := by have := OK.out; have h1 := this.f1; have h2 := this.f2; omega
            obtain ⟨T, hT2⟩ : ∃ T, finT l DS = T := ⟨_, rfl⟩
            have HFT := Lib.hid hT2
            have HF := Lib.hid hF
            clear hT2 hF
            go_wp2_with fail
            go_loopg [13, 14, 15] i (fun g s13 s14 s15 wx => ∃ (j nf : Nat) (bs : Int) (fa : Option Addr) (fc : Nat) (FL : List Int), j ≤ i ∧ g = i - j ∧ s15 = .int .i64 (j : Int) ∧ s13 = .int .i64 bs ∧ s14 = .slice fa nf fc ∧ Hid (bestG T j = (bs, FL)) ∧ Hid (wx.ownsRow w6.heap.size 3 1 (.slice fa nf fc) nf (FL.map (Value.int .i64))) ∧ Hid (BL w6 wx) ∧ Hid (FL.length = nf ∧ nf ≤ j))
            case atStart => exact ⟨0, 0, -1, none, 0, [], by omega, rfl, rfl, rfl, rfl, Lib.hid rfl, Lib.hid (World.ownsRow_nil _ _ _ _), BL.start w6, Lib.hid ⟨rfl, by omega⟩⟩
            case round =>
              obtain ⟨j, nf, bs, fa, fc, FL, hj, rfl, rfl, rfl, rfl, HB2, HO2, HBL2, HL2⟩ := hrel
              have AR := WL.lo A6 HBL2.out.b
              by_cases hji : j < i
              · have hq0 : (0 : Int) ≤ (j : Int) := by omega
                have hq1 : (j : Int) < (i : Int) := by omega
                have hw1 : IntKind.i64.wrap ((j : Int) + 1) = (j : Int) + 1 := IntWalk.i64_in _ (by omega)
                obtain ⟨q, hq⟩ : ∃ q, DS[j]? = some q := ⟨DS[j]'(by rw [HDL.out]; exact hji), List.getElem?_eq_getElem _⟩
                have hqm := List.mem_of_getElem? hq
                obtain ⟨g, o, hga, hcell, hballs⟩ := SD6.out j q hq
                obtain ⟨s, hfo, hsf⟩ := HG.out.dfo hqm
                have hdn := HDN.out q hqm
                have hl30 := hfo.len OK.out
                have hlast := tot_last hfo OK.out hsf
                have hTj : T[j]? = some (recS l q.2.2).tot := by rw [← HFT.out, finT, List.getElem?_map, hq]; rfl
                obtain ⟨ya, yc, ys⟩ := q
                simp only at hcell hballs hfo hdn hl30 hlast hTj
                obtain ⟨t, ht⟩ : ∃ t, (recS l ys).tot = t := ⟨_, rfl⟩
                rw [ht] at hlast hTj
                have RN := Lib.hid (fun W a c (hs : BallsAt W a ys) => rd_whole hfo OK.out hsf HF.out a c W hs)
                obtain ⟨M, hM⟩ : ∃ M, rdM l ys = M := ⟨_, rfl⟩
                rw [hM] at RN hlast
                have LN := Lib.hid (fun W (h : Hid (BL wr W)) => list_any ys ya yc W ⟨hballs.lo (HBL2.out.b.trans (h.out.b.mono HBL2.out.b.size)), hdn⟩ (by omega))
                obtain ⟨my, hmy⟩ : ∃ my, ys.length = my := ⟨_, rfl⟩
                rw [hmy] at hcell LN RN
                subst hga
                unfold Lw.val at RN
                have HCE := Lib.hid hcell
                have HTJ := Lib.hid hTj
                have HLA := Lib.hid hlast
                have SP := Lib.hid (fun W (h : Hid (BL wr W)) => (show (W.cell? ⟨w.heap.size, 0, none⟩ = some (.int .i64 l.fr) ∧ W.cell? ⟨w.heap.size, 1, none⟩ = some (.int .i64 l.pn) ∧ W.cell? ⟨w.heap.size, 2, none⟩ = some (.int .i64 l.bl) ∧ W.cell? ⟨w.heap.size, 3, none⟩ = some (.int .i64 l.tp)) ∧ W.cell? ⟨g, o + j, none⟩ = some (.slice ya my yc) from ⟨BL.law h AR, below_cell h.out.b (below_cell HBL2.out.b HCE.out)⟩))
                have hcx := below_cell HBL2.out.b hcell
                clear hqm hballs hfo hsf hdn hl30 hlast hTj ht hM hmy hcell hq
                go_upto_region 20 with fail
                go_cut [16, 17] (fun s16 s17 wx => ∃ (g16 : Nat) (xa : Option Addr) (xn xc : Nat) (qa : Option Addr) (qc : Nat) (st : Int) (dn : Bool), s16 = .pointer (some ⟨g16, 0, none⟩) ∧ s17 = .int .i64 0 ∧ Hid (BL wr wx) ∧ Hid (GK wx g16 (.slice xa xn xc) (.slice qa F qc) st dn) ∧ Hid (wx.ownsRow 0 3 1 (.slice qa F qc) F (M.map (Value.int .i64))))
                case first => as_aux_lemma =>
                  have hd0 : wr.heap.size ≤ wr.heap.size := Nat.le_refl _
                  clear HB2 HO2 HBL2 HL2 HCE HTJ HLA HT HH WAK OK HG HDN HDL HCL HFT HF SD6 M6 U6 A6 WON HSM HNN1 HNN2 A1 HN hcx
                  go_region_held3 (fun W => (W.cell? ⟨w.heap.size, 0, none⟩ = some (.int .i64 l.fr) ∧ W.cell? ⟨w.heap.size, 1, none⟩ = some (.int .i64 l.pn) ∧ W.cell? ⟨w.heap.size, 2, none⟩ = some (.int .i64 l.bl) ∧ W.cell? ⟨w.heap.size, 3, none⟩ = some (.int .i64 l.tp)) ∧ W.cell? ⟨g, o + j, none⟩ = some (.slice ya my yc))
                    (with_reducible first | exact SP.out _ (BL.dr (BL.start wr)) | exact SP.out _ (BL.dr (BL.al (BL.start wr) _)) | exact SP.out _ (PA) | exact SP.out _ (BL.al PA _) | exact SP.out _ (PB) | exact SP.out _ (BL.al PB _) | exact SP.out _ (PD) | exact SP.out _ (BL.al PD _) | exact SP.out _ (BL.put PD (by omega) _ _ _ _))
                    (first
                      | (go_at_call 10; (with_reducible refine (LAW.out _).mono ?_); rintro e wA ⟨rfl, hb⟩; (with_reducible first | have PA := BL.lo (BL.dr (BL.start wr)) hb | have PA := BL.lo (BL.dr (BL.al (BL.start wr) _)) hb); (try with_reducible first | have ZA := GK.lo (GK.dr (GK.new wr _ _ _ _)) hb); have hA := PA.out.b.size; clear hb)
                      | (go_at_call 7; (with_reducible first | refine (LN.out _ PA).mono ?_ | refine (LN.out _ (BL.al PA _)).mono ?_); rintro e wB ⟨v, rfl, ho, hb⟩; obtain ⟨vb, vd, rfl⟩ := own_len ho; (with_reducible first | have PB := BL.lo (PA) hb | have PB := BL.lo (BL.al PA _) hb); (try with_reducible first | have ZB := GK.lo (ZA) hb | have ZB := GK.lo (GK.new wA _ _ _ _) hb); have SB := Lib.hid (own_balls2 ho); have hB := PB.out.b.size; clear hb ho)
                      | (go_at_call 12; (with_reducible first | refine (RN.out _ _ _ SB.out).mono ?_ | refine (RN.out _ _ _ (SB.out.lo (below_al _ _))).mono ?_); rintro e wD ⟨xa, xn, xc, qa, qc, st, rfl, ho, hb⟩; (with_reducible first | have PD := BL.lo (PB) hb | have PD := BL.lo (BL.al PB _) hb); (try with_reducible first | (have hz := GK.lst (ZB) hb ho; have ZD := hz.1; have ED := hz.2; clear hz; have hf := GK.fz ZD; obtain ⟨⟨d0, d1, d2, d3⟩, z0, z1, z2, z3⟩ := hf) | (have hz := GK.lst (GK.new wB _ _ _ _) hb ho; have ZD := hz.1; have ED := hz.2; clear hz; have hf := GK.fz ZD; obtain ⟨⟨d0, d1, d2, d3⟩, z0, z1, z2, z3⟩ := hf)); have OD := Lib.hid ho; have hD := PD.out.b.size; clear hb ho))
                  all_goals
                    go_wp2_with fail
                    go_meet
                    first
                      | exact ⟨_, xa, xn, xc, qa, qc, st, true, rfl, rfl, BL.al PD _, GK.new wD _ _ _ _, Lib.hid (own_mono2 (own_al OD.out _) (Nat.zero_le _))⟩
                      | exact ⟨_, xa, xn, xc, qa, qc, st, true, rfl, rfl, BL.put PD (by omega) _ _ _ _, GK.put ZD, Lib.hid (own_mono2 (own_put2 OD.out ED.out _ _ _ _) (Nat.zero_le _))⟩
                case rest =>
                  obtain ⟨g16, xa, xn, xc, qa, qc, st, dn, rfl, rfl, B9, G9, O9⟩ := hcut
                  have BX := BL.lo HBL2 B9.out.b
                  have OO := Lib.hid (own_below HO2.out B9.out.b)
                  have hk := BL.law B9 AR
                  rw [← HF.out] at hk
                  obtain ⟨k0, k1, k2, k3⟩ := hk
                  obtain ⟨c0, c1, c2, c3⟩ := GK.at G9
                  obtain ⟨gq, cq, hv, _, _, _, _⟩ := own_form O9.out (by omega : 0 < F)
                  cases hv
                  have hlx := HLA.out
                  rw [← HF.out, Int.toNat_natCast] at hlx
                  have cq1 : wc.cell? ⟨gq, F - 1, none⟩ = some (.int .i64 t) := own_cell O9.out (F - 1) _ (by rw [List.getElem?_map, hlx]; rfl)
                  have hs1 : IntKind.i64.wrap ((F : Int) - 1) = (F : Int) - 1 := IntWalk.i64_in _ (by omega)
                  have hs2 : (0 : Int) ≤ (F : Int) - 1 := by omega
                  have hs3 : (F : Int) - 1 < (F : Int) := by omega
                  have hs4 : ((F : Int) - 1).toNat = F - 1 := by omega
                  have hnf : nf ≤ 6 := by have := HL2.out.2; omega
                  obtain ⟨i3, hi3, hy0, hy1, hy2⟩ := info_parts info3
                  clear hlx B9 HO2 HBL2 SP LN RN G9 O9 AR hcx
                  generalize wc = wy at BX OO k0 k1 k2 k3 c0 c1 c2 c3 cq1 ⊢
                  by_cases hgt : bs < t
                  · have e1 := Lib.hid (best_gt HB2.out HTJ.out hgt)
                    have OO := Lib.hid (World.ownsRow_nil wy w6.heap.size 3 1)
                    go_wp2_with (at_builtin; go_must (refine wpList_append_own_at _ rfl _ _ 28 rfl w6.heap.size 3 i3 (.int .i64 0) 1 8 Tryd.underlying28 hi3 hy0 hy1 hy2 rfl (by decide) _ 0 _ rfl (own_al OO.out _) ⟨wy.heap.size, 0, none⟩ 1 1 [.int .i64 (j : Int)] rfl rfl (World.news_of_block (heap_alloc_new wy _)) (by simp [Value.oneCell']) (by unfold maxLen; omega) (by omega) (Nat.le_trans BX.out.b.size (below_al wy _).size) ?_); intro v' wz hown' hgrow hnil hloc; have BZ := BL.grow (BL.al BX _) OO.out (Nat.le_refl _) hgrow; obtain ⟨za, zc, rfl⟩ := own_len hown'; have OZ := Lib.hid hown'; clear hown' hgrow hnil hloc)
                    go_roundg (i - (j + 1))
                    case measure => omega
                    case rel => exact ⟨j + 1, 1, t, za, zc, [(j : Int)], by omega, rfl, by simp, rfl, rfl, e1, OZ, BZ, Lib.hid ⟨rfl, by omega⟩⟩
                  · by_cases heq : t = bs
                    · have e1 := Lib.hid (best_eq HB2.out HTJ.out heq)
                      subst heq
                      go_wp2_with (at_builtin; go_must (refine wpList_append_own_at _ rfl _ _ 28 rfl w6.heap.size 3 i3 (.int .i64 0) 1 8 Tryd.underlying28 hi3 hy0 hy1 hy2 rfl (by decide) _ nf _ rfl (own_al OO.out _) ⟨wy.heap.size, 0, none⟩ 1 1 [.int .i64 (j : Int)] rfl rfl (World.news_of_block (heap_alloc_new wy _)) (by simp [Value.oneCell']) (by unfold maxLen; omega) (by omega) (Nat.le_trans BX.out.b.size (below_al wy _).size) ?_); intro v' wz hown' hgrow hnil hloc; have BZ := BL.grow (BL.al BX _) OO.out (Nat.le_refl _) hgrow; obtain ⟨za, zc, rfl⟩ := own_len hown'; have OZ := Lib.hid hown'; clear hown' hgrow hnil hloc)
                      go_roundg (i - (j + 1))
                      case measure => omega
                      case rel => exact ⟨j + 1, nf + 1, t, za, zc, FL ++ [(j : Int)], by omega, rfl, by simp, rfl, rfl, e1, Lib.hid (by rw [List.map_append]; exact OZ.out), BZ, Lib.hid ⟨by rw [List.length_append, HL2.out.1]; rfl, by have := HL2.out.2; omega⟩⟩
                    · have e1 := Lib.hid (best_lt HB2.out HTJ.out hgt heq)
                      go_wp2_with fail
                      go_roundg (i - (j + 1))
                      case measure => omega
                      case rel => exact ⟨j + 1, nf, bs, fa, fc, FL, by omega, rfl, by simp, rfl, rfl, e1, OO, BX, Lib.hid ⟨HL2.out.1, by have := HL2.out.2; omega⟩⟩
              · have hje : j = i := by omega
                have hq2 : ¬ (j : Int) < (i : Int) := by omega
                as_aux_lemma =>
                  subst hje
                  have hj1 : 1 ≤ j := by omega
                  have OK1 := OK.out
                  have hk := (okB_iff l).2 OK1
                  have hnn : ∀ t ∈ T, 0 ≤ t := by rw [← HFT.out]; exact finT_nn HG.out OK1
                  have hTL : T.length = j := by rw [← HFT.out, finT, List.length_map]; exact HDL.out
                  have wn2 := done_wn (T := T) (by omega)
                  have hRD : spR l DS = T.map fun t => (t, t) := by rw [← HFT.out]; exact HG.out.done OK1
                  have hRL2 : (spR l DS).length = j := by rw [spR, List.length_map]; exact HDL.out
                  have hdm := done_may (T := T) hnn
                  have hds := done_sure (T := T) hnn (by omega)
                  have hso3 := wn2.sure_one
                  rw [← hRD] at hdm hds hso3
                  rw [hTL, HB2.out] at hdm hds
                  rw [hRL2] at hso3
                  have hrd : ∀ p ∈ DS, rdE l p.2.2 = 0 := fun p hp => by
                    obtain ⟨s, hF, _⟩ := HG.out.dfo hp
                    exact hF.rd OK1
                  have AHD := Lib.hid (fun W (hs : SheetsAt W da DS) hT => ahead_good l OK1 DS da dc W hs (match_zero hk (by have := HDL.out; omega) (by have := HDL.out; omega) hrd) (spE_zero hrd) hT)
                  rw [HDL.out] at AHD
                  obtain ⟨P2, hP2⟩ : ∃ P2, selL sureI (spR l DS) j = P2 := ⟨_, rfl⟩
                  simp only at hdm
                  rw [hdm, hP2] at AHD
                  rw [hP2] at hso3 hds
                  obtain ⟨N3, hN3⟩ : ∃ N3, P2.length = N3 := ⟨_, rfl⟩
                  rw [hN3] at AHD hso3 hds
                  rw [HL2.out.1] at AHD
                  simp only at hds
                  rw [HL2.out.1] at hds
                  unfold Lw.val at AHD
                  have hnf : nf ≤ 6 := by have := HL2.out.2; omega
                  have HDS := Lib.hid hds
                  have HNF : Hid (FL.length = nf) := Lib.hid HL2.out.1
                  have won := WON.out
                  rw [HFT.out] at won
                  have WIN : Hid (∀ x ∈ FL, x ∈ L1 ∧ ∀ y, L2 = [y] → y = x) := Lib.hid (win_all HB2.out hTL won)
                  clear OK1 hk hnn hTL wn2 hRD hRL2 hdm hds hrd hP2 hN3 HG HDN HFT HB2 HL2 WON won
                  obtain ⟨k0, k1, k2, k3⟩ := WL.at AR
                  have F6 := Lib.hid (own_ballsAt HO2.out)
                  have M7 := Lib.hid (M6.out.lo HBL2.out.b)
                  have U7 := Lib.hid (U6.out.lo HBL2.out.b)
                  have S7 := Lib.hid (SD6.out.lo HBL2.out.b)
                  clear HO2 HBL2 M6 U6 SD6 A6
                  go_wp2_with fail
                  refine (LAW.out wr).mono ?_
                  rintro e w7 ⟨rfl, hb⟩
                  have A7 := WL.lo AR hb
                  have F7 := Lib.hid (F6.out.lo hb)
                  have M7 := Lib.hid (M7.out.lo hb)
                  have U7 := Lib.hid (U7.out.lo hb)
                  have S7 := Lib.hid (S7.out.lo hb)
                  clear hb k0 k1 k2 k3 F6 AR
                  go_wp2_with fail
                  refine (AHD.out w7 S7.out (HT.out.below A7.out.bl HT.out.pos)).mono ?_
                  rintro e w8 ⟨v1, v2, rfl, ho1, ho2, hb⟩
                  obtain ⟨pa, pc, rfl⟩ := own_len ho1
                  obtain ⟨sa, sc, rfl⟩ := own_len ho2
                  have A8 := WL.lo A7 hb
                  have M8 := Lib.hid (M7.out.lo hb)
                  have U8 := Lib.hid (U7.out.lo hb)
                  have F8 := Lib.hid (F7.out.lo hb)
                  have G8 := Lib.hid (own_ballsAt ho1)
                  clear hb ho1 ho2 M7 U7 F7 A7 S7 AHD
                  go_upto_region 29 with fail
                  go_cut [180] (fun s180 wx => s180 = .bool false ∧ Hid (BL w8 wx))
                  case first => as_aux_lemma =>
                    have hbb : (((nf : Int) == 1) = true ∧ ((N3 : Int) == 1) = true) ∨ (((nf : Int) == 1) = false ∧ ((N3 : Int) == 1) = false) := by
                      by_cases h : nf = 1
                      · have := HDS.out.2 h
                        left; constructor <;> simp <;> omega
                      · have : ¬ N3 = 1 := fun h2 => h (HDS.out.1 h2)
                        right; constructor <;> simp <;> omega
                    rcases hbb with ⟨b1, b2⟩ | ⟨b1, b2⟩
                    all_goals
                      go_wp2_with fail
                      refine (ints_same FL nf _ _ _ _ w8 HNF.out (by omega) G8.out F8.out).mono ?_
                      rintro e wX ⟨rfl, hg⟩
                      have hb := grown_belowN hg.out
                      have PX := BL.lo (BL.start w8) hb
                      clear hb hg
                      go_wp2_with fail
                      go_meet
                      exact ⟨rfl, PX⟩
                  case rest =>
                    obtain ⟨rfl, PA⟩ := hcut
                    have A9 := WL.lo A8 PA.out.b
                    have M9 := Lib.hid (M8.out.lo PA.out.b)
                    have U9 := Lib.hid (U8.out.lo PA.out.b)
                    have F9 := Lib.hid (F8.out.lo PA.out.b)
                    clear A8 M8 U8 F8 G8 PA
                    generalize wc = w9 at A9 M9 U9 F9 ⊢
                    go_wp2_with fail
                    go_loopg [22] nf (fun g s22 wx => ∃ (k : Nat), k ≤ nf ∧ g = nf - k ∧ s22 = .int .i64 (k : Int) ∧ Hid (BL w9 wx))
                    case atStart => exact ⟨0, by omega, rfl, rfl, BL.start w9⟩
                    case round =>
                      obtain ⟨k, hk, rfl, rfl, HB3⟩ := hrel
                      by_cases hkn : k < nf
                      · have hq0 : (0 : Int) ≤ (k : Int) := by omega
                        have hq1 : (k : Int) < (nf : Int) := by omega
                        have hw1 : IntKind.i64.wrap ((k : Int) + 1) = (k : Int) + 1 := IntWalk.i64_in _ (by omega)
                        obtain ⟨x, hx⟩ : ∃ x, FL[k]? = some x := ⟨FL[k]'(by rw [HNF.out]; exact hkn), List.getElem?_eq_getElem _⟩
                        have HXW := Lib.hid (WIN.out x (List.mem_of_getElem? hx))
                        obtain ⟨gf, of, hfa, hcf⟩ := F9.out k x hx
                        subst hfa
                        have HCF := Lib.hid hcf
                        clear hx hcf
                        generalize wr = wo at HB3 ⊢
                        go_wp2_with fail
                        go_loopg [23, 24] N1 (fun g s23 s24 wx => ∃ (m : Nat) (b : Bool), m ≤ N1 ∧ g = N1 - m ∧ s24 = .int .i64 (m : Int) ∧ s23 = .bool b ∧ Hid (b = (L1.take m).any (fun y => y == x)) ∧ Hid (BL wo wx))
                        case atStart => exact ⟨0, false, by omega, rfl, rfl, rfl, Lib.hid (by simp), BL.start wo⟩
                        case round =>
                          obtain ⟨m, b, hm, rfl, rfl, rfl, HBB, HB4⟩ := hrel
                          have HB5 := BL.lo HB3 HB4.out.b
                          have kx : wr.cell? ⟨gf, of + k, none⟩ = some (.int .i64 x) := below_cell HB5.out.b HCF.out
                          by_cases hmn : m < N1
                          · have m0 : (0 : Int) ≤ (m : Int) := by omega
                            have m1 : (m : Int) < (N1 : Int) := by omega
                            have hw2 : IntKind.i64.wrap ((m : Int) + 1) = (m : Int) + 1 := IntWalk.i64_in _ (by omega)
                            obtain ⟨y, hy⟩ : ∃ y, L1[m]? = some y := ⟨L1[m]'(by rw [HNN1.out]; exact hmn), List.getElem?_eq_getElem _⟩
                            obtain ⟨gm, om, hma, hcm⟩ := M9.out m y hy
                            subst hma
                            have ky : wr.cell? ⟨gm, om + m, none⟩ = some (.int .i64 y) := below_cell HB5.out.b hcm
                            have HST : Hid ((L1.take (m + 1)).any (fun y => y == x) = ((L1.take m).any (fun y => y == x) || (y == x))) := Lib.hid (by rw [List.take_add_one, hy]; simp [List.any_append])
                            have hyx : (decide (y = x)) = (y == x) := by by_cases h : y = x <;> simp [h]
                            have HYX := Lib.hid hyx
                            have HB6 := BL.dr HB4
                            have SPQ := Lib.hid (fun W (h : Hid (BL wr W)) => (show W.cell? ⟨gf, of + k, none⟩ = some (.int .i64 x) ∧ W.cell? ⟨gm, om + m, none⟩ = some (.int .i64 y) from ⟨below_cell h.out.b kx, below_cell h.out.b ky⟩))
                            clear hy hcm hyx
                            go_upto_region 38 with fail
                            cases b
                            · skip
                              clear HXW HB3 HB5 HCF HT WAK LAW M9 U9 F9 WIN A9 HDS HNF HSM
                              go_region_held3 (fun W => W.cell? ⟨gf, of + k, none⟩ = some (.int .i64 x) ∧ W.cell? ⟨gm, om + m, none⟩ = some (.int .i64 y))
                                (with_reducible first | exact ⟨kx, ky⟩ | exact SPQ.out _ (BL.dr (BL.start wr)))
                                (fail)
                              all_goals
                                go_wp2_with fail
                                go_roundg (N1 - (m + 1))
                                case measure => omega
                                case rel => exact ⟨m + 1, _, by omega, rfl, by simp, rfl, Lib.hid (by rw [HST.out, ← HBB.out]; simp), HB6⟩
                            · skip
                              go_wp2
                              refine wp_region_still_tail 12 (by kernel_rfl) (by kernel_rfl) ?_
                              simp only [List.take_succ_cons, List.take_zero, List.drop_succ_cons, List.drop_zero]
                              iterate 12 (with_reducible refine wpStill_step (fun K hK => ?_); go_simp; with_reducible refine hK _ ?_; clear hK K)
                              with_reducible refine wpStill_nil ?_
                              go_wp2_with fail
                              go_roundg (N1 - (m + 1))
                              case measure => omega
                              case rel => exact ⟨m + 1, _, by omega, rfl, by simp, rfl, Lib.hid (by rw [HST.out, ← HBB.out]; simp), HB6⟩
                          · have hme : m = N1 := by omega
                            have m2 : ¬ (m : Int) < (N1 : Int) := by omega
                            have hbt : b = true := by
                              rw [HBB.out, hme, ← HNN1.out, List.take_length, List.any_eq_true]
                              exact ⟨x, HXW.out.1, by simp⟩
                            subst hbt
                            clear hme
                            go_upto_region 39 with fail
                            go_cut [221] (fun s221 wx => s221 = .bool false ∧ Hid (BL wr wx))
                            case first => as_aux_lemma =>
                              have PD := BL.dr (BL.start wr)
                              by_cases h2 : N2 = 1
                              · obtain ⟨y, hy2⟩ := List.length_eq_one_iff.1 (HNN2.out.trans h2)
                                obtain ⟨gs, os, hua, hcs⟩ := U9.out 0 y (by rw [hy2]; rfl)
                                obtain rfl : y = x := HXW.out.2 y hy2
                                subst hua
                                rw [Nat.add_zero] at hcs
                                have ks : wr.cell? ⟨gs, os, none⟩ = some (.int .i64 y) := below_cell HB5.out.b hcs
                                subst h2
                                clear hy2 hcs
                                go_wp2
                                refine wp_region_still_tail 16 (by kernel_rfl) (by kernel_rfl) ?_
                                simp only [List.take_succ_cons, List.take_zero, List.drop_succ_cons, List.drop_zero]
                                iterate 16 (with_reducible refine wpStill_step (fun K hK => ?_); go_simp; with_reducible refine hK _ ?_; clear hK K)
                                with_reducible refine wpStill_nil ?_
                                go_wp2_with fail
                                go_meet
                                exact ⟨rfl, PD⟩
                              · have b2 : ((N2 : Int) == 1) = false := by simp; omega
                                go_wp2
                                refine wp_region_still_tail 16 (by kernel_rfl) (by kernel_rfl) ?_
                                simp only [List.take_succ_cons, List.take_zero, List.drop_succ_cons, List.drop_zero]
                                iterate 16 (with_reducible refine wpStill_step (fun K hK => ?_); go_simp; with_reducible refine hK _ ?_; clear hK K)
                                with_reducible refine wpStill_nil ?_
                                go_wp2_with fail
                                go_meet
                                exact ⟨rfl, PD⟩
                            case rest =>
                              obtain ⟨rfl, PA⟩ := hcut
                              have HB6 := BL.lo HB5 PA.out.b
                              go_wp2_with fail
                              go_roundg (nf - (k + 1))
                              case measure => omega
                              case rel => exact ⟨k + 1, by omega, rfl, by simp, HB6⟩
                      · have hke : k = nf := by omega
                        have hq2 : ¬ (k : Int) < (nf : Int) := by omega
                        have AZ := WL.lo A9 HB3.out.b
                        clear hke
                        go_wp2_with fail
                        refine (WAK.out _ (HT.out.below AZ.out.bl HT.out.pos)).mono ?_
                        rintro e wZ ⟨rfl, hb⟩
                        have BF := Lib.hid (AZ.out.bl.trans (hb.mono AZ.out.bl.size))
                        clear hb
                        go_wp2_with fail
                        go_ret
                        exact ⟨rfl, BF.out⟩
    · have hgt : (6 : Int) < (n : Int) := by omega
      go_enter Tryd.func3, Tryd.ntmps3
      go_wp2_with fail
      have A1 := WL.start w l
      generalize World.alloc w _ = w1 at A1 ⊢
      go_wp2_with fail
      refine (WAK.out _ (HT.out.below A1.out.bl HT.out.pos)).mono ?_
      rintro e wZ ⟨rfl, hb⟩
      have BF := Lib.hid (A1.out.bl.trans (hb.mono A1.out.bl.size))
      clear hb
      go_wp2_with fail
      go_ret
      exact ⟨rfl, BF.out⟩

end Go.Proofs.YtmjbidnlknmcgabDoor
