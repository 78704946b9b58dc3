/- The contracts of the reference's Finals and Span. -/
import Derived.Test.YtmjbidnlknmcgaaDoorTg
import Derived.Test.YtmjbidnlknmcgaaDoorTd
set_option linter.unusedVariables false
set_option linter.unusedSimpArgs false
namespace Go.Proofs.YtmjbidnlknmcgaaDoor
open Go.RowKit Go.Maps

/-- The numbers that are set, each greater by t. -/
def selB (N : Nat) (t : Int) : Nat → List Int
  | 0 => []
  | k + 1 => if N.testBit k = true then selB N t k ++ [t + (k : Int)] else selB N t k

theorem selB_yes {N : Nat} {t : Int} {k : Nat} (h : N.testBit k = true) : selB N t (k + 1) = selB N t k ++ [t + (k : Int)] := by rw [selB, if_pos h]
theorem selB_no {N : Nat} {t : Int} {k : Nat} (h : N.testBit k = false) : selB N t (k + 1) = selB N t k := by rw [selB, if_neg (by simp [h])]
theorem selB_len (N : Nat) (t : Int) : ∀ k, (selB N t k).length ≤ k
  | 0 => by simp [selB]
  | k + 1 => by
    have := selB_len N t k
    rw [selB]
    split
    · rw [List.length_append]; simp; omega
    · omega
theorem selB_mem {N : Nat} {t x : Int} : ∀ k, x ∈ selB N t k ↔ ∃ j : Nat, j < k ∧ N.testBit j = true ∧ x = t + (j : Int)
  | 0 => by simp [selB]
  | k + 1 => by
    have ih := selB_mem (N := N) (t := t) (x := x) k
    rw [selB]
    split
    · rename_i h
      rw [List.mem_append, ih]
      constructor
      · rintro (⟨j, h1, h2, h3⟩ | h1)
        · exact ⟨j, by omega, h2, h3⟩
        · simp at h1; exact ⟨k, by omega, h, h1⟩
      · rintro ⟨j, h1, h2, h3⟩
        by_cases e : j = k
        · subst e; exact .inr (by simp [h3])
        · exact .inl ⟨j, by omega, h2, h3⟩
    · rename_i h
      rw [ih]
      constructor
      · rintro ⟨j, h1, h2, h3⟩; exact ⟨j, by omega, h2, h3⟩
      · rintro ⟨j, h1, h2, h3⟩
        by_cases e : j = k
        · subst e; exact absurd h2 h
        · exact ⟨j, by omega, h2, h3⟩
theorem selB_head {N : Nat} {t : Int} (h : N.testBit 0 = true) : ∀ k, (selB N t (k + 1))[0]? = some t
  | 0 => by simp [selB, h]
  | k + 1 => by
    have ih := selB_head (t := t) h k
    rw [selB]
    split
    · have hl := (List.getElem?_eq_some_iff.1 ih).1
      rw [List.getElem?_append_left hl]; exact ih
    · exact ih
theorem selB_last {N : Nat} {t : Int} {L : Nat} (h0 : 0 < L) (h : N.testBit (L - 1) = true) : (selB N t L)[(selB N t L).length - 1]? = some (t + ((L - 1 : Nat) : Int)) := by
  obtain ⟨k, rfl⟩ : ∃ k, L = k + 1 := ⟨L - 1, by omega⟩
  rw [Nat.add_sub_cancel] at h ⊢
  rw [selB_yes h]
  simp

/-- The memory, new. -/
structure MM (w W : World) (bm : Nat) (l : Lw) : Prop where
  m : MT W (fun _ => False) bm l
  b : w.heap.size ≤ bm
theorem MM.lo {w W W' : World} {bm : Nat} {l : Lw} (h : Hid (MM w W bm l)) (hb : Below W.heap.size W W') : Hid (MM w W' bm l) := Lib.hid ⟨h.out.m.lo hb, h.out.b⟩
theorem MM.dr {w W : World} {bm : Nat} {l : Lw} (h : Hid (MM w W bm l)) : Hid (MM w W.drew bm l) := MM.lo h ⟨rfl, rfl, rfl, Nat.le_refl _, fun _ _ => rfl⟩
theorem MM.new {w W : World} (l : Lw) (h : Hid (BL w W)) : Hid (MM w (W.alloc (.map #[] 0)) W.heap.size l) :=
  Lib.hid ⟨⟨_, (World.ownsMap_made W Tryd.prog 105 sread).mono (by omega), goodT_empty _ _ l⟩, h.out.b.size⟩

/-- How far the numbers go. -/
structure TopB (L N : Nat) : Prop where
  lt : N < 2 ^ L
  pos : 0 < L
  le : L ≤ 1000
  top : N.testBit (L - 1) = true

set_option maxRecDepth 100000 in
set_option maxHeartbeats 16000000 in
theorem finals_ref (l : Lw) (bs : List Int) (a : Option Addr) (c : Nat) (w : World) (hs : BallsAt w a bs) (hc : bs.length ≤ c) (h : rdE l bs = 0) :
    Calls Tryd.prog 29 #[l.val, .slice a bs.length c] w fun e w' => ∃ v L, e = .returned v ∧ Hid (TopB L (Rs l (recS l bs).s)) ∧
      w'.ownsRow w.heap.size 3 1 v (selB (Rs l (recS l bs).s) (recS l bs).tot L).length ((selB (Rs l (recS l bs).s) (recS l bs).tot L).map (Value.int .i64)) ∧ Below w.heap.size w w' := by
  have ok := (recS_ok h).1
  have HS := Lib.hid hs
  have hv := (recS_best h).1.vd
  have htt := tot_in h
  have hRST := fun W bm (hm : MT W (fun _ => False) bm l) => rest_ref l ok bm _ (recS l bs).s W (fun _ => False) (Nat.lt_succ_self _) hv hm (fun k hk => hk.elim)
  have SUM := Lib.hid (fun W (hs : BallsAt W a bs) => sum_ref l bs a c W hs hc h)
  have TLR := Lib.hid (fun W (hs : BallsAt W a bs) => tail_ref l bs a c W hs h)
  obtain ⟨s, hs'⟩ : ∃ s, (recS l bs).s = s := ⟨_, rfl⟩
  rw [hs'] at hRST TLR ⊢
  obtain ⟨X, hX⟩ : ∃ X, (recS l bs).tot = X := ⟨_, rfl⟩
  rw [hX] at SUM htt ⊢
  obtain ⟨N, hN⟩ : ∃ N, Rs l s = N := ⟨_, rfl⟩
  obtain ⟨n, hn⟩ : ∃ n, bs.length = n := ⟨_, rfl⟩
  rw [hn] at SUM TLR ⊢
  have RST := Lib.hid (fun W bm (hm : MT W (fun _ => False) bm l) => show Calls Tryd.prog 56 #[l.val, tlv l s, .map (some bm)] W fun e W' => ∃ g m cc, e = .returned (.slice (some ⟨g, 0, none⟩) m cc) ∧ Hid (BitsAt W' g m N) ∧ Hid (W.grownBy W' (some bm)) from by
    refine (hRST W bm hm).mono ?_
    rintro e W' ⟨g, m, cc, h1, h2, -, -, h5⟩
    rw [hN] at h2
    exact ⟨g, m, cc, h1, h2, h5⟩)
  rw [hN]
  clear hRST hN hn hX hs' hv h ok hs
  obtain ⟨t, ht⟩ : ∃ t, refS l s = t := ⟨_, rfl⟩
  obtain ⟨x, hx⟩ : ∃ x, s.x = x := ⟨_, rfl⟩
  obtain ⟨y, hy⟩ : ∃ y, s.y = y := ⟨_, rfl⟩
  unfold tlv at TLR RST
  rw [ht, hx, hy] at TLR RST
  clear ht hx hy
  unfold Lw.val at *
  have hmm := @run_makeMap Tryd.prog
  go_enter Tryd.func29, Tryd.ntmps29
  go_upto_region 1 with fail
  have A1 := WL.start w l
  generalize World.alloc w _ = w1 at A1 ⊢
  have SP : Hid (∀ W, Hid (BL w1 W) → (W.cell? ⟨w.heap.size, 0, none⟩ = some (.int .i64 l.fr) ∧ W.cell? ⟨w.heap.size, 1, none⟩ = some (.int .i64 l.pn) ∧ W.cell? ⟨w.heap.size, 2, none⟩ = some (.int .i64 l.bl) ∧ W.cell? ⟨w.heap.size, 3, none⟩ = some (.int .i64 l.tp))) := Lib.hid (fun W h => BL.law h A1)
  have SM := Lib.hid (fun W (h : Hid (BL w1 W)) => SUM.out W (HS.out.lo (A1.out.bl.trans (h.out.b.mono A1.out.bl.size))))
  have TL1 := Lib.hid (fun W (h : Hid (BL w1 W)) => TLR.out W (HS.out.lo (A1.out.bl.trans (h.out.b.mono A1.out.bl.size))))
  have RS : Hid (∀ W bm, Hid (BL w1 W) → Hid (MM w1 W bm l) → Calls Tryd.prog 56 #[.agg #[.int .i64 l.fr, .int .i64 l.pn, .int .i64 l.bl, .int .i64 l.tp], .agg #[.int .i64 t.f, .int .i64 t.b, .int .i64 t.s, .bool t.set, .int .i64 t.has, .int .i64 x, .int .i64 y], .map (some bm)] W fun e W' => ∃ g m cc, e = .returned (.slice (some ⟨g, 0, none⟩) m cc) ∧ Hid (BitsAt W' g m N) ∧ Hid (BL w1 W')) := Lib.hid (fun W bm hB hM => by
    refine (RST.out W bm hM.out.m).mono ?_
    rintro e W' ⟨g, m, cc, h1, h2, h3⟩
    have hmb := hM.out.b
    exact ⟨g, m, cc, h1, h2, Lib.hid ⟨hB.out.b.grown h3.out hB.out.b.size (fun k e => by cases e; exact hmb)⟩⟩)
  clear SUM TLR RST
  go_cut [5, 6] (fun s5 s6 wx => ∃ (g m cc : Nat), s5 = .int .i64 X ∧ s6 = .slice (some ⟨g, 0, none⟩) m cc ∧ Hid (BitsAt wx g m N) ∧ Hid (BL w1 wx))
  case first =>
    clear A1 HS htt hc
    go_region_held3 (fun W => W.cell? ⟨w.heap.size, 0, none⟩ = some (.int .i64 l.fr) ∧ W.cell? ⟨w.heap.size, 1, none⟩ = some (.int .i64 l.pn) ∧ W.cell? ⟨w.heap.size, 2, none⟩ = some (.int .i64 l.bl) ∧ W.cell? ⟨w.heap.size, 3, none⟩ = some (.int .i64 l.tp))
      (with_reducible first | exact SP.out _ (BL.dr (BL.start w1)) | exact SP.out _ (BL.dr (BL.al (BL.start w1) _)) | exact SP.out _ PA | exact SP.out _ (BL.al PA _) | exact SP.out _ PB | exact SP.out _ (BL.al PB _) | exact SP.out _ PC)
      (first
        | (go_at_call 55; (with_reducible refine (SM.out _ (BL.dr (BL.start w1))).mono ?_); rintro e wA ⟨rfl, hb⟩; have PA := BL.lo (BL.dr (BL.start w1)) hb; clear hb)
        | (go_at_call 55; (with_reducible refine (SM.out _ (BL.dr (BL.al (BL.start w1) _))).mono ?_); rintro e wA ⟨rfl, hb⟩; have PA := BL.lo (BL.dr (BL.al (BL.start w1) _)) hb; have MA := MM.lo (MM.dr (MM.new l (BL.start w1))) hb; clear hb)
        | (go_at_call 57; (with_reducible refine (TL1.out _ PA).mono ?_); rintro e wB ⟨rfl, hb⟩; have PB := BL.lo PA hb; (try have MB := MM.lo MA hb); clear hb)
        | (go_at_call 57; (with_reducible refine (TL1.out _ (BL.al PA _)).mono ?_); rintro e wB ⟨rfl, hb⟩; have PB := BL.lo (BL.al PA _) hb; have MB := MM.lo (MM.new l PA) hb; clear hb)
        | (go_at_call 56; (with_reducible refine (RS.out _ _ PB MB).mono ?_); rintro e wC ⟨g, m, cc, rfl, BA, PC⟩)
        | (go_at_call 56; (with_reducible refine (RS.out _ _ (BL.al PB _) (MM.new l PB)).mono ?_); rintro e wC ⟨g, m, cc, rfl, BA, PC⟩))
    all_goals
      go_wp2_with fail
      go_meet
      exact ⟨g, m, cc, rfl, rfl, BA, PC⟩
  case rest =>
    obtain ⟨g, m, cc, rfl, rfl, BA, PC⟩ := hcut
    clear SP SM TL1 RS hmm
    generalize wc = w2 at BA PC ⊢
    have A2 := WL.lo A1 PC.out.b
    have hm1 := BA.out.le
    clear A1 PC
    obtain ⟨i3, hi3, hy0, hy1, hy2⟩ := info_parts info3
    go_wp2_with fail
    go_loopg [7, 8] m (fun gg s7 s8 wx => ∃ (k na : Nat) (oa : Option Addr) (oc : Nat), k ≤ m ∧ gg = m - k ∧ s8 = .int .i64 (k : Int) ∧ s7 = .slice oa na oc ∧ Hid ((selB N X k).length = na) ∧ Hid (wx.ownsRow w2.heap.size 3 1 (.slice oa na oc) na ((selB N X k).map (Value.int .i64))) ∧ Hid (BL w2 wx))
    case atStart => exact ⟨0, 0, none, 0, by omega, rfl, rfl, rfl, Lib.hid rfl, Lib.hid (World.ownsRow_nil _ _ _ _), BL.start w2⟩
    case round =>
      obtain ⟨k, na, oa, oc, hk, rfl, rfl, rfl, hL, hO, hB⟩ := hrel
      by_cases hkm : k < m
      · have hk0 : (0 : Int) ≤ (k : Int) := by omega
        have hk1 : (k : Int) < (m : Int) := by omega
        have hw1 : IntKind.i64.wrap ((k : Int) + 1) = (k : Int) + 1 := IntWalk.i64_in _ (by omega)
        have hw2 : IntKind.i64.wrap (X + (k : Int)) = X + (k : Int) := IntWalk.i64_in _ (by omega)
        have cb : wr.cell? ⟨g, k, none⟩ = some (.bool (N.testBit k)) := below_cell hB.out.b (BA.out.c k hkm)
        have hna : na ≤ 1000 := by have h1 := hL.out; have h2 := selB_len N X k; omega
        cases hbit : N.testBit k
        · rw [hbit] at cb
          have HB := Lib.hid (selB_no (t := X) hbit)
          clear hbit
          go_wp2_with fail
          go_roundg (m - (k + 1))
          case measure => omega
          case rel => exact ⟨k + 1, na, oa, oc, by omega, rfl, by simp, rfl, Lib.hid (by rw [HB.out]; exact hL.out), Lib.hid (by rw [HB.out]; exact hO.out), hB⟩
        · rw [hbit] at cb
          have HB := Lib.hid (selB_yes (t := X) hbit)
          clear hbit
          go_wp2_with (at_builtin; go_must (refine wpList_append_own_at _ rfl _ _ 24 rfl w2.heap.size 3 i3 (.int .i64 0) 1 8 Tryd.underlying24 hi3 hy0 hy1 hy2 rfl (by decide) _ na _ rfl (own_al hO.out _) ⟨wr.heap.size, 0, none⟩ 1 1 [.int .i64 (X + (k : Int))] rfl rfl (World.news_of_block (heap_alloc_new wr _)) (by simp [Value.oneCell']) (by unfold maxLen; omega) (by omega) (Nat.le_trans hB.out.b.size (below_al wr _).size) ?_); intro v' w9 hown' hgrow hnil hloc; have B9 := BL.grow (BL.al hB _) hO.out (Nat.le_refl _) hgrow; obtain ⟨va, vc, rfl⟩ := own_len hown'; have O9 := Lib.hid hown'; clear hown' hgrow hnil hloc)
          go_roundg (m - (k + 1))
          case measure => omega
          case rel => exact ⟨k + 1, na + 1, va, vc, by omega, rfl, by simp, rfl, Lib.hid (by rw [HB.out, List.length_append, hL.out]; rfl), Lib.hid (by rw [HB.out, List.map_append]; exact O9.out), B9⟩
      · have hke : k = m := by omega
        subst hke
        have hk1 : ¬ (k : Int) < (k : Int) := by omega
        go_wp2_with fail
        go_returns
        refine ⟨_, rfl, k, Lib.hid ⟨BA.out.lt, BA.out.pos, BA.out.le, BA.out.top⟩, ?_, A2.out.bl.trans (hB.out.b.mono A2.out.bl.size)⟩
        have h1 := own_lower hO.out A2.out.bl.size
        rw [hL.out]
        exact h1

/-- A range's block, of the reference. -/
structure RG3 (W : World) (b : Nat) (lo hi : Int) : Prop where
  blk : W.heap[b]? = some (.cells #[.int .i64 lo, .int .i64 hi] 53 (0, 0))
theorem RG3.lo' {W W' : World} {b : Nat} {lo hi : Int} (h : Hid (RG3 W b lo hi)) (hb : Below W.heap.size W W') : Hid (RG3 W' b lo hi) := Lib.hid ⟨(hb.block _ (lt_of_block h.out.blk)).trans h.out.blk⟩
theorem RG3.at {W : World} {b : Nat} {lo hi : Int} (h : Hid (RG3 W b lo hi)) : W.cell? ⟨b, 0, none⟩ = some (.int .i64 lo) ∧ W.cell? ⟨b, 1, none⟩ = some (.int .i64 hi) := by
  have h := h.out.blk
  exact ⟨by simp [World.cell?, h], by simp [World.cell?, h]⟩
theorem RG3.fz {W : World} {b : Nat} {lo hi : Int} (h : Hid (RG3 W b lo hi)) : W.frozen? ⟨b, 0, none⟩ = false ∧ W.frozen? ⟨b, 1, none⟩ = false := by
  have h := h.out.blk
  exact ⟨by simp [World.frozen?, h], by simp [World.frozen?, h]⟩
theorem RG3.dr {W : World} {b : Nat} {lo hi : Int} (h : Hid (RG3 W b lo hi)) : Hid (RG3 W.drew b lo hi) := RG3.lo' h ⟨rfl, rfl, rfl, Nat.le_refl _, fun _ _ => rfl⟩
theorem RG3.new (W : World) (lo hi : Int) : Hid (RG3 (W.alloc (.cells #[.int .i64 lo, .int .i64 hi] 53)) W.heap.size lo hi) := Lib.hid ⟨heap_alloc_new W _⟩
theorem RG3.put {W : World} {b : Nat} {lo hi : Int} (h : Hid (RG3 W b lo hi)) (lo' hi' : Int) : Hid (RG3 ((W.setCell ⟨b, 0, none⟩ (.int .i64 lo')).setCell ⟨b, 1, none⟩ (.int .i64 hi')) b lo' hi') :=
  Lib.hid ⟨by simpa using blk_setCell (blk_setCell h.out.blk 0 (.int .i64 lo')) 1 (.int .i64 hi')⟩

theorem top_best {l : Lw} {s : Sd} {L : Nat} (ok : l.Ok) (v : Vr l s) (h : TopB L (Rs l s)) : ((L - 1 : Nat) : Int) = bestV l s := by
  have h1 := Rs_le ok _ s (Nat.lt_succ_self _) v (L - 1) h.top
  have h2 := Rs_top ok _ s (Nat.lt_succ_self _) v
  have h3 := best_nn v ok
  have h4 := h.pos
  by_cases e : (bestV l s).toNat < L
  · omega
  · have h5 := Nat.testBit_lt_two_pow (Nat.lt_of_lt_of_le h.lt (Nat.pow_le_pow_right (by omega) (Nat.le_of_not_lt e)))
    rw [h5] at h2
    cases h2

set_option maxRecDepth 100000 in
set_option maxHeartbeats 16000000 in
theorem spanR_ref (l : Lw) (bs : List Int) (a : Option Addr) (c : Nat) (w : World) (hs : BallsAt w a bs) (hc : bs.length ≤ c) (h : rdE l bs = 0) :
    Calls Tryd.prog 27 #[l.val, .slice a bs.length c] w fun e w' => e = .returned (.agg #[.int .i64 (spLo l bs), .int .i64 (spHi l bs)]) ∧ Below w.heap.size w w' := by
  have FIN := Lib.hid (fun W (hs : BallsAt W a bs) => finals_ref l bs a c W hs hc h)
  have HS := Lib.hid hs
  have hbe := recS_best h
  have TB := Lib.hid (fun L hL => top_best (L := L) (recS_ok h).1 hbe.1 hL)
  have Z0 := Lib.hid (Rs_zero (recS_ok h).1 _ (recS l bs).s (Nat.lt_succ_self _) hbe.1.vd)
  have htt := tot_in h
  obtain ⟨e1, e2⟩ := span_val h
  rw [e1, e2]
  have hbb := hbe.2
  generalize bestV l (recS l bs).s = B at TB hbb ⊢
  generalize Rs l (recS l bs).s = N at FIN TB Z0
  generalize (recS l bs).tot = X at FIN htt hbb ⊢
  obtain ⟨n, hn⟩ : ∃ n, bs.length = n := ⟨_, rfl⟩
  rw [hn] at FIN ⊢
  clear hs h hbe e1 e2 hn
  unfold Lw.val at *
  go_enter Tryd.func27, Tryd.ntmps27
  go_upto_region 1 with fail
  have A1 := WL.al (WL.start w l) (.cells #[.int .i64 0, .int .i64 0] 53)
  have R1 : Hid ((World.alloc (World.alloc w (.cells #[.int .i64 l.fr, .int .i64 l.pn, .int .i64 l.bl, .int .i64 l.tp] 23)) (.cells #[.int .i64 0, .int .i64 0] 53)).heap[w.heap.size + 1]? = some (.cells #[.int .i64 0, .int .i64 0] 53 (0, 0))) := Lib.hid (by
    have e : w.heap.size + 1 = (w.alloc (.cells #[.int .i64 l.fr, .int .i64 l.pn, .int .i64 l.bl, .int .i64 l.tp] 23)).heap.size := by simp
    rw [e]
    exact heap_alloc_new _ _)
  generalize World.alloc (World.alloc w _) _ = w1 at A1 R1 ⊢
  obtain ⟨k0, k1, k2, k3⟩ := WL.at A1
  go_wp2_with fail
  refine (FIN.out w1 (HS.out.lo A1.out.bl)).mono ?_
  rintro e w2 ⟨v, L, rfl, hT, ho, hb⟩
  have hb0 := selB_head (t := X) Z0.out (L - 1)
  have hbl := selB_last (t := X) hT.out.pos hT.out.top
  rw [show L - 1 + 1 = L from by have := hT.out.pos; omega] at hb0
  rw [TB.out L hT.out] at hbl
  have hlen := selB_len N X L
  have hL1 := hT.out.le
  have hpos : 0 < (selB N X L).length := (List.getElem?_eq_some_iff.1 hb0).1
  obtain ⟨q, hq⟩ : ∃ q, (selB N X L).length = q + 1 := ⟨(selB N X L).length - 1, by omega⟩
  rw [hq] at ho hbl hlen
  rw [Nat.add_sub_cancel] at hbl
  obtain ⟨g, cap, rfl, hg1, _, _, _⟩ := own_form ho (by omega)
  have c0 := own_cell ho 0 _ (show ((selB N X L).map (Value.int .i64))[0]? = some (.int .i64 X) by rw [List.getElem?_map, hb0]; rfl)
  have cq := own_cell ho q _ (show ((selB N X L).map (Value.int .i64))[q]? = some (.int .i64 (X + B)) by rw [List.getElem?_map, hbl]; rfl)
  have A2 := WL.lo A1 hb
  have R2 : Hid (w2.heap[w.heap.size + 1]? = some (.cells #[.int .i64 0, .int .i64 0] 53 (0, 0))) := Lib.hid ((hb.block _ (lt_of_block R1.out)).trans R1.out)
  have r0 : w2.cell? ⟨w.heap.size + 1, 0, none⟩ = some (.int .i64 0) := by have h := R2.out; simp [World.cell?, h]
  have r1 : w2.cell? ⟨w.heap.size + 1, 1, none⟩ = some (.int .i64 0) := by have h := R2.out; simp [World.cell?, h]
  have f0 : w2.frozen? ⟨w.heap.size + 1, 0, none⟩ = false := by have h := R2.out; simp [World.frozen?, h]
  have f1 : w2.frozen? ⟨w.heap.size + 1, 1, none⟩ = false := by have h := R2.out; simp [World.frozen?, h]
  have hw1 : IntKind.i64.wrap (((q + 1 : Nat) : Int) - 1) = (q : Int) := by rw [IntWalk.i64_in _ (by omega)]; omega
  have hw1b : IntKind.i64.wrap ((q : Int) + 1 - 1) = (q : Int) := by rw [IntWalk.i64_in _ (by omega)]; omega
  have hw1c : IntKind.i64.wrap (q : Int) = (q : Int) := IntWalk.i64_in _ (by omega)
  have hq0 : (0 : Int) ≤ (q : Int) := by omega
  have hq1 : (q : Int) < ((q + 1 : Nat) : Int) := by omega
  have hq2 : (q : Int) < (q : Int) + 1 := by omega
  have hq3 : (0 : Int) < ((q + 1 : Nat) : Int) := by omega
  have hq4 : (0 : Int) < (q : Int) + 1 := by omega
  clear hT ho hb0 hbl hpos hq hlen FIN TB Z0 A1 R1 k0 k1 k2 k3
  go_wp2
  go_still_tail 10, (by kernel_rfl)
  go_wp2_with fail
  have RP := RG3.dr (RG3.put (Lib.hid (RG3.mk R2.out)) X (X + B))
  have BP := BL.dr (Lib.hid (BL.mk ((A2.out.bl.setCell (p := ⟨w.heap.size + 1, 0, none⟩) (Nat.le_succ _) (.int .i64 X)).setCell (p := ⟨w.heap.size + 1, 1, none⟩) (Nat.le_succ _) (.int .i64 (X + B)))))
  clear c0 cq r0 r1 f0 f1 R2 A2
  generalize World.drew _ = W9 at RP BP ⊢
  obtain ⟨c0, c1⟩ := RG3.at RP
  refine bodyPost_ret (v := .agg #[.int .i64 X, .int .i64 (X + B)]) (by simp [results, Tryd.results27, go_sem, c0, c1]) rfl ?_
  exact ⟨rfl, BP.out.b⟩

end Go.Proofs.YtmjbidnlknmcgaaDoor
