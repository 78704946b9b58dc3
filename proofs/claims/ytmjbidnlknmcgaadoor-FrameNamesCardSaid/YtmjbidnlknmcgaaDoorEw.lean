/- The contract of the law FrameEndings. -/
import Derived.Test.YtmjbidnlknmcgaaDoorSv
import Derived.Test.YtmjbidnlknmcgaaDoorEe
set_option linter.unusedVariables false
set_option linter.unusedSimpArgs false
namespace Go.Proofs.YtmjbidnlknmcgaaDoor
open Go.RowKit

/-- A range's block. -/
structure SK (W : World) (g : Nat) (lo hi : Int) : Prop where
  blk : W.heap[g]? = some (.cells #[.int .i64 lo, .int .i64 hi] 50 (0, 0))
theorem SK.lo {W W' : World} {g : Nat} {lo hi : Int} (h : Hid (SK W g lo hi)) (hb : Below W.heap.size W W') : Hid (SK W' g lo hi) := Lib.hid ⟨(hb.block _ (lt_of_block h.out.blk)).trans h.out.blk⟩
theorem SK.new (W : World) (lo hi : Int) : Hid (SK (W.alloc (.cells #[.int .i64 lo, .int .i64 hi] 50)) W.heap.size lo hi) := Lib.hid ⟨heap_alloc_new W _⟩
theorem SK.dr {W : World} {g : Nat} {lo hi : Int} (h : Hid (SK W g lo hi)) : Hid (SK W.drew g lo hi) := SK.lo h ⟨rfl, rfl, rfl, Nat.le_refl _, fun _ _ => rfl⟩
theorem SK.at {W : World} {g : Nat} {lo hi : Int} (h : Hid (SK W g lo hi)) : (W.cell? ⟨g, 0, none⟩ = some (.int .i64 lo) ∧ W.cell? ⟨g, 1, none⟩ = some (.int .i64 hi)) ∧ W.frozen? ⟨g, 0, none⟩ = false ∧ W.frozen? ⟨g, 1, none⟩ = false := by
  have h := h.out.blk
  exact ⟨⟨by simp [World.cell?, h], by simp [World.cell?, h]⟩, by simp [World.frozen?, h], by simp [World.frozen?, h]⟩
theorem SK.put {W : World} {g : Nat} {lo hi : Int} (h : Hid (SK W g lo hi)) (lo' hi' : Int) : Hid (SK ((W.setCell ⟨g, 0, none⟩ (.int .i64 lo')).setCell ⟨g, 1, none⟩ (.int .i64 hi')) g lo' hi') :=
  Lib.hid ⟨by simpa using blk_setCell (blk_setCell h.out.blk 0 (.int .i64 lo')) 1 (.int .i64 hi')⟩
theorem BL.put2 {w W : World} (h : Hid (BL w W)) {g : Nat} (hg : w.heap.size ≤ g) (a b : Value) : Hid (BL w ((W.setCell ⟨g, 0, none⟩ a).setCell ⟨g, 1, none⟩ b)) :=
  Lib.hid ⟨(h.out.b.setCell (p := ⟨g, 0, none⟩) hg a).setCell (p := ⟨g, 1, none⟩) hg b⟩

/-- Read of a whole game. -/
theorem rd_whole {l : Lw} {ys : List Int} {s : Sd} {F : Nat} (h : FO l ys s) (ok : l.Ok) (hf : s.f = l.fr) (hF : (F : Int) = l.fr) (a : Option Addr) (c : Nat) (W : World) (hs : BallsAt W a ys) :
    Calls Tryd.prog 23 #[l.val, .slice a ys.length c] W fun e w' => ∃ fa fn fc qa qc st, e = .returned (.tuple #[.agg #[.slice fa fn fc, .slice qa F qc, .int .i64 st, .bool true], .int .i64 0]) ∧
      w'.ownsRow W.heap.size 3 1 (.slice qa F qc) F ((rdM l ys).map (Value.int .i64)) ∧ Below W.heap.size W w' := by
  have hr := h.rd ok
  refine (rd_good l ys a c W hs hr).mono ?_
  rintro e w' ⟨fv, qv, rfl, ⟨base, cv, vs, how, hln, _⟩, ⟨base2, hq, hq2⟩, hb⟩
  have o24 := how.own (24, fv, vs) (by simp [items])
  simp only at o24
  obtain ⟨fa, fc, rfl⟩ := own_len o24
  have e2 : setL l (recS l ys) = rdM l ys := by simp [rdM, hr]
  have e3 : (rdM l ys).length = F := by have := set_done h ok hf; omega
  have e4 : (recS l ys).s.f = l.fr := by rw [← hf, ← h.s]; rfl
  rw [e2, e3] at hq
  obtain ⟨qa, qc, rfl⟩ := own_len hq
  refine ⟨fa, vs.length, fc, qa, qc, (recS l ys).s.s, ?_, own_mono hq hq2, hb⟩
  simp [gameV, e4]

section
variable {P : Program} (w : World)
/-- 'append(s, b...)', whatever b is: nil or a row. -/
theorem wpList_append_any {ops : Array Oper} {rest : List Oper} {o : Oper} {a : Act} {Q : Exit → Act → World → Prop} (hgd : o.guard = none) (s x : Operand) (t : TypeId)
    (ho : o.op = .call { callee := .builtin .append, args := #[s, x], argTypes := #[t, t] })
    (base : Nat) (e : TypeId) (i : TypeInfo) (z : Value) (size bytes : Nat) (ht : P.underlying t = some (.slice e)) (hi : P.info? e = some i) (hz : i.zero = some z)
    (hsize : i.size = size) (hby : i.bytes = bytes) (hzs : z.cells.size = size) (hsz : 0 < size)
    (v : Value) (n : Nat) (xs : List Value) (hs : a.eval s = v) (hown : w.ownsRow base e size v n xs)
    (xa : Option Addr) (m c : Nat) (news : List Value) (hx : a.eval x = .slice xa m c) (hnil : xa = none → m = 0 ∧ c = 0 ∧ news = []) (hl : news.length = m * size) (hnews : ∀ ad, xa = some ad → ∀ j u, news[j]? = some u → w.cell? (ad.add j) = some u) (h1 : ∀ u ∈ news, u.oneCell' = true)
    (h63 : n + m ≤ maxLen) (hbytes : (n + m) * bytes ≤ 140737488355328) (hbase : base ≤ w.heap.size)
    (h : ∀ v' w', w'.ownsRow base e size v' (n + m) (xs ++ news) → w.grownBy w' v.ownBlock → (v'.ownBlock = v.ownBlock ∨ v'.ownBlock = some w.heap.size) → wpList P ops Q rest (a.put o.dst v') w') :
    wpList P ops Q (o :: rest) a w := by
  cases xa with
  | none =>
    obtain ⟨rfl, rfl, rfl⟩ := hnil rfl
    refine wpList_append_none w hgd s x t ho base e i size ht hi v n xs hs hown hx ?_
    exact h v w (by simpa using hown) (World.grownBy.refl w _) (.inl rfl)
  | some ad =>
    refine wpList_append_own_at w hgd s x t ho base e i z size bytes ht hi hz hsize hby hzs hsz v n xs hs hown ad m c news hx hl (hnews ad rfl) h1 h63 hbytes hbase ?_
    intro v' w1 h2 h3 _ h5
    exact h v' w1 h2 h3 h5
end

/-- The round before. -/
def lastT (b j : Nat) : Nat := if j = b then b else j - 1
theorem lastT_succ {b j : Nat} (h : b ≤ j) : lastT b (j + 1) = j := by
  unfold lastT
  rw [if_neg (by omega)]
  omega
theorem sx_last {l : Lw} {ys : List Int} {b j : Nat} (h : SX l ys) (hb : b ≤ j) (hj : j ≤ ys.length) : spLo l (ys.take (lastT b j)) ≤ spLo l (ys.take j) ∧ spHi l (ys.take j) ≤ spHi l (ys.take (lastT b j)) := by
  unfold lastT
  split
  · rename_i e
    subst e
    exact ⟨Int.le_refl _, Int.le_refl _⟩
  · have h1 := h.lo (j - 1) (by omega)
    have h2 := h.hi (j - 1) (by omega)
    have e : j - 1 + 1 = j := by omega
    rw [e] at h1 h2
    exact ⟨h1, h2⟩
theorem tab_bl {w W : World} (h : Hid (TabOK w)) (b : Hid (BL w W)) : TabOK W := h.out.below b.out.b h.out.pos

theorem own_nil {w : World} {base m c : Nat} {a : Option Addr} {xs : List Value} (h : w.ownsRow base 3 1 (.slice a m c) m xs) : a = none → m = 0 ∧ c = 0 ∧ xs = [] := by
  rintro rfl
  rcases h.2 with ⟨h1, h2⟩ | ⟨g, cap, cur, h1, _⟩
  · cases h1
    exact ⟨rfl, rfl, List.eq_nil_of_length_eq_zero (by rw [h.1])⟩
  · cases h1
theorem own_news {w : World} {base m c : Nat} {a : Option Addr} {xs : List Int} (h : w.ownsRow base 3 1 (.slice a m c) m (xs.map (Value.int .i64))) : ∀ ad, a = some ad → ∀ j u, (xs.map (Value.int .i64))[j]? = some u → w.cell? (ad.add j) = some u := by
  rintro ad rfl
  exact balls_news (own_ballsAt h)

set_option maxRecDepth 100000 in
set_option maxHeartbeats 100000000 in
theorem endings_law (l : Lw) (bs : List Int) (a : Option Addr) (c : Nat) (wa : Option Addr) (ws : List Int) (wcp : Nat) (w : World) (hs : SheetAt w a c bs) (hw : WordsAt w wa ws) (hwl : (ws.length : Int) ≤ 9223372036854775807) (hT : TabOK w) :
    Calls Tryd.prog 9 #[l.val, .slice a bs.length c, .slice wa ws.length wcp] w fun e w' => e = .returned (.bool true) ∧ Below w.heap.size w w' := by
  have HT := Lib.hid hT
  have HS := Lib.hid hs
  have HW := Lib.hid hw
  have WAK := Lib.hid wakes_any
  have RDY := Lib.hid (ready_any l bs)
  clear hT hs hw
  by_cases he : rdE l bs = 0
  · have hd : decide (rdE l bs = 0) = true := by simp [he]
    rw [hd] at RDY
    have END := Lib.hid (fun w hs hw => endd_any l bs a c wa ws wcp w he hs hw hwl)
    have OK := Lib.hid (recS_ok he).1
    have hlen : bs.length ≤ 40 := (errS_zero (rdE_zero he).1).2
    have LST := Lib.hid (fun w h => list_any bs a c w h (by omega))
    have LAW := Lib.hid (law_any l)
    have RDW := Lib.hid (fun ys s F h hf hF a c W hs => rd_whole (l := l) (ys := ys) (s := s) (F := F) h OK.out hf hF a c W hs)
    have SPN := Lib.hid (fun bs h a c W hs hT => span_good l bs a c W hs hT h)
    have SHG := Lib.hid (fun n a c W hs => sh_good l bs a c n W hs he)
    have HE := Lib.hid he
    clear hd he hwl
    unfold Lw.val at *
    go_enter Tryd.func9, Tryd.ntmps9
    go_wp2_with fail
    have A1 := WL.start w l
    generalize World.alloc w _ = w1 at A1 ⊢
    obtain ⟨k0, k1, k2, k3⟩ := WL.at A1
    go_wp2_with fail
    refine (RDY.out a c w1 (HS.out.1.lo A1.out.bl)).mono ?_
    rintro e w2 ⟨rfl, hb⟩
    have A2 := WL.lo A1 hb
    clear hb A1 k0 k1 k2 k3
    obtain ⟨k0, k1, k2, k3⟩ := WL.at A2
    go_wp2_with fail
    refine (END.out w2 (HS.out.lo A2.out.bl) (words_lo HW.out A2.out.bl)).mono ?_
    rintro e w3 ⟨ys, v, rfl, ho, ⟨xs, hxs⟩, ⟨s, hFO, hsf⟩, hb⟩
    have A3 := WL.lo A2 hb
    have h30 : ys.length ≤ 30 := by have := hFO.len OK.out; omega
    have h0 : 0 < ys.length := fo_pos hFO OK.out hsf
    obtain ⟨gy, vc, hv, hg0, hg1, hg2, hg3⟩ := own_form ho h0
    subst hv
    have Y3 := Lib.hid (own_sheet ho)
    have hcz : ¬ vc = 0 := by omega
    obtain ⟨F1, hF1⟩ : ∃ F1 : Nat, l.fr = (F1 : Int) + 1 := ⟨(l.fr - 1).toNat, by have := OK.out.f1; omega⟩
    obtain ⟨F, hF⟩ : ∃ F : Nat, F = F1 + 1 := ⟨_, rfl⟩
    have hFl : (F : Int) = l.fr := by omega
    have RWY := Lib.hid (RDW.out ys s F hFO hsf hFl)
    have hTL := tot_last hFO OK.out hsf
    have hix : l.fr.toNat - 1 = F1 := by omega
    rw [hix] at hTL
    have SXX := Lib.hid (sx_of hFO OK.out)
    obtain ⟨hd1, hd2⟩ := sp_done hFO OK.out hsf
    have hbl : bs.length + xs.length = ys.length := by rw [← hxs]; simp
    have htb : ys.take bs.length = bs := by rw [← hxs]; simp
    have hty : ys.take ys.length = ys := List.take_length
    have hmn := SXX.out.mono bs.length xs.length (by omega)
    rw [hbl, htb, hty, hd1, hd2] at hmn
    have hSL := Lib.hid (sh_lo HE.out)
    have hSH := Lib.hid (sh_hi HE.out)
    obtain ⟨fin, hfin⟩ : ∃ fin, (recS l ys).tot = fin := ⟨_, rfl⟩
    obtain ⟨lo, hlo⟩ : ∃ lo, spLo l bs = lo := ⟨_, rfl⟩
    obtain ⟨hi, hhi⟩ : ∃ hi, spHi l bs = hi := ⟨_, rfl⟩
    have SPB := Lib.hid (SPN.out bs HE.out)
    obtain ⟨M, hM⟩ : ∃ M, rdM l ys = M := ⟨_, rfl⟩
    rw [hlo, hhi] at SPB
    rw [hlo] at hSL hmn
    rw [hhi] at hSH hmn
    rw [hfin] at hTL hd1 hd2 hmn
    rw [hM] at RWY hTL
    have HD := Lib.hid (And.intro hd1 hd2)
    have HTL := Lib.hid hTL
    have HLO := Lib.hid (And.intro hlo hhi)
    have HTB := Lib.hid (And.intro htb hty)
    have HBL := Lib.hid hbl
    have HFF := Lib.hid hF
    have HF1 := Lib.hid hF1
    have LSY := Lib.hid (fun W h => list_any ys (some ⟨gy, 0, none⟩) vc W h (by omega))
    obtain ⟨m1, m2⟩ := hmn
    have n1 : ¬ fin < lo := by omega
    have n2 : ¬ hi < fin := by omega
    clear hb ho A2 k0 k1 k2 k3 hFO hsf hg0 hg1 hg3 HW END RDY hTL hd1 hd2 hlo hhi htb hty hbl hxs hF hF1 hfin hM hix m1 m2 hFl
    obtain ⟨k0, k1, k2, k3⟩ := WL.at A3
    go_wp2_with fail
    refine (LAW.out w3).mono ?_
    rintro e w4 ⟨rfl, hb⟩
    have A4 := WL.lo A3 hb
    have Y4 := Lib.hid (Y3.out.lo hb)
    clear hb A3 Y3 k0 k1 k2 k3
    go_wp2_with fail
    refine (LSY.out w4 Y4.out).mono ?_
    rintro e w5 ⟨v, rfl, ho, hb⟩
    obtain ⟨va, vd, rfl⟩ := own_len ho
    have A5 := WL.lo A4 hb
    have Y5 := Lib.hid (Y4.out.lo hb)
    have S5 := Lib.hid (own_ballsAt ho)
    clear hb ho A4 Y4
    go_wp2_with fail
    refine (RWY.out va vd w5 S5.out).mono ?_
    rintro e w6 ⟨fa, fn, fc, qa, qc, st, rfl, ho, hb⟩
    obtain ⟨gq, cq', hv, hq1, hq2, hq3, hq4⟩ := own_form ho (by have := HFF.out; omega)
    cases hv
    have hal := below_al w6 (.cells #[.slice fa fn fc, .slice (some ⟨gq, 0, none⟩) F qc, .int .i64 st, .bool true] 43)
    have A7 := WL.lo (WL.lo A5 hb) hal
    have Y7 := Lib.hid ((Y5.out.lo hb).lo hal)
    have G7 := GK.new w6 (.slice fa fn fc) (.slice (some ⟨gq, 0, none⟩) F qc) st true
    have C7 := Lib.hid (below_cell hal (own_cell ho F1 _ (by rw [List.getElem?_map, HTL.out]; rfl)))
    clear hb ho hal A5 Y5 S5 hq1 hq2 hq3 hq4
    obtain ⟨k0, k1, k2, k3⟩ := WL.at A7
    go_wp2_with fail
    obtain ⟨p8, hp8⟩ : ∃ p8, w6.heap.size = p8 := ⟨_, rfl⟩
    rw [hp8] at G7 ⊢
    clear hp8
    generalize World.alloc w6 _ = w7 at A7 Y7 G7 C7 k0 k1 k2 k3 ⊢
    refine (LAW.out w7).mono ?_
    rintro e w8 ⟨rfl, hb⟩
    have A8 := WL.lo A7 hb
    have Y8 := Lib.hid (Y7.out.lo hb)
    have G8 := GK.lo G7 hb
    have C8 := Lib.hid (below_cell hb C7.out)
    clear hb A7 Y7 G7 C7 k0 k1 k2 k3
    go_wp2_with fail
    refine (LST.out w8 (HS.out.lo A8.out.bl)).mono ?_
    rintro e w9 ⟨v, rfl, ho, hb⟩
    obtain ⟨vb, ve, rfl⟩ := own_len ho
    have A9 := WL.lo A8 hb
    have Y9 := Lib.hid (Y8.out.lo hb)
    have G9 := GK.lo G8 hb
    have C9 := Lib.hid (below_cell hb C8.out)
    have S9 := Lib.hid (own_ballsAt ho)
    clear hb ho A8 Y8 G8 C8
    go_wp2_with fail
    refine (SPB.out vb ve w9 S9.out (HT.out.below A9.out.bl HT.out.pos)).mono ?_
    rintro e wA ⟨rfl, hb⟩
    have hal := below_al wA (.cells #[.int .i64 lo, .int .i64 hi] 50)
    have AB := WL.lo (WL.lo A9 hb) hal
    have YB := Lib.hid ((Y9.out.lo hb).lo hal)
    have GB := GK.lo (GK.lo G9 hb) hal
    have CB := Lib.hid (below_cell hal (below_cell hb C9.out))
    have SB := SK.new wA lo hi
    clear hb hal A9 Y9 G9 C9 S9
    obtain ⟨p10, hp10⟩ : ∃ p10, wA.heap.size = p10 := ⟨_, rfl⟩
    rw [hp10] at SB
    have hFl : (F : Int) = l.fr := by have := HFF.out; have := HF1.out; omega
    have hfw : IntKind.i64.wrap (l.fr - 1) = (F1 : Int) := by rw [HF1.out, IntWalk.i64_in _ (by have := OK.out.f2; have := HF1.out; omega)]; omega
    have y0 : (0 : Int) ≤ (F1 : Int) := by omega
    have y1 : (F1 : Int) < l.fr := by have := HF1.out; omega
    have cFin := CB.out
    obtain ⟨c0, c1, c2, c3⟩ := GK.at GB
    obtain ⟨⟨s0, s1⟩, z0, z1⟩ := SK.at SB
    obtain ⟨k0, k1, k2, k3⟩ := WL.at AB
    go_wp2_with fail
    clear hp10
    generalize World.alloc wA _ = wB at AB YB GB CB SB cFin c0 c1 c2 c3 s0 s1 z0 z1 k0 k1 k2 k3 ⊢
    have HX : Hid (l.fr.toNat - 1 = F1) := Lib.hid (by have := HF1.out; omega)
    obtain ⟨i3, hi3, hy0, hy1, hy2⟩ := info_parts info3
    clear GB CB cFin c0 c1 c2 c3 s0 s1 z0 z1 k0 k1 k2 k3 n1 n2 HTL RWY SPB
    go_loopg [13] 2 (fun g s13 wx => ∃ (k : Nat), k ≤ 2 ∧ g = 2 - k ∧ s13 = .int .i64 (k : Int) ∧ Hid (BL wB wx))
    case atStart => exact ⟨0, by omega, rfl, rfl, BL.start wB⟩
    case round =>
      obtain ⟨k, hk, rfl, rfl, hW⟩ := hrel
      obtain ⟨k0, k1, k2, k3⟩ := WL.at (WL.lo AB hW.out.b)
      obtain ⟨⟨s0, s1⟩, z0, z1⟩ := SK.at (SK.lo SB hW.out.b)
      rcases (by omega : k = 2 ∨ k = 0 ∨ k = 1) with rfl | rfl | rfl
      · clear hSL hSH SHG RDW LST HS
        go_wp2_with fail
        have SL := SK.new wr lo hi
        have BL2 := BL.al hW (.cells #[.int .i64 lo, .int .i64 hi] 50)
        have hp19 := hW.out.b.size
        obtain ⟨p19, hp⟩ : ∃ p19, wr.heap.size = p19 := ⟨_, rfl⟩
        rw [hp] at SL hp19 ⊢
        have HP := Lib.hid hp19
        clear hp hp19 k0 k1 k2 k3 s0 s1 z0 z1 hW
        generalize World.alloc wr _ = wL at SL BL2 ⊢
        have hbs := HBL.out
        go_loopg [20] (ys.length + 1 - bs.length) (fun g s20 wx => ∃ (j : Nat) (lo1 hi1 : Int), bs.length ≤ j ∧ j ≤ ys.length + 1 ∧ g = ys.length + 1 - j ∧ s20 = .int .i64 (j : Int) ∧ Hid (spLo l (ys.take (lastT bs.length j)) = lo1 ∧ spHi l (ys.take (lastT bs.length j)) = hi1) ∧ Hid (SK wx p19 lo1 hi1) ∧ Hid (BL wB wx))
        case atStart => exact ⟨bs.length, lo, hi, Nat.le_refl _, by omega, rfl, rfl, Lib.hid (by rw [lastT, if_pos rfl, HTB.out.1]; exact HLO.out), SL, BL2⟩
        case round =>
          obtain ⟨j, lo1, hi1, hjb, hj, rfl, rfl, hL, hS, hB⟩ := hrel
          have AR := WL.lo AB hB.out.b
          obtain ⟨k0, k1, k2, k3⟩ := WL.at AR
          by_cases hlt : j < ys.length + 1
          · have hj1 : (j : Int) ≤ (ys.length : Int) := by omega
            have hj0 : (0 : Int) ≤ (j : Int) := by omega
            have hjc : (j : Int) ≤ (vc : Int) := by omega
            have hEj := SXX.out.e j (by omega)
            have htl : (ys.take j).length = j := by rw [List.length_take]; omega
            have hcmp := sx_last SXX.out hjb (by omega)
            have hle := SXX.out.le j (by omega)
            have LN : Hid (∀ W, BL wr W → Calls Tryd.prog 19 #[.slice (some ⟨gy, 0, none⟩) j vc] W fun e w' => ∃ v, e = .returned v ∧ w'.ownsRow W.heap.size 3 1 v j ((ys.take j).map (Value.int .i64)) ∧ Below W.heap.size W w') := Lib.hid (fun W h => by
              have h1 := list_any (ys.take j) (some ⟨gy, 0, none⟩) vc W ⟨balls_take (YB.out.1.lo (hB.out.b.trans (h.b.mono hB.out.b.size))) j, fun e => by cases e⟩ (by omega)
              rwa [htl] at h1)
            obtain ⟨lo2, hlo2⟩ : ∃ lo2, spLo l (ys.take j) = lo2 := ⟨_, rfl⟩
            obtain ⟨hi2, hhi2⟩ : ∃ hi2, spHi l (ys.take j) = hi2 := ⟨_, rfl⟩
            have SPJ : Hid (∀ a c W, BallsAt W a (ys.take j) → TabOK W → Calls Tryd.prog 26 #[.agg #[.int .i64 l.fr, .int .i64 l.pn, .int .i64 l.bl, .int .i64 l.tp], .slice a j c] W fun e w' => e = .returned (.tuple #[.agg #[.int .i64 lo2, .int .i64 hi2], .int .i64 0]) ∧ Below W.heap.size W w') := Lib.hid (fun a c W h ht => by
              have h1 := SPN.out (ys.take j) hEj a c W h ht
              rwa [htl, hlo2, hhi2] at h1)
            rw [hL.out.1, hL.out.2, hlo2, hhi2] at hcmp
            rw [hlo2, hhi2] at hle
            have TR := Lib.hid (HT.out.below AR.out.bl HT.out.pos)
            have H2 := Lib.hid (And.intro hlo2 hhi2)
            have HC := Lib.hid (And.intro hcmp hle)
            clear hEj htl hcmp hle hlo2 hhi2 k0 k1 k2 k3
            go_upto_region 25 with fail
            go_cut [21, 22] (fun s21 s22 wx => ∃ (g21 : Nat), s21 = .pointer (some ⟨g21, 0, none⟩) ∧ s22 = .int .i64 0 ∧ Hid (BL wr wx) ∧ Hid (SK wx g21 lo2 hi2))
            case first => as_aux_lemma =>
              have hd0 : wr.heap.size ≤ wr.heap.size := Nat.le_refl _
              clear hj hlt hj0 hjb h30 h0 hg2 hS hL H2 HC HP HT WAK OK SPN SXX YB SB SL BL2 HLO HTB HBL hbs HD HE HFF HF1 HX hfw hFl y0 y1 hi3 hy0 hy1 hy2 LSY
              go_region_held3 (fun W => W.cell? ⟨w.heap.size, 0, none⟩ = some (.int .i64 l.fr) ∧ W.cell? ⟨w.heap.size, 1, none⟩ = some (.int .i64 l.pn) ∧ W.cell? ⟨w.heap.size, 2, none⟩ = some (.int .i64 l.bl) ∧ W.cell? ⟨w.heap.size, 3, none⟩ = some (.int .i64 l.tp))
                (with_reducible first | exact BL.law (BL.dr (BL.start wr)) AR | exact BL.law (BL.dr (BL.al (BL.start wr) _)) AR | exact BL.law (PA) AR | exact BL.law (BL.al PA _) AR | exact BL.law (PB) AR | exact BL.law (BL.al PB _) AR | exact BL.law (PD) AR | exact BL.law (BL.al PD _) AR | exact BL.law (BL.put2 PD (by omega) _ _) AR)
                (first
                  | (go_at_call 17; (with_reducible refine (LAW.out _).mono ?_); rintro e wA1 ⟨rfl, hb⟩; (with_reducible first | have PA := BL.lo (BL.dr (BL.start wr)) hb | have PA := BL.lo (BL.dr (BL.al (BL.start wr) _)) hb); (try with_reducible first | have ZA := SK.lo (SK.dr (SK.new wr _ _)) hb); have hA := PA.out.b.size; clear hb)
                  | (go_at_call 19; (with_reducible first | refine (LN.out _ PA.out).mono ?_ | refine (LN.out _ (BL.al PA _).out).mono ?_); rintro e wB1 ⟨v, rfl, ho, hb⟩; obtain ⟨vb, vd, rfl⟩ := own_len ho; (with_reducible first | have PB := BL.lo (PA) hb | have PB := BL.lo (BL.al PA _) hb); (try with_reducible first | have ZB := SK.lo (ZA) hb | have ZB := SK.lo (SK.new wA1 _ _) hb); have SB1 := Lib.hid (own_ballsAt ho); have hB := PB.out.b.size; clear hb ho)
                  | (go_at_call 26; (with_reducible first | refine (SPJ.out _ _ _ SB1.out (tab_bl TR PB)).mono ?_ | refine (SPJ.out _ _ _ (SB1.out.lo (below_al _ _)) (tab_bl TR (BL.al PB _))).mono ?_); rintro e wD ⟨rfl, hb⟩; (with_reducible first | have PD := BL.lo (PB) hb | have PD := BL.lo (BL.al PB _) hb); (try with_reducible first | (have ZD := SK.lo (ZB) hb; have hf := SK.at ZD; obtain ⟨⟨d0, d1⟩, z0, z1⟩ := hf) | (have ZD := SK.lo (SK.new wB1 _ _) hb; have hf := SK.at ZD; obtain ⟨⟨d0, d1⟩, z0, z1⟩ := hf)); have hD := PD.out.b.size; clear hb))
              all_goals
                go_wp2_with fail
                go_meet
                first
                  | exact ⟨_, rfl, rfl, BL.al PD _, SK.new wD _ _⟩
                  | exact ⟨_, rfl, rfl, BL.put2 PD (by omega) _ _, SK.put ZD _ _⟩
            case rest =>
              obtain ⟨g21, rfl, rfl, B25, S25⟩ := hcut
              have hBx : Hid (BL wB wc) := BL.lo hB B25.out.b
              have hSx := SK.lo hS B25.out.b
              obtain ⟨⟨hc1, hc2⟩, hc3⟩ := HC.out
              have q1 : ¬ lo2 < lo1 := by omega
              have q2 : ¬ hi1 < hi2 := by omega
              have q3 : ¬ hi2 < lo2 := by omega
              clear LN SPJ hB hS B25 AR TR HC hc1 hc2 hc3
              obtain ⟨⟨s0, s1⟩, z0, z1⟩ := SK.at hSx
              obtain ⟨⟨d0, d1⟩, x0, x1⟩ := SK.at S25
              go_wp2_with fail
              go_roundg (ys.length + 1 - (j + 1))
              case measure => omega
              case rel => exact ⟨j + 1, lo2, hi2, by omega, by omega, rfl, by simp, Lib.hid (by rw [lastT_succ hjb]; exact H2.out), SK.put hSx lo2 hi2, BL.put2 hBx HP.out _ _⟩
          · have hje : j = ys.length + 1 := by omega
            subst hje
            have hj1 : ¬ (((ys.length + 1 : Nat) : Int) ≤ (ys.length : Int)) := by omega
            have hl2 := hL.out
            rw [lastT_succ (by omega : bs.length ≤ ys.length), HTB.out.2, HD.out.1, HD.out.2] at hl2
            obtain ⟨rfl, rfl⟩ := hl2
            obtain ⟨⟨s0, s1⟩, z0, z1⟩ := SK.at hS
            go_wp2_with fail
            refine (WAK.out wr (HT.out.below AR.out.bl HT.out.pos)).mono ?_
            rintro e wf ⟨rfl, hb⟩
            have BF := Lib.hid (AR.out.bl.trans (hb.mono AR.out.bl.size))
            clear hb
            go_wp2_with fail
            go_ret
            exact ⟨rfl, BF.out⟩
      · as_aux_lemma =>
          have SG := SHG.out lo
          rw [hSL.out.e] at SG
          obtain ⟨sx, hFO2, hsf2⟩ := hSL.out.fo
          have hEl := hSL.out.len
          have hT2 := tot_last hFO2 OK.out hsf2
          rw [hSL.out.tot, HX.out] at hT2
          have RW2 := RDW.out _ sx F hFO2 hsf2 hFl
          obtain ⟨E, hE⟩ : ∃ E, shL l bs lo = E := ⟨_, rfl⟩
          rw [hE] at SG RW2 hT2 hEl
          rw [List.length_append] at RW2
          obtain ⟨M2, hM2⟩ : ∃ M2, rdM l (bs ++ E) = M2 := ⟨_, rfl⟩
          rw [hM2] at RW2 hT2
          have TL2 := Lib.hid hT2
          replace RW2 := Lib.hid RW2
          replace SG := Lib.hid SG
          clear hT2 hFO2 hsf2 hE hM2
          go_wp2_with fail
          refine (LAW.out wr).mono ?_
          rintro e u1 ⟨rfl, hb⟩
          have B1 := BL.lo hW hb
          clear hb k0 k1 k2 k3 s0 s1 z0 z1
          go_wp2_with fail
          refine (LST.out u1 (HS.out.lo (AB.out.bl.trans (B1.out.b.mono AB.out.bl.size)))).mono ?_
          rintro e u2 ⟨v, rfl, ho, hb⟩
          obtain ⟨xa, xc, rfl⟩ := own_len ho
          have B2 := BL.lo B1 hb
          have S2 := Lib.hid (own_ballsAt ho)
          clear hb ho B1
          go_wp2_with fail
          refine (SG.out xa xc u2 S2.out).mono ?_
          rintro e u3 ⟨vs, rfl, ⟨bb, ho, hbb⟩, hb⟩
          obtain ⟨ea, ec, rfl⟩ := own_len ho
          have B3 := BL.lo B2 hb
          have E3 := Lib.hid ho
          obtain ⟨k0, k1, k2, k3⟩ := WL.at (WL.lo AB B3.out.b)
          clear hb ho hbb B2 S2
          go_wp2_with fail
          refine (LAW.out u3).mono ?_
          rintro e u4 ⟨rfl, hb⟩
          have B4 := BL.lo B3 hb
          have E4 := Lib.hid (own_below E3.out hb)
          clear hb k0 k1 k2 k3 B3 E3
          go_wp2_with fail
          refine (LST.out u4 (HS.out.lo (AB.out.bl.trans (B4.out.b.mono AB.out.bl.size)))).mono ?_
          rintro e u5 ⟨v, rfl, ho, hb⟩
          obtain ⟨ya, yc, rfl⟩ := own_len ho
          have B5 := BL.lo B4 hb
          have E5 := Lib.hid (own_below E4.out hb)
          have O5 := Lib.hid ho
          have hbs := Lib.hid hb.size
          have hOB := Lib.hid B4.out.b.size
          clear hb ho B4 E4
          go_wp2_with (at_builtin; go_must (refine wpList_append_any _ rfl _ _ 24 rfl u4.heap.size 3 i3 (.int .i64 0) 1 8 Tryd.underlying24 hi3 hy0 hy1 hy2 rfl (by decide) _ bs.length _ rfl O5.out ea E.length ec (E.map (Value.int .i64)) rfl (own_nil E5.out) (by simp) (own_news E5.out) (by simp [Value.oneCell']) (by unfold maxLen; omega) (by omega) hbs.out ?_); intro v6 u6 hown hgrow hloc; have B6 := BL.grow B5 O5.out hOB.out hgrow; have O6 := Lib.hid hown; clear hown hgrow hloc)
          obtain ⟨za, zc, rfl⟩ := own_len O6.out
          refine (RW2.out za zc u6 (own_ballsAt (xs := bs ++ E) (by rw [List.map_append]; exact O6.out))).mono ?_
          rintro e u7 ⟨fa2, fn2, fc2, qa2, qc2, st2, rfl, ho, hb⟩
          obtain ⟨gq2, cq2, hv, hq1, hq2, hq3, hq4⟩ := own_form ho (by have := HFF.out; omega)
          cases hv
          have hal := below_al u7 (.cells #[.slice fa2 fn2 fc2, .slice (some ⟨gq2, 0, none⟩) F qc2, .int .i64 st2, .bool true] 43)
          have B7 := BL.lo (BL.lo B6 hb) hal
          have G7 := GK.new u7 (.slice fa2 fn2 fc2) (.slice (some ⟨gq2, 0, none⟩) F qc2) st2 true
          have cn := below_cell hal (own_cell ho F1 _ (by rw [List.getElem?_map, TL2.out]; rfl))
          obtain ⟨c0, c1, c2, c3⟩ := GK.at G7
          obtain ⟨k0, k1, k2, k3⟩ := WL.at (WL.lo AB B7.out.b)
          clear hb ho hal B5 B6 E5 O5 O6 hbs hOB hq1 hq2 hq3 hq4 G7
          go_wp2_with fail
          go_roundg (2 - (0 + 1))
          case measure => omega
          case rel => exact ⟨0 + 1, by omega, rfl, by simp, B7⟩
      · as_aux_lemma =>
          have SG := SHG.out hi
          rw [hSH.out.e] at SG
          obtain ⟨sx, hFO2, hsf2⟩ := hSH.out.fo
          have hEl := hSH.out.len
          have hT2 := tot_last hFO2 OK.out hsf2
          rw [hSH.out.tot, HX.out] at hT2
          have RW2 := RDW.out _ sx F hFO2 hsf2 hFl
          obtain ⟨E, hE⟩ : ∃ E, shL l bs hi = E := ⟨_, rfl⟩
          rw [hE] at SG RW2 hT2 hEl
          rw [List.length_append] at RW2
          obtain ⟨M2, hM2⟩ : ∃ M2, rdM l (bs ++ E) = M2 := ⟨_, rfl⟩
          rw [hM2] at RW2 hT2
          have TL2 := Lib.hid hT2
          replace RW2 := Lib.hid RW2
          replace SG := Lib.hid SG
          clear hT2 hFO2 hsf2 hE hM2
          go_wp2_with fail
          refine (LAW.out wr).mono ?_
          rintro e u1 ⟨rfl, hb⟩
          have B1 := BL.lo hW hb
          clear hb k0 k1 k2 k3 s0 s1 z0 z1
          go_wp2_with fail
          refine (LST.out u1 (HS.out.lo (AB.out.bl.trans (B1.out.b.mono AB.out.bl.size)))).mono ?_
          rintro e u2 ⟨v, rfl, ho, hb⟩
          obtain ⟨xa, xc, rfl⟩ := own_len ho
          have B2 := BL.lo B1 hb
          have S2 := Lib.hid (own_ballsAt ho)
          clear hb ho B1
          go_wp2_with fail
          refine (SG.out xa xc u2 S2.out).mono ?_
          rintro e u3 ⟨vs, rfl, ⟨bb, ho, hbb⟩, hb⟩
          obtain ⟨ea, ec, rfl⟩ := own_len ho
          have B3 := BL.lo B2 hb
          have E3 := Lib.hid ho
          obtain ⟨k0, k1, k2, k3⟩ := WL.at (WL.lo AB B3.out.b)
          clear hb ho hbb B2 S2
          go_wp2_with fail
          refine (LAW.out u3).mono ?_
          rintro e u4 ⟨rfl, hb⟩
          have B4 := BL.lo B3 hb
          have E4 := Lib.hid (own_below E3.out hb)
          clear hb k0 k1 k2 k3 B3 E3
          go_wp2_with fail
          refine (LST.out u4 (HS.out.lo (AB.out.bl.trans (B4.out.b.mono AB.out.bl.size)))).mono ?_
          rintro e u5 ⟨v, rfl, ho, hb⟩
          obtain ⟨ya, yc, rfl⟩ := own_len ho
          have B5 := BL.lo B4 hb
          have E5 := Lib.hid (own_below E4.out hb)
          have O5 := Lib.hid ho
          have hbs := Lib.hid hb.size
          have hOB := Lib.hid B4.out.b.size
          clear hb ho B4 E4
          go_wp2_with (at_builtin; go_must (refine wpList_append_any _ rfl _ _ 24 rfl u4.heap.size 3 i3 (.int .i64 0) 1 8 Tryd.underlying24 hi3 hy0 hy1 hy2 rfl (by decide) _ bs.length _ rfl O5.out ea E.length ec (E.map (Value.int .i64)) rfl (own_nil E5.out) (by simp) (own_news E5.out) (by simp [Value.oneCell']) (by unfold maxLen; omega) (by omega) hbs.out ?_); intro v6 u6 hown hgrow hloc; have B6 := BL.grow B5 O5.out hOB.out hgrow; have O6 := Lib.hid hown; clear hown hgrow hloc)
          obtain ⟨za, zc, rfl⟩ := own_len O6.out
          refine (RW2.out za zc u6 (own_ballsAt (xs := bs ++ E) (by rw [List.map_append]; exact O6.out))).mono ?_
          rintro e u7 ⟨fa2, fn2, fc2, qa2, qc2, st2, rfl, ho, hb⟩
          obtain ⟨gq2, cq2, hv, hq1, hq2, hq3, hq4⟩ := own_form ho (by have := HFF.out; omega)
          cases hv
          have hal := below_al u7 (.cells #[.slice fa2 fn2 fc2, .slice (some ⟨gq2, 0, none⟩) F qc2, .int .i64 st2, .bool true] 43)
          have B7 := BL.lo (BL.lo B6 hb) hal
          have G7 := GK.new u7 (.slice fa2 fn2 fc2) (.slice (some ⟨gq2, 0, none⟩) F qc2) st2 true
          have cn := below_cell hal (own_cell ho F1 _ (by rw [List.getElem?_map, TL2.out]; rfl))
          obtain ⟨c0, c1, c2, c3⟩ := GK.at G7
          obtain ⟨k0, k1, k2, k3⟩ := WL.at (WL.lo AB B7.out.b)
          clear hb ho hal B5 B6 E5 O5 O6 hbs hOB hq1 hq2 hq3 hq4 G7
          go_wp2_with fail
          go_roundg (2 - (1 + 1))
          case measure => omega
          case rel => exact ⟨1 + 1, by omega, rfl, by simp, B7⟩
  · have hd : decide (rdE l bs = 0) = false := by simp [he]
    rw [hd] at RDY
    clear hd he
    unfold Lw.val at *
    go_enter Tryd.func9, Tryd.ntmps9
    go_wp2_with fail
    have A1 := WL.start w l
    generalize World.alloc w _ = w1 at A1 ⊢
    obtain ⟨k0, k1, k2, k3⟩ := WL.at A1
    go_wp2_with fail
    refine (RDY.out a c w1 (HS.out.1.lo A1.out.bl)).mono ?_
    rintro e w2 ⟨rfl, hb⟩
    have A2 := WL.lo A1 hb
    clear hb A1 k0 k1 k2 k3
    go_wp2_with fail
    refine (WAK.out _ (HT.out.below A2.out.bl HT.out.pos)).mono ?_
    rintro e w3 ⟨rfl, hb⟩
    have BF := Lib.hid (A2.out.bl.trans (hb.mono A2.out.bl.size))
    clear hb
    go_wp2_with fail
    go_ret
    exact ⟨rfl, BF.out⟩

end Go.Proofs.YtmjbidnlknmcgaaDoor
