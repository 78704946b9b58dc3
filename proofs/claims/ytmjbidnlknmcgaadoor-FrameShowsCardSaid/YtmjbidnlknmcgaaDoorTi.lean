/- The contract of the reference's Final. -/
import Derived.Test.YtmjbidnlknmcgaaDoorTf
set_option linter.unusedVariables false
set_option linter.unusedSimpArgs false
namespace Go.Proofs.YtmjbidnlknmcgaaDoor
open Go.RowKit

set_option maxRecDepth 100000 in
set_option maxHeartbeats 16000000 in
theorem final_ref (l : Lw) (bs : List Int) (a : Option Addr) (c : Nat) (w : World) (hs : BallsAt w a bs) (h : rdE l bs = 0) (hd : (recS l bs).s.f = l.fr) :
    Calls Tryd.prog 30 #[l.val, .slice a bs.length c] w fun e w' => e = .returned (.int .i64 (recS l bs).tot) ∧ Below w.heap.size w w' := by
  have ok := (recS_ok h).1
  have HS := Lib.hid hs
  have OK := Lib.hid ok
  have hlen : bs.length ≤ 40 := (errS_zero (rdE_zero h).1).2
  have PLY := Lib.hid (fun w h => play_ref l bs a c w ok h (by omega))
  have CNT := Lib.hid (fun w hs => counts_ref l bs a c w hs h)
  have hF := FO.of h
  have hTL := tot_last hF ok hd
  have hSD := set_done hF ok hd
  have hpf := play_fol l bs (rec0 l)
  have e0 : (rec0 l).s = begS l := rfl
  have e1 : (fol l (rec0 l) bs).1 = recS l bs := rfl
  rw [e0, e1] at hpf
  have hn0 := hF.n
  rw [hpf.1] at hn0
  rw [← hpf.2.1] at PLY
  obtain ⟨t, ht⟩ : ∃ t, refS l (recS l bs).s = t := ⟨_, rfl⟩
  have htf : t.f = l.fr := by rw [← ht, refS, if_pos hd]
  rw [ht, hn0] at PLY
  obtain ⟨M, hM⟩ : ∃ M, rdM l bs = M := ⟨_, rfl⟩
  rw [hM] at hTL hSD CNT
  obtain ⟨X, hX⟩ : ∃ X, (recS l bs).tot = X := ⟨_, rfl⟩
  rw [hX] at hTL ⊢
  obtain ⟨n, hn⟩ : ∃ n, bs.length = n := ⟨_, rfl⟩
  rw [hn] at PLY CNT ⊢
  obtain ⟨m, hm⟩ : ∃ m, M.length = m := ⟨_, rfl⟩
  rw [hm] at CNT hSD
  obtain ⟨q, hq⟩ : ∃ q : Nat, (q : Int) = l.fr - 1 := ⟨(l.fr - 1).toNat, by have := ok.f1; omega⟩
  have hqe : l.fr.toNat - 1 = q := by omega
  rw [hqe] at hTL
  have hf1 : IntKind.i64.wrap (l.fr - 1) = (q : Int) := by rw [IntWalk.i64_in _ (by have := ok.f1; have := ok.f2; omega)]; omega
  have hq0 : (0 : Int) ≤ (q : Int) := by omega
  have hq1 : (q : Int) < (m : Int) := by omega
  have hq2 : q < m := by omega
  have HTL := Lib.hid hTL
  have htlt : ¬ t.f < l.fr := by omega
  have htlt2 : decide (t.f < l.fr) = false := by simp; omega
  clear hs h ok hF hTL hSD hpf e0 e1 hn0 ht htf hM hX hn hm hqe hd hlen hq
  unfold Lw.val St.val at *
  go_enter Tryd.func30, Tryd.ntmps30
  go_wp2_with fail
  have A1 := WL.start w l
  generalize World.alloc w _ = w1 at A1 ⊢
  obtain ⟨k0, k1, k2, k3⟩ := WL.at A1
  go_wp2_with fail
  refine (PLY.out w1 (HS.out.lo A1.out.bl)).mono ?_
  rintro e w2 ⟨v, rfl, ⟨pbase, ho, _⟩, hb⟩
  obtain ⟨gb, gc, rfl⟩ := own2_len ho
  have hal := below_al w2 (.cells #[.int .i64 t.f, .int .i64 t.b, .int .i64 t.s, .bool t.set, .int .i64 t.has] 36)
  have A3 := WL.lo (WL.lo A1 hb) hal
  have T3 : Hid ((w2.alloc (.cells #[.int .i64 t.f, .int .i64 t.b, .int .i64 t.s, .bool t.set, .int .i64 t.has] 36)).heap[w2.heap.size]? = some (.cells #[.int .i64 t.f, .int .i64 t.b, .int .i64 t.s, .bool t.set, .int .i64 t.has] 36 (0, 0))) := Lib.hid (heap_alloc_new w2 _)
  clear hb ho hal A1 k0 k1 k2 k3 PLY
  go_upto_region 2 with fail
  obtain ⟨b5, hb5⟩ : ∃ b5, w2.heap.size = b5 := ⟨_, rfl⟩
  rw [hb5] at T3 ⊢
  clear hb5
  generalize World.alloc w2 _ = w3 at A3 T3 ⊢
  have q0 : w3.cell? ⟨b5, 0, none⟩ = some (.int .i64 t.f) := by have h := T3.out; simp [World.cell?, h]
  obtain ⟨k0, k1, k2, k3⟩ := WL.at A3
  have SP : Hid (∀ W, Hid (BL w3 W) → (W.cell? ⟨w.heap.size, 0, none⟩ = some (.int .i64 l.fr) ∧ W.cell? ⟨w.heap.size, 1, none⟩ = some (.int .i64 l.pn) ∧ W.cell? ⟨w.heap.size, 2, none⟩ = some (.int .i64 l.bl) ∧ W.cell? ⟨w.heap.size, 3, none⟩ = some (.int .i64 l.tp))) := Lib.hid (fun W h => BL.law h A3)
  have CN : Hid (∀ W, Hid (BL w3 W) → Calls Tryd.prog 49 #[.agg #[.int .i64 l.fr, .int .i64 l.pn, .int .i64 l.bl, .int .i64 l.tp], .slice a n c] W fun e w' => ∃ g cc, e = .returned (.slice (some ⟨g, 0, none⟩) m cc) ∧ w'.cell? ⟨g, q, none⟩ = some (.int .i64 X) ∧ Below W.heap.size W w') := Lib.hid (fun W h => by
    refine (CNT.out W (HS.out.lo (A3.out.bl.trans (h.out.b.mono A3.out.bl.size)))).mono ?_
    rintro e w' ⟨v, rfl, ho, hb⟩
    obtain ⟨g, cc, rfl, _⟩ := own_form ho (by omega)
    exact ⟨g, cc, rfl, own_cell ho q _ (by rw [List.getElem?_map, HTL.out]; rfl), hb⟩)
  clear CNT
  go_upto_region 4 with fail
  clear k0 k1 k2 k3 q0
  go_cut [4] (fun s4 wx => s4 = .int .i64 X ∧ Hid (BL w3 wx))
  case first =>
    clear HTL A3 T3 HS OK
    obtain ⟨k0, k1, k2, k3⟩ := SP.out _ (BL.start w3)
    go_region_with (go_at_call 49; (with_reducible refine (CN.out _ (BL.dr (BL.start w3))).mono ?_); rintro e wA ⟨g, cc, rfl, hcell, hb⟩; have PA := BL.lo (BL.dr (BL.start w3)) hb; have hk := SP.out _ PA; obtain ⟨m0, m1, m2, m3⟩ := hk; clear hb)
    all_goals
      go_wp2_with fail
      go_meet
      with_reducible exact ⟨rfl, PA⟩
  case rest =>
    obtain ⟨rfl, PA⟩ := hcut
    go_wp2_with fail
    go_ret
    exact ⟨rfl, A3.out.bl.trans (PA.out.b.mono A3.out.bl.size)⟩

end Go.Proofs.YtmjbidnlknmcgaaDoor
