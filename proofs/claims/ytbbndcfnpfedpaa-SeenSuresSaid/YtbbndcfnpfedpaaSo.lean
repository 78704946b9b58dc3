/- The contract of the iterator over the ranges of places. -/
import Derived.Test.YtbbndcfnpfedpaaSn
set_option linter.unusedVariables false
set_option linter.unusedSimpArgs false
namespace Go.Proofs.Ytbbndcfnpfedpaa
open Go.RowKit Go.Shelf

attribute [local go_sem] Oper.semAt_some

def rngF (L : List (List (Int × Int))) (i : Nat) : List ((Int × Int) × (Int × Int)) := [(((i : Int), 0), spanL ((L.getD i []).map fun p => p.1)), (((i : Int), 1), spanL ((L.getD i []).map fun p => p.2))]
/-- The ranges of all places, frame by frame. -/
def rngL (L : List (List (Int × Int))) : List ((Int × Int) × (Int × Int)) := (List.range L.length).flatMap (rngF L)
def rgEnc (x : (Int × Int) × (Int × Int)) : Array Value := #[.agg #[.int .i64 x.1.1, .int .i64 x.1.2], .agg #[.int .i64 x.2.1, .int .i64 x.2.2]]
def RdG (lo up bB : Nat) (k : Nat) : Prop := k = bB ∨ (lo ≤ k ∧ k < up)

set_option maxRecDepth 100000 in
set_option maxHeartbeats 8000000 in
theorem ranges1_iter (L : List (List (Int × Int))) (a : Option Addr) (c lo up bB : Nat) (w : World) (hB : Boxed w bB 94 (.slice a L.length c)) (hF : FrAt lo up w a L) (hhi : up ≤ w.heap.size) (hn : L.length ≤ 1000) (hg : ∀ gs ∈ L, gs.length ≤ 1000) :
    IterT Try.prog 78 #[.pointer (some ⟨bB, 0, none⟩)] rgEnc (rngL L) 0 (RdG lo up bB) w := by
  intro l J W hW hJ hY h0
  have hBW := Boxed.alt hB hW (by unfold RdG; simp)
  have hFW := hF.alt hW (fun k h1 h2 h => h (.inr ⟨h1, h2⟩))
  have HY := Lib.hid hY
  have HJS := Lib.hid hJ
  have HF := Lib.hid hFW
  have HG := Lib.hid hg
  have H0 := Lib.hid h0
  have cB := hBW.cell
  have HHI := Lib.hid (Nat.le_trans hhi hW.size)
  have HBL := Lib.hid hBW.lt
  clear hB hF hhi hg hW hJ hY h0 hBW hFW
  refine callsIn_of_wp Try.func78 rfl trivial ?_ rfl
  simp only [Try.ntmps78, List.size_toArray, List.length_cons, List.length_nil, Nat.reduceAdd, Nat.reduceSub, Array.replicate_succ, Array.replicate_zero, List.push_toArray, List.append_toArray, List.nil_append, List.cons_append]
  gi_wp2
  gi_loopw [9] (fun s wr => ∃ i : Nat, i ≤ L.length ∧ s = .int .i64 (i : Int) ∧ Hid (J ((List.range i).flatMap (rngF L)) wr) ∧ Hid (Alt (fun k => ¬ RdG lo up bB k) W wr)) (fun s wr => ((L.length : Int) - intOf s).toNat)
  case atStart => exact ⟨0, by omega, rfl, Lib.hid (by simpa using H0.out), Lib.hid (Alt.refl _ _)⟩
  case round =>
    obtain ⟨i, hi, rfl, hJi, hA⟩ := hrel
    clear H0
    by_cases hlt : i < L.length
    · have hz0 : (0 : Int) ≤ (i : Int) := by omega
      have hz1 : (i : Int) < (L.length : Int) := by omega
      have HU := Lib.hid (flat_split (rngF L) hlt)
      have HLT := Lib.hid hlt
      obtain ⟨gs, hgs⟩ : ∃ gs, L[i]? = some gs := ⟨L[i]'hlt, List.getElem?_eq_getElem _⟩
      have HGD : Hid (rngF L i = [(((i : Int), 0), spanL (gs.map fun p => p.1)), (((i : Int), 1), spanL (gs.map fun p => p.2))]) := Lib.hid (by unfold rngF; rw [List.getD_eq_getElem?_getD, hgs]; rfl)
      have HGL := Lib.hid (HG.out gs (List.mem_of_getElem? hgs))
      obtain ⟨g, o, a', c', rfl, hgb, k0, k2, k3⟩ := HF.out i gs hgs
      have k1 := alt_cell hA.out k0 (fun h => h (.inr hgb))
      have HP := Lib.hid k2
      have HB3 := Lib.hid k3
      have BA := Lib.hid (fun W => callsIn_wide (n := 0).2 (balls_any W))
      have HNW := Lib.hid (show ∀ wx, Alt (fun k => ¬ RdG lo up bB k) W wx → P2At wx a' gs from fun wx h => HP.out.alt h (fun g o e h => h (.inr (HB3.out g o e))))
      clear hi hgs k0 k2 k3 hgb hlt
      gi_wp2
      refine ⟨trivial, rfl, ?_⟩
      refine (BA.out _).mono ?_
      rintro e w1 ⟨rfl, hb1⟩
      have J1 := Lib.hid (HJS.out _ _ _ hJi.out (Alt.of_below hb1 (fun k hk h => by omega)))
      have A1 := Lib.hid (hA.out.trans (show Alt (fun k => ¬ RdG lo up bB k) wr w1 from Alt.of_below hb1 (fun k hk h => by omega)))
      clear hb1 k1 hJi BA hA
      unfold ballsV
      gi_wp2
      gi_loopw [15] (fun s wx => ∃ b : Nat, b ≤ 2 ∧ s = .int .i64 (b : Int) ∧ Hid (J ((List.range i).flatMap (rngF L) ++ (rngF L i).take b) wx) ∧ Hid (Alt (fun k => ¬ RdG lo up bB k) W wx)) (fun s wx => (2 - intOf s).toNat)
      case atStart => exact ⟨0, by omega, rfl, Lib.hid (by simpa using J1.out), A1⟩
      case round =>
        obtain ⟨b, hb2, rfl, hJj, hAj⟩ := hrel
        clear J1 A1
        obtain rfl | rfl | rfl : b = 0 ∨ b = 1 ∨ b = 2 := by omega
        · obtain ⟨T, hxs⟩ : ∃ T, rngL L = ((List.range i).flatMap (rngF L) ++ (rngF L i).take 0) ++ (((i : Int), 0), spanL (gs.map fun p => p.1)) :: T := by
            obtain ⟨T, u1, _⟩ := HU.out
            exact ⟨[(((i : Int), 1), spanL (gs.map fun p => p.2))] ++ T, by unfold rngL; rw [u1, HGD.out]; simp⟩
          have BT := Lib.hid (fun W4 (hA : Alt (fun k => ¬ RdG lo up bB k) W W4) => callsIn_wide (n := 0).2 (between_88_any gs a' c' W4 (HNW.out W4 hA) HGL.out))
          have hsz := hAj.out.size
          have YY := Lib.hid (fun A hz hj => HY.out _ _ _ A hxs hz hj)
          have HPR : Hid (((List.range i).flatMap (rngF L) ++ (rngF L i).take 0) ++ [(((i : Int), 0), spanL (gs.map fun p => p.1))] = (List.range i).flatMap (rngF L) ++ (rngF L i).take (0 + 1)) := Lib.hid (by rw [HGD.out]; simp)
          unfold rgEnc at YY
          generalize spanL (gs.map fun p => p.1) = r at *
          have KB := Lib.hid (Blk.new wr #[.int .i64 0, .func (.func 88) #[] #[]] 132)
          have JB := Lib.hid (HJS.out _ _ _ hJj.out ((Alt.refl _ wr).alloc (.cells #[.int .i64 0, .func (.func 88) #[] #[]] 132)))
          have AB := Lib.hid ((hAj.out).alloc (.cells #[.int .i64 0, .func (.func 88) #[] #[]] 132))
          have ZB := Lib.hid (show W.heap.size + 0 ≤ (wr.alloc (.cells #[.int .i64 0, .func (.func 88) #[] #[]] 132)).heap.size by simp; omega)
          clear hxs hJj hAj hsz
          gi_wp2
          rw [idx0]
          gi_wp2
          generalize wr.alloc _ = wb at KB JB AB ZB ⊢
          generalize wr.heap.size = NB at *
          have k0 := KB.out.cell 0 (show _ = some (Value.int .i64 0) from rfl)
          have k1 := KB.out.cell 1 (show _ = some (Value.func (.func 88) #[] #[]) from rfl)
          have UA := Lib.hid (fun w4 (h : Below wb.heap.size wb w4) => (AB.out.trans (Alt.of_below h (fun k hk e => by omega))))
          have UY := Lib.hid (fun w4 (h : Below wb.heap.size wb w4) => YY.out w4 (Nat.le_trans ZB.out h.size) (HJS.out _ _ _ JB.out (Alt.of_below h (fun k hk e => by omega))))
          have UK := Lib.hid (fun w4 (h : Below wb.heap.size wb w4) => Blk.alt (p := fun _ => False) KB.out (Alt.of_below h (fun k hk e => by omega)) id)
          have hmx : Try.prog.follows .mixedOrders = true := by kernel_rfl
          have BTD := Lib.hid (BT.out wb.drew AB.out.drew)
          clear YY BT
          first
          | (gi_region_with_o (first
              | ((refine ⟨trivial, rfl, ?_⟩); (with_reducible refine BTD.out.mono ?_); rintro e w4 ⟨rfl, hb4⟩; have U4 : Hid (Below wb.heap.size wb w4) := Lib.hid (below_go (Below.refl _ wb).drew hb4); have k0 := (UK.out w4 U4.out).cell 0 (show _ = some (Value.int .i64 0) from rfl); have k1 := (UK.out w4 U4.out).cell 1 (show _ = some (Value.func (.func 88) #[] #[]) from rfl); clear hb4; have hyy := UY.out w4 U4.out; obtain ⟨fn, tmps, assign, body, hy, hR⟩ := hyy; (try simp only at hy))
              | ((refine ⟨rfl, ?_⟩); (with_reducible refine hR.mono ?_); rintro e w6 ⟨rfl, hJ6, hk6⟩)))
          | fail "region"
          all_goals
            gi_wp2
            go_roundw
            case rel =>
              refine ⟨0 + 1, by omega, by go_num, Lib.hid (by rw [← HPR.out]; exact hJ6), Lib.hid ((UA.out w4 U4.out).trans (hk6.mono fun k _ h e => h (.inl e)))⟩
            case measure => simp [intOf]
        · obtain ⟨T, hxs⟩ : ∃ T, rngL L = ((List.range i).flatMap (rngF L) ++ (rngF L i).take 1) ++ (((i : Int), 1), spanL (gs.map fun p => p.2)) :: T := by
            obtain ⟨T, u1, _⟩ := HU.out
            exact ⟨[] ++ T, by unfold rngL; rw [u1, HGD.out]; simp⟩
          have BT := Lib.hid (fun W4 (hA : Alt (fun k => ¬ RdG lo up bB k) W W4) => callsIn_wide (n := 0).2 (between_89_any gs a' c' W4 (HNW.out W4 hA) HGL.out))
          have hsz := hAj.out.size
          have YY := Lib.hid (fun A hz hj => HY.out _ _ _ A hxs hz hj)
          have HPR : Hid (((List.range i).flatMap (rngF L) ++ (rngF L i).take 1) ++ [(((i : Int), 1), spanL (gs.map fun p => p.2))] = (List.range i).flatMap (rngF L) ++ (rngF L i).take (1 + 1)) := Lib.hid (by rw [HGD.out]; simp)
          unfold rgEnc at YY
          generalize spanL (gs.map fun p => p.2) = r at *
          have KB := Lib.hid (Blk.new wr #[.int .i64 1, .func (.func 89) #[] #[]] 132)
          have JB := Lib.hid (HJS.out _ _ _ hJj.out ((Alt.refl _ wr).alloc (.cells #[.int .i64 1, .func (.func 89) #[] #[]] 132)))
          have AB := Lib.hid ((hAj.out).alloc (.cells #[.int .i64 1, .func (.func 89) #[] #[]] 132))
          have ZB := Lib.hid (show W.heap.size + 0 ≤ (wr.alloc (.cells #[.int .i64 1, .func (.func 89) #[] #[]] 132)).heap.size by simp; omega)
          clear hxs hJj hAj hsz
          gi_wp2
          rw [idx1]
          gi_wp2
          generalize wr.alloc _ = wb at KB JB AB ZB ⊢
          generalize wr.heap.size = NB at *
          have k0 := KB.out.cell 0 (show _ = some (Value.int .i64 1) from rfl)
          have k1 := KB.out.cell 1 (show _ = some (Value.func (.func 89) #[] #[]) from rfl)
          have UA := Lib.hid (fun w4 (h : Below wb.heap.size wb w4) => (AB.out.trans (Alt.of_below h (fun k hk e => by omega))))
          have UY := Lib.hid (fun w4 (h : Below wb.heap.size wb w4) => YY.out w4 (Nat.le_trans ZB.out h.size) (HJS.out _ _ _ JB.out (Alt.of_below h (fun k hk e => by omega))))
          have UK := Lib.hid (fun w4 (h : Below wb.heap.size wb w4) => Blk.alt (p := fun _ => False) KB.out (Alt.of_below h (fun k hk e => by omega)) id)
          have hmx : Try.prog.follows .mixedOrders = true := by kernel_rfl
          have BTD := Lib.hid (BT.out wb.drew AB.out.drew)
          clear YY BT
          first
          | (gi_region_with_o (first
              | ((refine ⟨trivial, rfl, ?_⟩); (with_reducible refine BTD.out.mono ?_); rintro e w4 ⟨rfl, hb4⟩; have U4 : Hid (Below wb.heap.size wb w4) := Lib.hid (below_go (Below.refl _ wb).drew hb4); have k0 := (UK.out w4 U4.out).cell 0 (show _ = some (Value.int .i64 1) from rfl); have k1 := (UK.out w4 U4.out).cell 1 (show _ = some (Value.func (.func 89) #[] #[]) from rfl); clear hb4; have hyy := UY.out w4 U4.out; obtain ⟨fn, tmps, assign, body, hy, hR⟩ := hyy; (try simp only at hy))
              | ((refine ⟨rfl, ?_⟩); (with_reducible refine hR.mono ?_); rintro e w6 ⟨rfl, hJ6, hk6⟩)))
          | fail "region"
          all_goals
            gi_wp2
            go_roundw
            case rel =>
              refine ⟨1 + 1, by omega, by go_num, Lib.hid (by rw [← HPR.out]; exact hJ6), Lib.hid ((UA.out w4 U4.out).trans (hk6.mono fun k _ h e => h (.inl e)))⟩
            case measure => simp [intOf]
        · have hj := hJj.out
          have JN : Hid (J ((List.range (i + 1)).flatMap (rngF L)) wr) := Lib.hid (by
            obtain ⟨T, u1, u2⟩ := HU.out
            rw [u2]
            have e : (rngF L i).take 2 = rngF L i := by rw [HGD.out]; rfl
            rwa [e] at hj)
          have AN := hAj
          clear hj hJj hAj
          gi_wp2
          go_roundw
          case rel => exact ⟨i + 1, by have := HLT.out; omega, by go_num, JN, AN⟩
          case measure => have := HLT.out; simp [intOf]; omega
    · have hz1 : ¬ (i : Int) < (L.length : Int) := by omega
      have hiN : i = L.length := by omega
      have JN : Hid (J (rngL L) wr) := Lib.hid (by have := hJi.out; rw [hiN] at this; exact this)
      clear hiN hlt hi
      gi_wp2
      go_end0
      exact ⟨⟨_, rfl⟩, JN.out⟩

theorem eg78 : ∀ args w, (callFunc 78 args).run Try.prog w = .ok (.enter 78 args) w := enters_of Try.func78 (by kernel_rfl) rfl

theorem ranges_any (a : Option Addr) (n c : Nat) (w : World) :
    Calls Try.prog 57 #[.slice a n c] w fun e w' => e = .returned (.func (.func 78) #[] #[.pointer (some ⟨w.heap.size, 0, none⟩)]) ∧ w' = w.alloc (.cells #[.slice a n c] 94) := by
  go_enter Try.func57, Try.ntmps57
  go_wp2_with fail
  go_ret
  exact ⟨rfl, rfl⟩

end Go.Proofs.Ytbbndcfnpfedpaa
