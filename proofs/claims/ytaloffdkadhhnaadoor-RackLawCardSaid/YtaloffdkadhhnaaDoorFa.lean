/- The contract of the search for what falls. -/
import Derived.Test.YtaloffdkadhhnaaDoorTo
import Derived.Test.YtaloffdkadhhnaaDoorLf
set_option linter.unusedVariables false
set_option linter.unusedSimpArgs false
namespace Go.Proofs.YtaloffdkadhhnaaDoor
open Go.RowKit

/-- Block b is these cells. -/
def Blk (W : World) (b : Nat) (cs : Array Value) (t : TypeId) : Prop := W.heap[b]? = some (.cells cs t (0, 0))
theorem Blk.alt {W W' : World} {b : Nat} {cs : Array Value} {t : TypeId} {p : Nat → Prop} (h : Blk W b cs t) (ha : Alt p W W') (hp : ¬ p b) : Blk W' b cs t := ha.obj h hp
theorem Blk.cell {W : World} {b : Nat} {cs : Array Value} {t : TypeId} (h : Blk W b cs t) (i : Nat) {v : Value} (hv : cs[i]? = some v) : W.cell? ⟨b, i, none⟩ = some v := by
  unfold World.cell?
  simp only [show W.heap[b]? = _ from h]
  simpa using hv
theorem Blk.new (W : World) (cs : Array Value) (t : TypeId) : Blk (W.alloc (.cells cs t)) W.heap.size cs t := World.alloc_heap_new W _
theorem Blk.lt {W : World} {b : Nat} {cs : Array Value} {t : TypeId} (h : Blk W b cs t) : b < W.heap.size := (Array.getElem?_eq_some_iff.1 h).1

/-- What the search stands on: the box of what is left, the rack that is hit, the search's own box; the links; what the links' function wants (K), which lies below n0. -/
structure FS (r : Rk) (c : Cs) (k : Nat) (cap : Array Value) (St n0 bL bS bF : Nat) (K : World → Prop) (W : World) (N : Nat) : Prop where
  l : Boxed W bL 100 (.int .u16 (N : Nat))
  s : Blk W bS (sCells r c (.func (.func k) #[] cap) St) 115
  f : Boxed W bF 156 (.func (.func 109) #[] #[.pointer (some ⟨bL, 0, none⟩), .pointer (some ⟨bS, 0, none⟩), .pointer (some ⟨bF, 0, none⟩)])
  ls : LinksAt W r.la r.ls
  k : K W
theorem FS.go {r : Rk} {c : Cs} {k : Nat} {cap : Array Value} {St n0 bL bS bF : Nat} {K : World → Prop} {W W' : World} {N M : Nat} (h : FS r c k cap St n0 bL bS bF K W N) (hK : ∀ A B, K A → Alt (fun k => n0 ≤ k) A B → K B) (hla : ∀ g o, r.la = some ⟨g, o, none⟩ → g < n0)
    (hb : n0 ≤ bL ∧ bL ≠ bS ∧ bL ≠ bF) (ha : Alt (fun k => k = bL) W W') (hl : Boxed W' bL 100 (.int .u16 (M : Nat))) : FS r c k cap St n0 bL bS bF K W' M :=
  ⟨hl, h.s.alt ha (fun e => hb.2.1 e.symm), Boxed.alt h.f ha (fun e => hb.2.2 e.symm), h.ls.alt ha (fun g o e hg => by have := hla g o e; omega), hK _ _ h.k (ha.mono fun k _ e => by omega)⟩

set_option maxRecDepth 100000 in
set_option maxHeartbeats 8000000 in
theorem fall_any (r : Rk) (c : Cs) (k : Nat) (cap : Array Value) (St n0 bL bS bF : Nat) (K : World → Prop) (cb : Lk → Bool) (hK : ∀ A B, K A → Alt (fun k => n0 ≤ k) A B → K B)
    (ek : ∀ args w, (callFunc k args).run Tryd.prog w = .ok (.enter k args) w) (CF : ∀ l W, K W → Calls Tryd.prog k (#[Lk.val l] ++ cap) W fun e W' => e = .returned (.bool (cb l)) ∧ Below W.heap.size W W')
    (hla : ∀ g o, r.la = some ⟨g, o, none⟩ → g < n0) (hb : n0 ≤ bL ∧ bL ≠ bS ∧ bL ≠ bF) (hl : LinksOk r.ls) (hn : r.ls.length ≤ 1000) :
    ∀ (f : Nat) (p : Int) (N : Nat) (W : World), 0 ≤ p → p ≤ 15 → N < 65536 → (els N).length ≤ f → N.testBit p.toNat = true → FS r c k cap St n0 bL bS bF K W N →
    Calls Tryd.prog 109 #[.int .i64 p, .pointer (some ⟨bL, 0, none⟩), .pointer (some ⟨bS, 0, none⟩), .pointer (some ⟨bF, 0, none⟩)] W fun e W' => e = .returned (.tuple #[]) ∧ Boxed W' bL 100 (.int .u16 (fallF r.ls cb f p N : Nat)) ∧ Alt (fun k => k = bL) W W' := by
  obtain ⟨rows, mid, gap, reach, la, lc, L⟩ := r
  simp only at hla hl hn ⊢
  intro f
  induction f with
  | zero =>
    intro p N W p1 p2 hN hs hbit
    have : p ∈ els N := (mem_els _ _).2 ⟨p1, p2, hbit⟩
    have := List.length_pos_of_mem this
    omega
  | succ f ih =>
    intro p N W p1 p2 hN hs hbit h
    have IH := Lib.hid ih
    clear ih
    have hD : dif N (1 <<< p.toNat) < 65536 := dif_lt hN
    have hDs : (els (dif N (1 <<< p.toNat))).length ≤ f := by
      have := size_lt (dif_sub N (1 <<< p.toNat)) p1 p2 hbit (by rw [dif_one]; simp)
      omega
    have hfs := Lib.hid (fallF_succ L cb f p N)
    have E1 := bnot16 hN (bit16 p1 p2)
    have E2 := shl16 p1 p2
    rw [← E2] at E1
    have cL := h.l.cell
    have fL := h.l.frozen
    have G0 : FS ⟨rows, mid, gap, reach, la, lc, L⟩ c k cap St n0 bL bS bF K (W.setCell ⟨bL, 0, none⟩ (.int .u16 (dif N (1 <<< p.toNat) : Nat))) (dif N (1 <<< p.toNat)) := h.go hK hla hb ((Alt.refl (fun k => k = bL) W).setCell (q := ⟨bL, 0, none⟩) rfl _) (Boxed.set _ h.l)
    have A0 := Lib.hid ((Alt.refl (fun k => k = bL) W).setCell (q := ⟨bL, 0, none⟩) rfl (.int .u16 (dif N (1 <<< p.toNat) : Nat)))
    have H := Lib.hid h
    have HG := Lib.hid G0
    generalize dif N (1 <<< p.toNat) = D at *
    generalize fallF L cb (f + 1) p N = RES at *
    have s4 : (W.setCell ⟨bL, 0, none⟩ (.int .u16 (D : Nat))).cell? ⟨bS, 4, none⟩ = some (.slice la L.length lc) := G0.s.cell 4 rfl
    clear h G0 hbit hs E2
    go_enter Tryd.func109, Tryd.ntmps109
    go_wp2_with fail
    go_still_tail 4, (by kernel_rfl)
    go_wp2_with fail
    generalize hW1 : World.drew _ = W1
    have HG1 : Hid (FS ⟨rows, mid, gap, reach, la, lc, L⟩ c k cap St n0 bL bS bF K W1 D) := by rw [← hW1]; exact HG.out.go hK hla hb ((Alt.refl (fun k => k = bL) _).drew) HG.out.l
    have A1 : Hid (Alt (fun k => k = bL) W W1) := by rw [← hW1]; exact A0.out.drew
    clear hW1 s4 E1 cL fL HG A0 H
    go_loopg [15] L.length (fun g s15 wx => ∃ (i M : Nat), i ≤ L.length ∧ g = L.length - i ∧ s15 = .int .i64 (i : Int) ∧ Hid (M = (L.take i).foldl (stepF L cb f p) D) ∧ Hid (FS ⟨rows, mid, gap, reach, la, lc, L⟩ c k cap St n0 bL bS bF K wx M) ∧ Hid (Alt (fun k => k = bL) W wx))
    case atStart => exact ⟨0, D, by omega, rfl, rfl, Lib.hid rfl, HG1, A1⟩
    case round =>
      obtain ⟨i, M, hi, rfl, rfl, hM, hF, hA⟩ := hrel
      clear HG1 A1
      by_cases hlt : i < L.length
      · have hz0 : (0 : Int) ≤ (i : Int) := by omega
        have hz1 : (i : Int) < (L.length : Int) := by omega
        obtain ⟨l, hl0⟩ : ∃ l, L[i]? = some l := ⟨L[i]'hlt, List.getElem?_eq_getElem _⟩
        have hlo := hl l (List.mem_of_getElem? hl0)
        have HL := Lib.hid (hF.out.ls i l hl0)
        have hT := Lib.hid (show (L.take (i + 1)).foldl (stepF L cb f p) D = stepF L cb f p ((L.take i).foldl (stepF L cb f p) D) l from by rw [List.take_add_one, hl0, Option.toList_some, List.foldl_append]; rfl)
        have hMD := fold_le L cb f p (L.take i) D
        rw [← hM.out] at hMD
        have hM16 := Sub.lt hMD hD
        have hMs : (els M).length ≤ f := Nat.le_trans (size_mono hMD) hDs
        have HMD := Lib.hid hMD
        clear hl0 hMD
        obtain ⟨g, o, rfl, k1, k2, k3⟩ := HL.out
        have s9 : wr.cell? ⟨bS, 9, none⟩ = some (.func (.func k) #[] cap) := hF.out.s.cell 9 rfl
        obtain ⟨fr, to, sr⟩ := l
        simp only at *
        clear HL
        have A3 : Alt (fun k => k = bL) wr (wr.alloc (.cells #[.int .i64 fr, .int .i64 to, .bool sr] 86)) := (Alt.refl _ _).alloc _
        have F3 := Lib.hid (hF.out.go hK hla hb A3 (hF.out.l.alloc _))
        have A4 := Lib.hid (hA.out.trans A3)
        clear A3
        by_cases hfr : fr = p
        · subst hfr
          have CX := Lib.hid (CF ⟨fr, to, sr⟩ _ F3.out.k)
          unfold Lk.val at CX
          simp only at CX
          have s9' : (wr.alloc (.cells #[.int .i64 fr, .int .i64 to, .bool sr] 86)).cell? ⟨bS, 9, none⟩ = some (.func (.func k) #[] cap) := F3.out.s.cell 9 rfl
          clear CF
          go_wp2_with fail
          refine CX.out.mono ?_
          rintro e w3 ⟨rfl, hb3⟩
          have Z3 := Lib.hid (show wr.heap.size < (wr.alloc (.cells #[.int .i64 fr, .int .i64 to, .bool sr] 86)).heap.size by simp)
          have x0 := cell_lo hb3 (new_cell wr (cs := #[.int .i64 fr, .int .i64 to, .bool sr]) (t := 86) (i := 0) rfl)
          have x1 := cell_lo hb3 (new_cell wr (cs := #[.int .i64 fr, .int .i64 to, .bool sr]) (t := 86) (i := 1) rfl)
          have A5 : Alt (fun k => k = bL) (wr.alloc (.cells #[.int .i64 fr, .int .i64 to, .bool sr] 86)) w3 := Alt.of_below hb3 (fun k hk h => by omega)
          have F5 := Lib.hid (F3.out.go hK hla hb A5 (Boxed.alt F3.out.l (Alt.of_below (p := fun k => (wr.alloc (.cells #[.int .i64 fr, .int .i64 to, .bool sr] 86)).heap.size ≤ k) hb3 (fun k hk h => h)) (by have := F3.out.l.lt; omega)))
          have A6 := Lib.hid (A4.out.trans A5)
          clear A5 hb3 F3 A4 s9 s9' k1 k2 k3 CX
          have cL := F5.out.l.cell
          have cF := F5.out.f.cell
          cases hcb : cb ⟨fr, to, sr⟩
          · have hS := Lib.hid (show stepF L cb f fr M ⟨fr, to, sr⟩ = M from by unfold stepF; rw [if_neg (fun e => by have := e.2.1; rw [hcb] at this; cases this)])
            clear hcb
            go_wp2_with fail
            go_roundg (L.length - (i + 1))
            case measure => omega
            case rel => exact ⟨i + 1, M, by omega, rfl, by simp, Lib.hid (by rw [hT.out, ← hM.out, hS.out]), F5, A6⟩
          · have HB := Lib.hid (has_bit M to w3 hM16 hlo.2.2.1 hlo.2.2.2)
            go_wp2_with fail
            refine HB.out.mono ?_
            rintro e w4 ⟨rfl, rfl⟩
            cases hbt : M.testBit to.toNat
            · have hS := Lib.hid (show stepF L cb f fr M ⟨fr, to, sr⟩ = M from by unfold stepF; rw [if_neg (fun e => by have := e.2.2; rw [hbt] at this; cases this)])
              clear hcb hbt
              go_wp2_with fail
              go_roundg (L.length - (i + 1))
              case measure => omega
              case rel => exact ⟨i + 1, M, by omega, rfl, by simp, Lib.hid (by rw [hT.out, ← hM.out, hS.out]), F5, A6⟩
            · have hS := Lib.hid (show stepF L cb f fr M ⟨fr, to, sr⟩ = fallF L cb f to M from by unfold stepF; rw [if_pos ⟨rfl, hcb, hbt⟩])
              have IX := Lib.hid (IH.out to M w3 hlo.2.2.1 hlo.2.2.2 hM16 hMs hbt F5.out)
              clear hcb hbt
              go_wp2_with fail
              refine IX.out.mono ?_
              rintro e w5 ⟨rfl, h5, a5⟩
              have F7 := Lib.hid (F5.out.go hK hla hb a5 h5)
              have A7 := Lib.hid (A6.out.trans a5)
              clear h5 a5 cL cF x0 x1
              go_wp2_with fail
              go_roundg (L.length - (i + 1))
              case measure => omega
              case rel => exact ⟨i + 1, fallF L cb f to M, by omega, rfl, by simp, Lib.hid (by rw [hT.out, ← hM.out, hS.out]), F7, A7⟩
        · have hne : (fr == p) = false := by simpa using hfr
          have hS := Lib.hid (show stepF L cb f p M ⟨fr, to, sr⟩ = M from by unfold stepF; rw [if_neg (fun e => hfr e.1)])
          clear hfr CF ek
          go_wp2_with fail
          go_roundg (L.length - (i + 1))
          case measure => omega
          case rel => exact ⟨i + 1, M, by omega, rfl, by simp, Lib.hid (by rw [hT.out, ← hM.out, hS.out]), F3, A4⟩
      · have hz1 : ¬ (i : Int) < (L.length : Int) := by omega
        have hR := Lib.hid (show RES = M from by rw [hfs.out, hM.out, List.take_of_length_le (by omega)])
        clear hlt CF ek
        go_wp2_with fail
        go_end0
        exact ⟨rfl, by rw [hR.out]; exact hF.out.l, hA.out⟩

end Go.Proofs.YtaloffdkadhhnaaDoor
