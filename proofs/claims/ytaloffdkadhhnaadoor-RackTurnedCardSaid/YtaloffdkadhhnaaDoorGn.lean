/- What falls, as the reference goes: rounds over the links; what they leave is what the program leaves. The contracts of the reference's Place and Board. The contract of the reference's Fallen. -/
import Derived.Test.YtaloffdkadhhnaaDoorGb
import Derived.Test.YtaloffdkadhhnaaDoorGj
import Derived.Test.YtaloffdkadhhnaaDoorGk
import Derived.Test.YtaloffdkadhhnaaDoorGl
set_option linter.unusedVariables false
set_option linter.unusedSimpArgs false

namespace Go.Proofs.YtaloffdkadhhnaaDoor
open Go.RowKit

theorem sub_or {a b : Nat} : Sub a (a ||| b) := fun i h => by rw [Nat.testBit_or, h]; rfl
theorem sub_diff {a b : Nat} (h : Sub a b) (hne : a ≠ b) : ∃ i, b.testBit i = true ∧ a.testBit i = false := by
  apply Classical.byContradiction
  intro hc
  apply hne
  apply Nat.eq_of_testBit_eq
  intro i
  cases hb : b.testBit i
  · cases ha : a.testBit i
    · rfl
    · rw [h i ha] at hb; cases hb
  · cases ha : a.testBit i
    · exact absurd ⟨i, hb, ha⟩ hc
    · rfl
theorem sub_size {a b : Nat} (h : Sub a b) (hb : b < 65536) (hne : a ≠ b) : sizeN a < sizeN b := by
  obtain ⟨i, h1, h2⟩ := sub_diff h hne
  have hi := bit_in hb h1
  exact size_lt (p := (i : Int)) h (by omega) (by omega) (by simpa using h1) (by simpa using h2)

/-- One link: it carries, what it comes from is down, what it goes to stood. -/
def passS (St : Nat) (D : Nat) (z : Lk × Bool) : Nat := if z.2 = true ∧ D.testBit z.1.fr.toNat = true ∧ St.testBit z.1.to.toNat = true then D ||| 1 <<< z.1.to.toNat else D
def passF (St : Nat) (zs : List (Lk × Bool)) (D : Nat) : Nat := zs.foldl (passS St) D
def passN (St : Nat) (zs : List (Lk × Bool)) : Nat → Nat → Nat
  | 0, D => D
  | n + 1, D => passF St zs (passN St zs n D)

theorem passS_up (St D : Nat) (z : Lk × Bool) : Sub D (passS St D z) := by
  unfold passS; split
  · exact sub_or
  · exact Sub.refl _
theorem passF_up (St : Nat) (zs : List (Lk × Bool)) (D : Nat) : Sub D (passF St zs D) :=
  fold_inv (fun K => Sub D K) (passS St) zs D (Sub.refl _) fun K z _ h => h.trans (passS_up St K z)
theorem passS_in {St D : Nat} {z : Lk × Bool} (h : Sub D St) : Sub (passS St D z) St := by
  unfold passS; split
  · rename_i hc
    intro i hi
    rw [Nat.testBit_or, Bool.or_eq_true] at hi
    rcases hi with hi | hi
    · exact h i hi
    · rw [one_bit] at hi
      have : i = z.1.to.toNat := by simpa using hi
      rw [this]; exact hc.2.2
  · exact h
theorem passF_in {St D : Nat} {zs : List (Lk × Bool)} (h : Sub D St) : Sub (passF St zs D) St :=
  fold_inv (fun K => Sub K St) (passS St) zs D h fun K z _ hk => passS_in hk
theorem passN_in {St : Nat} {zs : List (Lk × Bool)} {D : Nat} (h : Sub D St) : ∀ n, Sub (passN St zs n D) St
  | 0 => h
  | n + 1 => passF_in (passN_in h n)
theorem passN_up (St : Nat) (zs : List (Lk × Bool)) (D : Nat) : ∀ n, Sub D (passN St zs n D)
  | 0 => Sub.refl _
  | n + 1 => (passN_up St zs D n).trans (passF_up St zs _)

/-- Nothing more falls. -/
def Shut (St : Nat) (zs : List (Lk × Bool)) (D : Nat) : Prop := ∀ z ∈ zs, z.2 = true → D.testBit z.1.fr.toNat = true → St.testBit z.1.to.toNat = true → D.testBit z.1.to.toNat = true

theorem shut_of_fix {St : Nat} {zs : List (Lk × Bool)} {D : Nat} (h : passF St zs D = D) : Shut St zs D := by
  intro z hz h1 h2 h3
  obtain ⟨a, b, rfl⟩ := List.append_of_mem hz
  have e : passF St (a ++ z :: b) D = passF St b (passS St (passF St a D) z) := by unfold passF; rw [List.foldl_append, List.foldl_cons]
  rw [e] at h
  have u1 := passF_up St a D
  have u3 := passF_up St b (passS St (passF St a D) z)
  rw [h] at u3
  apply u3
  unfold passS
  rw [if_pos ⟨h1, u1 _ h2, h3⟩, Nat.testBit_or, one_bit]
  simp
theorem pass_zero {St : Nat} {zs : List (Lk × Bool)} : passF St zs 0 = 0 :=
  fold_inv (fun K => K = 0) (passS St) zs 0 rfl fun K z _ h => by subst h; unfold passS; rw [if_neg]; simp
theorem passN_zero {St : Nat} {zs : List (Lk × Bool)} : ∀ n, passN St zs n 0 = 0
  | 0 => rfl
  | n + 1 => by unfold passN; rw [passN_zero n, pass_zero]
theorem size_pos {N : Nat} (hN : N < 65536) (h : N ≠ 0) : 0 < sizeN N := by
  have := sub_size (a := 0) (b := N) (fun i hi => by simp at hi) hN (Ne.symm h)
  omega
theorem passN_shut {St : Nat} {zs : List (Lk × Bool)} {D : Nat} (hS : St < 65536) (hD : Sub D St) {n : Nat} (hn : sizeN St ≤ n) : Shut St zs (passN St zs n D) := by
  by_cases h0 : D = 0
  · subst h0
    apply shut_of_fix
    rw [passN_zero, pass_zero]
  · have key : ∀ m, passF St zs (passN St zs m D) = passN St zs m D ∨ m + sizeN D ≤ sizeN (passN St zs m D) := by
      intro m
      induction m with
      | zero => right; simp [passN]
      | succ m ih =>
        by_cases hf : passF St zs (passN St zs m D) = passN St zs m D
        · left
          show passF St zs (passF St zs (passN St zs m D)) = passF St zs (passN St zs m D)
          rw [hf, hf]
        · right
          rcases ih with ih | ih
          · exact absurd ih hf
          · have := sub_size (passF_up St zs (passN St zs m D)) ((passF_in (passN_in hD m)).lt hS) (Ne.symm hf)
            show m + 1 + sizeN D ≤ sizeN (passF St zs (passN St zs m D))
            omega
    rcases key n with h | h
    · exact shut_of_fix h
    · exfalso
      have h1 : sizeN (passN St zs n D) ≤ sizeN St := size_mono (passN_in hD n)
      have h2 := size_pos (hD.lt hS) h0
      omega

/-- What the rounds leave is what the program leaves. -/
theorem pass_left {ls : List Lk} {cb : Lk → Bool} {zs : List (Lk × Bool)} {St T n : Nat} (hz : ∀ l, (l, true) ∈ zs ↔ l ∈ ls ∧ cb l = true) (hl : LinksOk ls) (hS : St < 65536) (hT : Sub T St) (hn : sizeN St ≤ n) :
    dif St (passN St zs n T) = leftN ls cb St T := by
  obtain ⟨s1, s2, s3⟩ := leftN_spec ls cb hl St T
  have hle := leftN_le ls cb St T
  apply Sub.antisymm
  · apply s3 _ (dif_sub _ _)
    · intro i hi
      rw [dif_bit] at hi
      simp only [Bool.and_eq_true, Bool.not_eq_true'] at hi
      cases ht : T.testBit i
      · rfl
      · have := passN_up St zs T n i ht
        rw [hi.2] at this; cases this
    · intro l hl1 hc hto hfr
      rw [dif_bit] at hto ⊢
      simp only [Bool.and_eq_true, Bool.not_eq_true'] at hto ⊢
      refine ⟨hfr, ?_⟩
      cases hd : (passN St zs n T).testBit l.fr.toNat
      · rfl
      · have := passN_shut (zs := zs) hS hT hn (l, true) ((hz l).2 ⟨hl1, hc⟩) rfl hd hto.1
        rw [hto.2] at this; cases this
  · intro i hi
    rw [dif_bit]
    simp only [Bool.and_eq_true, Bool.not_eq_true']
    refine ⟨hle i hi, ?_⟩
    have hbase : ∀ j, T.testBit j = true → (leftN ls cb St T).testBit j = false := fun j hj => s1 j hj (bit_in hS (hT j hj))
    have key : ∀ D, (∀ j, D.testBit j = true → (leftN ls cb St T).testBit j = false) → Sub D St → ∀ j, (passF St zs D).testBit j = true → (leftN ls cb St T).testBit j = false := fun D hD hDS => by
      refine (fold_inv (fun K => (∀ j, K.testBit j = true → (leftN ls cb St T).testBit j = false) ∧ Sub K St) (passS St) zs D ⟨hD, hDS⟩ fun K z hzm hK => ⟨?_, passS_in hK.2⟩).1
      intro j hj
      unfold passS at hj
      split at hj
      · rename_i hc
        rw [Nat.testBit_or, Bool.or_eq_true] at hj
        rcases hj with hj | hj
        · exact hK.1 j hj
        · rw [one_bit] at hj
          have ej : j = z.1.to.toNat := by simpa using hj
          cases hr : (leftN ls cb St T).testBit j
          · rfl
          · obtain ⟨l, b⟩ := z
            obtain ⟨rfl, h2, h3⟩ := hc
            obtain ⟨m1, m2⟩ := (hz l).1 hzm
            rw [ej] at hr
            have := s2 l m1 m2 hr (hK.2 _ h2)
            rw [hK.1 _ h2] at this; cases this
      · exact hK.1 j hj
    have all : ∀ m j, (passN St zs m T).testBit j = true → (leftN ls cb St T).testBit j = false := fun m => by
      induction m with
      | zero => exact hbase
      | succ m ih => exact key _ ih (passN_in hT m)
    cases hd : (passN St zs n T).testBit i
    · rfl
    · rw [all n i hd] at hi; cases hi

end Go.Proofs.YtaloffdkadhhnaaDoor

namespace Go.Proofs.YtaloffdkadhhnaaDoor
open Go.RowKit

attribute [local go_sem] Oper.semAt_some

set_option maxRecDepth 100000 in
set_option maxHeartbeats 2000000 in
theorem place2_any (p : Int) (w : World) (p1 : 0 ≤ p) (p2 : p ≤ 9) :
    Calls Tryd.prog 68 #[.int .i64 p] w fun e w' => e = .returned (.tuple #[.int .i64 (rowN p), .int .i64 (kN p)]) ∧ w = w' := by
  have HRes := Lib.hid (show ∀ j : Nat, j ≤ 3 → tri j ≤ p → p - tri j ≤ (j : Int) → rowN p = (j : Int) ∧ kN p = p - tri j from fun j h1 h2 h3 => by
    have : j = 0 ∨ j = 1 ∨ j = 2 ∨ j = 3 := by omega
    unfold rowN kN tri at *
    rcases this with rfl | rfl | rfl | rfl <;> simp at h2 h3 ⊢ <;> constructor <;> (repeat' split) <;> omega)
  have HTr := Lib.hid (show ∀ j : Nat, j ≤ 3 → tri ((j + 1 : Nat) : Int) = tri j + (j + 1) from fun j h1 => by
    have : j = 0 ∨ j = 1 ∨ j = 2 ∨ j = 3 := by omega
    rcases this with rfl | rfl | rfl | rfl <;> rfl)
  have HLt := Lib.hid (show ∀ j : Nat, j ≤ 3 → tri j ≤ p → (j : Int) < p - tri j → j ≤ 2 from fun j h1 h2 h3 => by
    have : j = 0 ∨ j = 1 ∨ j = 2 ∨ j = 3 := by omega
    unfold tri at *
    rcases this with rfl | rfl | rfl | rfl <;> simp at h3 ⊢ <;> omega)
  have HBd := Lib.hid (show ∀ j : Nat, j ≤ 3 → 0 ≤ tri j ∧ tri j ≤ 10 from fun j h1 => by
    have : j = 0 ∨ j = 1 ∨ j = 2 ∨ j = 3 := by omega
    unfold tri
    rcases this with rfl | rfl | rfl | rfl <;> simp)
  have HT0 := Lib.hid (show tri ((0 : Nat) : Int) = 0 from rfl)
  go_enter Tryd.func68, Tryd.ntmps68
  go_wp2_with fail
  go_loopg [0, 4] 3 (fun g s0 s4 wx => ∃ j : Nat, j ≤ 3 ∧ g = 3 - j ∧ s4 = .int .i64 (j : Int) ∧ s0 = .int .i64 (p - tri j) ∧ Hid (tri j ≤ p) ∧ w = wx)
  case atStart => exact ⟨0, by omega, by omega, rfl, by rw [HT0.out]; simp, Lib.hid (by rw [HT0.out]; exact p1), rfl⟩
  case round =>
    obtain ⟨j, hj, rfl, rfl, rfl, hA, rfl⟩ := hrel
    have hb := HBd.out j hj
    by_cases hlt : (j : Int) < p - tri j
    · have hj2 := HLt.out j hj hA.out hlt
      have HN := Lib.hid (HTr.out j hj)
      have HA := Lib.hid hA.out
      generalize tri (j : Int) = T at *
      go_wp2_with fail
      go_roundg (3 - (j + 1))
      case measure => omega
      case rel => exact ⟨j + 1, by omega, rfl, by simp, by rw [HN.out]; first | rfl | (congr 1; omega), Lib.hid (by rw [HN.out]; have := HA.out; omega), rfl⟩
    · have HV := Lib.hid (HRes.out j hj hA.out (by omega))
      have hz : ¬ (j : Int) < p - tri j := hlt
      generalize tri (j : Int) = T at *
      go_wp2_with fail
      go_returns
      exact ⟨by rw [HV.out.1, HV.out.2]; first | done | rfl, rfl⟩

set_option maxRecDepth 100000 in
set_option maxHeartbeats 2000000 in
theorem board2_any (r : Rk) (p : Int) (w : World) (ok : r.Ok) (p1 : 0 ≤ p) (p2 : p ≤ 9) :
    Calls Tryd.prog 69 #[r.val, .int .i64 p] w fun e w' => e = .returned (.int .i64 (boardN r p)) ∧ Below w.heap.size w w' := by
  have PL := Lib.hid (fun W => place2_any p W p1 p2)
  have S0 := Lib.hid (St.start r w)
  have hbd := boardN_bd ok p1 p2
  have hrow := rowN_bd p1 p2
  have hg := gap_bd ok.g1 ok.g2 (x := 2 * kN p - rowN p) (by omega) (by omega)
  have HV := Lib.hid (show boardN r p = r.mid + r.gap * (2 * kN p - rowN p) from rfl)
  have hm1 := ok.m1
  have hm2 := ok.m2
  unfold rCells at S0
  unfold Rk.val
  have ew1 : IntKind.i64.wrap (2 * kN p) = 2 * kN p := IntWalk.i64_in _ (by omega)
  have ew2 : IntKind.i64.wrap (2 * kN p - rowN p) = 2 * kN p - rowN p := IntWalk.i64_in _ (by omega)
  have ew3 : IntKind.i64.wrap (r.gap * (2 * kN p - rowN p)) = r.gap * (2 * kN p - rowN p) := IntWalk.i64_in _ (by omega)
  have ew4 : IntKind.i64.wrap (r.mid + r.gap * (2 * kN p - rowN p)) = r.mid + r.gap * (2 * kN p - rowN p) := IntWalk.i64_in _ (by omega)
  generalize boardN r p = B at *
  generalize kN p = k at *
  generalize rowN p = ro at *
  go_enter Tryd.func69, Tryd.ntmps69
  go_wp2_with fail
  refine (PL.out _).mono ?_
  rintro e w1 ⟨rfl, rfl⟩
  obtain ⟨r0, r1, r2, r3, r4⟩ := S0.out.c
  go_wp2_with fail
  go_returns
  exact ⟨by rw [HV.out]; first | done | rfl, S0.out.bl⟩

end Go.Proofs.YtaloffdkadhhnaaDoor

namespace Go.Proofs.YtaloffdkadhhnaaDoor
open Go.RowKit

attribute [local go_sem] Oper.semAt_some

/-- Which pins are down, as cells. -/
def dwn (D P : Nat) : Array Value := ((List.range P).map fun i => Value.bool (D.testBit i)).toArray
theorem dwn_at {D P i : Nat} (h : i < P) : (dwn D P)[i]? = some (.bool (D.testBit i)) := by unfold dwn; simp [h]
theorem dwn_set {D D' P i : Nat} {b : Bool} (h : ∀ j, D'.testBit j = if j = i then b else D.testBit j) : (dwn D P).setIfInBounds i (.bool b) = dwn D' P := by
  unfold dwn
  apply Array.ext_getElem?
  intro j
  rw [Array.getElem?_setIfInBounds]
  simp only [List.getElem?_toArray, List.getElem?_map, List.size_toArray, List.length_map, List.length_range]
  by_cases hj : j < P
  · rw [List.getElem?_range hj]
    by_cases e : i = j
    · subst e; simp [hj, h]
    · rw [if_neg e]; simp [h, Ne.symm e]
  · by_cases e : i = j
    · subst e; simp [hj]
    · rw [if_neg e, List.getElem?_eq_none (by simp; omega)]; simp

theorem made_1 : madeCells (Value.bool false).cells (1 * 1) = dwn 0 1 := by kernel_rfl
theorem made_2 : madeCells (Value.bool false).cells (2 * 1) = dwn 0 2 := by kernel_rfl
theorem made_3 : madeCells (Value.bool false).cells (3 * 1) = dwn 0 3 := by kernel_rfl
theorem made_4 : madeCells (Value.bool false).cells (4 * 1) = dwn 0 4 := by kernel_rfl
theorem made_5 : madeCells (Value.bool false).cells (5 * 1) = dwn 0 5 := by kernel_rfl
theorem made_6 : madeCells (Value.bool false).cells (6 * 1) = dwn 0 6 := by kernel_rfl
theorem made_7 : madeCells (Value.bool false).cells (7 * 1) = dwn 0 7 := by kernel_rfl
theorem made_8 : madeCells (Value.bool false).cells (8 * 1) = dwn 0 8 := by kernel_rfl
theorem made_9 : madeCells (Value.bool false).cells (9 * 1) = dwn 0 9 := by kernel_rfl
theorem made_10 : madeCells (Value.bool false).cells (10 * 1) = dwn 0 10 := by kernel_rfl
theorem made_dwn {P : Nat} (h1 : 1 ≤ P) (h2 : P ≤ 10) : madeCells (Value.bool false).cells (P * 1) = dwn 0 P := by
  have : P = 1 ∨ P = 2 ∨ P = 3 ∨ P = 4 ∨ P = 5 ∨ P = 6 ∨ P = 7 ∨ P = 8 ∨ P = 9 ∨ P = 10 := by omega
  rcases this with rfl | rfl | rfl | rfl | rfl | rfl | rfl | rfl | rfl | rfl
  · exact made_1
  · exact made_2
  · exact made_3
  · exact made_4
  · exact made_5
  · exact made_6
  · exact made_7
  · exact made_8
  · exact made_9
  · exact made_10

structure FD (r : Rk) (w : World) (d P : Nat) (W : World) (D : Nat) : Prop where
  bl : Below w.heap.size w W
  bK : Blk W w.heap.size (rCells r) 24
  bD : Blk W d (dwn D P) 4
  hd : w.heap.size < d
theorem FD.go {r : Rk} {w W W' : World} {d P D : Nat} (h : FD r w d P W D) (hb : Below W.heap.size W W') : FD r w d P W' D :=
  ⟨below_go h.bl hb, Blk.alt h.bK (Alt.of_below (p := fun k => W.heap.size ≤ k) hb (fun k _ e => e)) (by have := h.bK.lt; omega), Blk.alt h.bD (Alt.of_below (p := fun k => W.heap.size ≤ k) hb (fun k _ e => e)) (by have := h.bD.lt; omega), h.hd⟩
theorem FD.set {r : Rk} {w W : World} {d P D D' i : Nat} {b : Bool} (h : FD r w d P W D) (hD : ∀ j, D'.testBit j = if j = i then b else D.testBit j) : FD r w d P (W.setCell ⟨d, i, none⟩ (.bool b)) D' := by
  have ha : Alt (fun k => k = d) W (W.setCell ⟨d, i, none⟩ (.bool b)) := (Alt.refl (fun k => k = d) W).setCell (q := ⟨d, i, none⟩) rfl _
  have hd := h.hd
  refine ⟨?_, Blk.alt h.bK ha (by omega), by have := h.bD.setAt i (.bool b); rwa [dwn_set hD] at this, hd⟩
  exact ((Alt.of_below (p := fun k => w.heap.size ≤ k) h.bl (fun k _ e => e)).trans (ha.mono fun k _ e => by omega)).below (Nat.le_refl _) fun k e => e
theorem FD.c {r : Rk} {w W : World} {d P D : Nat} (h : FD r w d P W D) :
    W.cell? ⟨w.heap.size, 0, none⟩ = some (.int .i64 r.rows) ∧ W.cell? ⟨w.heap.size, 1, none⟩ = some (.int .i64 r.mid) ∧ W.cell? ⟨w.heap.size, 2, none⟩ = some (.int .i64 r.gap) ∧
    W.cell? ⟨w.heap.size, 3, none⟩ = some (.int .i64 r.reach) ∧ W.cell? ⟨w.heap.size, 4, none⟩ = some (.slice r.la r.ls.length r.lc) :=
  ⟨h.bK.cell 0 rfl, h.bK.cell 1 rfl, h.bK.cell 2 rfl, h.bK.cell 3 rfl, h.bK.cell 4 rfl⟩

theorem inB_dist (a b n : Int) : inB (a - b) (-n) n = decide (dist a b ≤ n) := by
  unfold inB dist
  rw [Bool.eq_iff_iff]
  simp
  split <;> omega
theorem toCs_at {bs : List Int} {q : Nat} {b : Int} (h : bs[q]? = some b) (hq : q ≤ 3) : (toCs bs).at (q : Int) = b := by
  have : q = 0 ∨ q = 1 ∨ q = 2 ∨ q = 3 := by omega
  rcases this with rfl | rfl | rfl | rfl <;> exact getD_of h

/-- The pins of a set below a number, rising. -/
def elsP (D n : Nat) : List Int := ((List.range n).filter fun i => D.testBit i).map fun (i : Nat) => (i : Int)
theorem elsP_succ (D n : Nat) : elsP D (n + 1) = elsP D n ++ if D.testBit n then [(n : Int)] else [] := by
  unfold elsP; rw [List.range_succ, List.filter_append, List.map_append]
  cases h : D.testBit n <;> simp [List.filter, h]
theorem elsP_len (D n : Nat) : (elsP D n).length ≤ n := by unfold elsP; rw [List.length_map]; exact Nat.le_trans (List.length_filter_le _ _) (by simp)
theorem elsP_els {D n : Nat} (h : ∀ i, D.testBit i = true → i < n) (hn : n ≤ 16) : elsP D n = els D := by
  refine rise_ext ?_ (els_rise _) fun x => ?_
  · unfold elsP
    rw [List.pairwise_map]
    exact (List.pairwise_lt_range.filter _).imp fun h => by omega
  · rw [mem_els]; unfold elsP
    rw [List.mem_map]
    constructor
    · rintro ⟨i, hi, rfl⟩
      have := List.mem_filter.1 hi
      have h1 := List.mem_range.1 this.1
      exact ⟨by omega, by omega, by simpa using this.2⟩
    · rintro ⟨h0, h1, h2⟩
      exact ⟨x.toNat, List.mem_filter.2 ⟨List.mem_range.2 (h _ h2), h2⟩, by omega⟩

/-- What falls, by the reference. -/
def falN (r : Rk) (xs bs : List Int) (cs : List Bool) : Nat := passN (setN xs) (r.ls.zip cs) (pinsN r.rows).toNat (setN (xs.filter (reachB r (toCs bs))))
theorem passS_bit {St D : Nat} {l : Lk} {b : Bool} (j : Nat) : (passS St D (l, b)).testBit j = if j = l.to.toNat ∧ b = true ∧ D.testBit l.fr.toNat = true ∧ St.testBit l.to.toNat = true then true else D.testBit j := by
  unfold passS
  by_cases h : b = true ∧ D.testBit l.fr.toNat = true ∧ St.testBit l.to.toNat = true
  · rw [if_pos h, Nat.testBit_or, one_bit]
    by_cases e : j = l.to.toNat
    · rw [if_pos ⟨e, h⟩]; simp [e]
    · rw [if_neg (fun c => e c.1)]; simp [e]
  · rw [if_neg h, if_neg (fun c => h c.2)]

set_option maxRecDepth 100000 in
set_option maxHeartbeats 8000000 in
theorem fallen_any (r : Rk) (xs : List Int) (a : Option Addr) (c : Nat) (bs : List Int) (a2 : Option Addr) (c2 : Nat) (cs : List Bool) (a3 : Option Addr) (c3 : Nat) (w : World) (hL : LinksAt w r.la r.ls) (hck : chkE r xs = 0)
    (hX : IntsAt w a xs) (hB : IntsAt w a2 bs) (hbl : (bs.length : Int) = r.rows) (hbb : ∀ b ∈ bs, -1000 ≤ b ∧ b ≤ 1000) (hC : BoolsAt w a3 cs) (hcl : cs.length = r.ls.length) :
    Calls Tryd.prog 33 #[r.val, .slice a xs.length c, .slice a2 bs.length c2, .slice a3 cs.length c3] w (RetI (els (falN r xs bs cs)) w) := by
  have hf := faultN_ok (chk_ok hck).1
  have ok := hf.1
  have hl12 := hf.2.1
  have HLK := Lib.hid (linksOk_of (chk_ok hck).1)
  have HLP := Lib.hid (show ∀ l ∈ r.ls, l.fr < pinsN r.rows ∧ l.to < pinsN r.rows from fun l hl => by
    have := hf.2.2.2 l hl
    unfold wrongB at this
    simp only [Bool.or_eq_false_iff, Bool.not_eq_false'] at this
    have a := inB_iff.1 this.1; have b := inB_iff.1 this.2.1
    omega)
  have HXB := Lib.hid (hasL_out (chk_ok hck).2)
  have hset := chk_set hck
  obtain ⟨P, hP⟩ : ∃ P : Nat, (P : Int) = pinsN r.rows := ⟨(pinsN r.rows).toNat, by have := @pinsN_bd r; omega⟩
  have hP10 : 1 ≤ P ∧ P ≤ 10 := by have := @pinsN_bd r; omega
  have hxl : xs.length ≤ 16 := by rw [← hset.2.2]; exact els_len
  have hrow : ∀ x ∈ xs, ∃ q : Nat, rowN x = (q : Int) ∧ q < bs.length ∧ q ≤ 3 := fun x hx => by
    have h1 := HXB.out.2 x hx
    have h2 := ok.r1; have h3 := ok.r2
    have hrn : rowN x < r.rows := by
      unfold pinsN at h1; unfold rowN
      by_cases q1 : r.rows = 1
      · rw [if_pos q1] at h1; rw [if_pos (by omega)]; omega
      · rw [if_neg q1] at h1
        by_cases q2 : r.rows = 2
        · rw [if_pos q2] at h1; split
          · omega
          · rw [if_pos (by omega)]; omega
        · rw [if_neg q2] at h1
          by_cases q3 : r.rows = 3
          · rw [if_pos q3] at h1; split
            · omega
            · split
              · omega
              · rw [if_pos (by omega)]; omega
          · have : r.rows = 4 := by omega
            split
            · omega
            · split
              · omega
              · split <;> omega
    have h0 := rowN_bd h1.1 (by omega : x ≤ 9)
    exact ⟨(rowN x).toNat, by omega, by omega, by omega⟩
  have HROW := Lib.hid hrow
  have HX := Lib.hid hX; have HB := Lib.hid hB; have HC := Lib.hid hC; have HL := Lib.hid hL
  have HBB := Lib.hid hbb
  have PN := Lib.hid (fun W => refPins_any r W ok.r1 ok.r2)
  have PL := Lib.hid (fun x W p1 p2 => place2_any x W p1 p2)
  have BD := Lib.hid (fun x W p1 p2 => board2_any r x W ok p1 p2)
  have HHS := Lib.hid (fun x W (hb : Below w.heap.size w W) => has_any xs x a c W (hX.lo hb) (by omega))
  have HBR := Lib.hid (fun x p1 p2 => @boardN_bd r x ok p1 p2)
  have hr1 := ok.c1
  have hr2 := ok.c2
  obtain ⟨i4, hi4, hx0, hx1, hx2⟩ := info_parts (show (Tryd.prog.info? 4).map (fun i => (i.zero, i.size, i.bytes)) = some (some (.bool false), 1, 1) by kernel_rfl)
  have hmk : ∀ W : World, (Instr.makeSlice 48 (.int .i64 (P : Int)) (.int .i64 (P : Int))).run Tryd.prog W = .ok (.slice (some ⟨W.heap.size, 0, none⟩) P P) (W.alloc (.cells (dwn 0 P) 4)) := fun W => by
    have h := run_makeSlice (P := Tryd.prog) W 48 4 i4 (.bool false) Tryd.underlying48 hi4 hx0 .i64 .i64 P P (by omega) (by omega) (by rw [hx1]; simp; omega) (by rw [hx2]; omega) (by omega)
    have hM : madeCells (Value.bool false).cells (Int.toNat (P : Int) * i4.size) = dwn 0 P := by
      rw [hx1, Int.toNat_natCast]
      exact made_dwn hP10.1 hP10.2
    rw [h, hM]; simp
  obtain ⟨i3, hi3, hy0, hy1, hy2⟩ := info_parts info3
  have HPOST : Hid (∀ e w', (∃ a c, e = .returned (.slice a (els (falN r xs bs cs)).length c) ∧ IntsAt w' a (els (falN r xs bs cs)) ∧ (a = none → els (falN r xs bs cs) = [] ∧ c = 0) ∧ Below w.heap.size w w') → RetI (els (falN r xs bs cs)) w e w') := Lib.hid (fun e w' h => h)
  have HFAL := Lib.hid (show falN r xs bs cs = passN (setN xs) (r.ls.zip cs) P (setN (xs.filter (reachB r (toCs bs)))) from by unfold falN; rw [← hP, Int.toNat_natCast])
  generalize hPost : RetI (els (falN r xs bs cs)) w = Post
  rw [hPost] at HPOST
  clear hPost
  generalize falN r xs bs cs = FALN at *
  have S0 := Lib.hid (St.start r w)
  have HP := Lib.hid hP
  have HTS := Lib.hid (fun pre x => touch_snoc r (toCs bs) pre x)
  have HRB := Lib.hid (show ∀ x q b, rowN x = ((q : Nat) : Int) → bs[q]? = some b → q ≤ 3 → reachB r (toCs bs) x = inB (boardN r x - b) (-r.reach) r.reach from fun x q b h1 h2 h3 => by
    unfold reachB; rw [h1, toCs_at h2 h3, inB_dist])
  have HSX := Lib.hid hset
  rw [← hP] at PN
  have HBL := Lib.hid hbl
  have HCL := Lib.hid hcl
  clear hf ok hL hX hB hC hck hset hrow hbb hP hi4 hx0 hx1 hx2 hbl hcl
  generalize hRB : reachB r (toCs bs) = RB at *
  clear hRB
  unfold rCells at S0
  unfold Rk.val at *
  go_enter Tryd.func33, Tryd.ntmps33
  obtain ⟨r0, r1, r2, r3, r4⟩ := S0.out.c
  go_wp2_with fail
  refine (PN.out _).mono ?_
  rintro e w1 ⟨rfl, hb⟩
  have S1 := Lib.hid (S0.out.go hb)
  clear hb S0 r0 r1 r2 r3 r4
  have F1 := Lib.hid (show FD r w w1.heap.size P (w1.alloc (.cells (dwn 0 P) 4)) (setN (([] : List Int).filter RB)) from
    ⟨(S1.out.go (below_al _ _)).bl, (S1.out.go (below_al _ _)).bK, Blk.new _ _ _, S1.out.bK.lt⟩)
  clear S1
  generalize hdd : w1.heap.size = d at *
  go_wp2_with fail
  generalize w1.alloc (.cells (dwn 0 P) 4) = w2 at *
  try rw [hdd]
  go_loopg [10, 11, 12, 13] xs.length (fun g s10 s11 s12 s13 wx => ∃ (i : Nat), i ≤ xs.length ∧ g = xs.length - i ∧ s10 = .int .i64 (i : Int) ∧ Hid (FD r w d P wx (setN ((xs.take i).filter RB))))
  case atStart => exact ⟨0, by omega, by omega, rfl, F1⟩
  case round =>
    obtain ⟨i, hi, rfl, rfl, hF⟩ := hrel
    clear F1
    by_cases hlt : i < xs.length
    · obtain ⟨x, hx⟩ : ∃ x, xs[i]? = some x := ⟨xs[i]'hlt, List.getElem?_eq_getElem _⟩
      have hxm := List.mem_of_getElem? hx
      obtain ⟨g, o, rfl, k1⟩ := HX.out _ _ hx
      have hz0 : (0 : Int) ≤ (i : Int) := by omega
      have hz1 : (i : Int) < (xs.length : Int) := by omega
      obtain ⟨hx1, hx2⟩ := HXB.out.2 x hxm
      obtain ⟨q, hq, hq2, hq3⟩ := HROW.out x hxm
      obtain ⟨b, hbq⟩ : ∃ b, bs[q]? = some b := ⟨bs[q]'hq2, List.getElem?_eq_getElem _⟩
      obtain ⟨g2, o2, rfl, k2⟩ := HB.out _ _ hbq
      have hbb := HBB.out b (List.mem_of_getElem? hbq)
      have hx9 : x ≤ 9 := by have := HP.out; omega
      have hxP : x < (P : Int) := by have := HP.out; omega
      have PLx := Lib.hid (fun W => PL.out x W hx1 hx9)
      have BDx := Lib.hid (fun W => BD.out x W hx1 hx9)
      have hbr := HBR.out x hx1 hx9
      have HR := Lib.hid (HRB.out x q b hq hbq hq3)
      have HT := Lib.hid (show setN ((xs.take (i + 1)).filter RB) = if RB x then setN ((xs.take i).filter RB) ||| 1 <<< x.toNat else setN ((xs.take i).filter RB) by rw [take_next hx]; exact HTS.out _ _)
      have HNX := Lib.hid (show (setN ((xs.take i).filter RB)).testBit x.toNat = false by
        cases hh : (setN ((xs.take i).filter RB)).testBit x.toNat
        · rfl
        · exfalso
          have hbd : ∀ y ∈ (xs.take i).filter RB, 0 ≤ y ∧ y ≤ 15 := fun y hy => by
            have := HXB.out.2 y (List.mem_of_mem_take (List.mem_filter.1 hy).1); have := HP.out; omega
          have h1 := (setN_has hbd hx1).1 hh
          have h2 := (List.mem_filter.1 h1).1
          obtain ⟨j, hj, e⟩ := List.mem_take_iff_getElem.1 h2
          have h3 := List.pairwise_iff_getElem.1 HXB.out.1 j i (by omega) hlt (by omega)
          have h4 : xs[i]'hlt = x := by rw [List.getElem?_eq_getElem hlt] at hx; exact Option.some.inj hx
          omega)
      rw [hq] at PLx
      generalize setN ((xs.take i).filter RB) = D at *
      generalize hD2 : setN ((xs.take (i + 1)).filter RB) = D2 at *
      have HS := Lib.hid (show ∀ W, FD r w d P W D → FD r w d P (W.setCell ⟨d, x.toNat, none⟩ (.bool (inB (boardN r x - b) (-r.reach) r.reach))) D2 from fun W h => h.set fun j => by
        rw [HT.out, ← HR.out]
        cases hR : RB x
        · by_cases e : j = x.toNat
          · subst e; simp [HNX.out]
          · simp [e]
        · simp only [if_true, Nat.testBit_or, one_bit]
          by_cases e : j = x.toNat
          · simp [e]
          · simp [e])
      have SP := Lib.hid (show ∀ W D, FD r w d P W D → (W.cell? ⟨w.heap.size, 0, none⟩ = some (.int .i64 r.rows) ∧ W.cell? ⟨w.heap.size, 1, none⟩ = some (.int .i64 r.mid) ∧ W.cell? ⟨w.heap.size, 2, none⟩ = some (.int .i64 r.gap) ∧ W.cell? ⟨w.heap.size, 3, none⟩ = some (.int .i64 r.reach) ∧ W.cell? ⟨w.heap.size, 4, none⟩ = some (.slice r.la r.ls.length r.lc)) ∧ W.cell? ⟨g, o + i, none⟩ = some (.int .i64 x) ∧ W.cell? ⟨g2, o2 + q, none⟩ = some (.int .i64 b) from fun W D h => ⟨h.c, cell_lo h.bl k1, cell_lo h.bl k2⟩)
      have ew1 : IntKind.i64.wrap (boardN r x - b) = boardN r x - b := IntWalk.i64_in _ (by omega)
      have ew2 : IntKind.i64.wrap (-r.reach) = -r.reach := IntWalk.i64_in _ (by omega)
      have hqb : (q : Int) < (bs.length : Int) := by omega
      have hq0 : (0 : Int) ≤ (q : Int) := by omega
      generalize boardN r x = bx at *
      clear hbr hxm hq hx hbq k1 k2 HR HT HNX hbb PN
      obtain ⟨⟨r0, r1, r2, r3, r4⟩, kx, kb⟩ := SP.out _ _ hF.out
      go_wp2_with fail
      refine (PLx.out _).mono ?_
      rintro e wA ⟨rfl, rfl⟩
      have FA := Lib.hid (hF.out.go (Below.drew (Below.refl _ _)))
      clear r0 r1 r2 r3 r4 kx kb
      go_wp2_with fail
      refine wp_region_held_drew (S := (fun W => (W.cell? ⟨w.heap.size, 0, none⟩ = some (.int .i64 r.rows) ∧ W.cell? ⟨w.heap.size, 1, none⟩ = some (.int .i64 r.mid) ∧ W.cell? ⟨w.heap.size, 2, none⟩ = some (.int .i64 r.gap) ∧ W.cell? ⟨w.heap.size, 3, none⟩ = some (.int .i64 r.reach) ∧ W.cell? ⟨w.heap.size, 4, none⟩ = some (.slice r.la r.ls.length r.lc)) ∧ W.cell? ⟨g, o + i, none⟩ = some (.int .i64 x) ∧ W.cell? ⟨g2, o2 + q, none⟩ = some (.int .i64 b))) (by kernel_rfl) ?_ (fun hHeld => ?_)
      · (try dsimp only); (with_reducible first | exact SP.out _ _ FB.out | exact SP.out _ _ FA.out)
      refine wpAnyH_take (i := 0) (oi := { dst := some 36, op := Op.load 24 (Operand.tmp 4), type := 24, pos := "ref.go:171", after := #[], guard := none }) (v := ?v_fn6_0) rfl (by kernel_rfl) (by kernel_rfl) (by kernel_rfl) (fun _ _ _ h => h) (Or.inl ⟨by rfl, ?y_fn6_0⟩) (by assumption) ?_
      case y_fn6_0 => intro w hSw; (try dsimp only at hSw); go_simp; with_reducible rfl
      try simp only [Act.put, List.setIfInBounds_toArray, List.set_cons_zero, List.set_cons_succ]
      refine wpAnyH_take (i := 1) (oi := { dst := some 37, op := Op.move (Operand.tmp 1), type := 25, pos := "ref.go:171", after := #[], guard := none }) (v := ?v_fn6_1) rfl (by kernel_rfl) (by kernel_rfl) (by kernel_rfl) (fun _ _ _ h => h) (Or.inl ⟨by rfl, ?y_fn6_1⟩) (by assumption) ?_
      case y_fn6_1 => intro w hSw; (try dsimp only at hSw); go_simp; with_reducible rfl
      try simp only [Act.put, List.setIfInBounds_toArray, List.set_cons_zero, List.set_cons_succ]
      refine wpAnyH_take (i := 2) (oi := { dst := some 38, op := Op.move (Operand.tmp 10), type := 3, pos := "ref.go:171", after := #[], guard := none }) (v := ?v_fn6_2) rfl (by kernel_rfl) (by kernel_rfl) (by kernel_rfl) (fun _ _ _ h => h) (Or.inl ⟨by rfl, ?y_fn6_2⟩) (by assumption) ?_
      case y_fn6_2 => intro w hSw; (try dsimp only at hSw); go_simp; with_reducible rfl
      try simp only [Act.put, List.setIfInBounds_toArray, List.set_cons_zero, List.set_cons_succ]
      refine wpAnyH_take (i := 3) (oi := { dst := some 39, op := Op.indexAddr 25 (Operand.tmp 37) (Operand.tmp 38), type := 0, pos := "ref.go:171", after := #[{ on := 1, ground := Ground.data }, { on := 2, ground := Ground.data }], guard := none }) (v := ?v_fn6_3) rfl (by kernel_rfl) (by kernel_rfl) (by kernel_rfl) (fun _ _ _ h => h) (Or.inl ⟨by rfl, ?y_fn6_3⟩) (by assumption) ?_
      case y_fn6_3 => intro w hSw; (try dsimp only at hSw); go_simp; with_reducible rfl
      try simp only [Act.put, List.setIfInBounds_toArray, List.set_cons_zero, List.set_cons_succ]
      refine wpAnyH_take (i := 4) (oi := { dst := some 40, op := Op.load 3 (Operand.tmp 39), type := 3, pos := "ref.go:171", after := #[{ on := 3, ground := Ground.data }], guard := none }) (v := ?v_fn6_4) rfl (by kernel_rfl) (by kernel_rfl) (by kernel_rfl) (fun _ _ _ h => h) (Or.inl ⟨by rfl, ?y_fn6_4⟩) (by assumption) ?_
      case y_fn6_4 => intro w hSw; (try dsimp only at hSw); go_simp; with_reducible rfl
      try simp only [Act.put, List.setIfInBounds_toArray, List.set_cons_zero, List.set_cons_succ]
      refine wpAnyH_take (i := 6) (oi := { dst := some 42, op := Op.move (Operand.tmp 2), type := 25, pos := "ref.go:171", after := #[], guard := none }) (v := ?v_fn6_5) rfl (by kernel_rfl) (by kernel_rfl) (by kernel_rfl) (fun _ _ _ h => h) (Or.inl ⟨by rfl, ?y_fn6_5⟩) (by assumption) ?_
      case y_fn6_5 => intro w hSw; (try dsimp only at hSw); go_simp; with_reducible rfl
      try simp only [Act.put, List.setIfInBounds_toArray, List.set_cons_zero, List.set_cons_succ]
      refine wpAnyH_take (i := 7) (oi := { dst := some 43, op := Op.move (Operand.tmp 11), type := 3, pos := "ref.go:171", after := #[], guard := none }) (v := ?v_fn6_6) rfl (by kernel_rfl) (by kernel_rfl) (by kernel_rfl) (fun _ _ _ h => h) (Or.inl ⟨by rfl, ?y_fn6_6⟩) (by assumption) ?_
      case y_fn6_6 => intro w hSw; (try dsimp only at hSw); go_simp; with_reducible rfl
      try simp only [Act.put, List.setIfInBounds_toArray, List.set_cons_zero, List.set_cons_succ]
      refine wpAnyH_take (i := 8) (oi := { dst := some 44, op := Op.indexAddr 25 (Operand.tmp 42) (Operand.tmp 43), type := 0, pos := "ref.go:171", after := #[{ on := 6, ground := Ground.data }, { on := 7, ground := Ground.data }], guard := none }) (v := ?v_fn6_7) rfl (by kernel_rfl) (by kernel_rfl) (by kernel_rfl) (fun _ _ _ h => h) (Or.inl ⟨by rfl, ?y_fn6_7⟩) (by assumption) ?_
      case y_fn6_7 => intro w hSw; (try dsimp only at hSw); go_simp; with_reducible rfl
      try simp only [Act.put, List.setIfInBounds_toArray, List.set_cons_zero, List.set_cons_succ]
      refine wpAnyH_take (i := 9) (oi := { dst := some 45, op := Op.load 3 (Operand.tmp 44), type := 3, pos := "ref.go:171", after := #[{ on := 8, ground := Ground.data }], guard := none }) (v := ?v_fn6_8) rfl (by kernel_rfl) (by kernel_rfl) (by kernel_rfl) (fun _ _ _ h => h) (Or.inl ⟨by rfl, ?y_fn6_8⟩) (by assumption) ?_
      case y_fn6_8 => intro w hSw; (try dsimp only at hSw); go_simp; with_reducible rfl
      try simp only [Act.put, List.setIfInBounds_toArray, List.set_cons_zero, List.set_cons_succ]
      refine wpAnyH_ready (rs := [5]) (by kernel_rfl) (by simp) ?_
      refine AllReadyH.cons (o := { dst := some 41, op := Op.call { callee := Callee.value (Operand.func 69), args := #[Operand.tmp 36, Operand.tmp 40], argTypes := #[24, 3] }, type := 3, pos := "ref.go:171", after := #[{ on := 0, ground := Ground.data }, { on := 4, ground := Ground.data }], guard := none }) rfl (fun K hK => ?_) ?_
      go_simp
      (first | (go_at_call 69; (with_reducible refine (BDx.out _).mono ?_); rintro e wB ⟨rfl, hb⟩; have FB := Lib.hid (FA.out.go hb); clear hb))
      go_wp2_with fail
      refine hK.out _ _ ?_ (fun hHeld => ?_)
      · (try dsimp only); (with_reducible first | exact SP.out _ _ FB.out | exact SP.out _ _ FA.out)
      clear hK K
      try simp only [Act.put, List.setIfInBounds_toArray, List.set_cons_zero, List.set_cons_succ]
      refine wpAnyH_take (i := 10) (oi := { dst := some 46, op := Op.binOp BinOp.sub 3 (Operand.tmp 41) (Operand.tmp 45) 3, type := 3, pos := "ref.go:171", after := #[{ on := 5, ground := Ground.data }, { on := 9, ground := Ground.data }], guard := none }) (v := ?v_fn6_9) rfl (by kernel_rfl) (by kernel_rfl) (by kernel_rfl) (fun _ _ _ h => h) (Or.inl ⟨by rfl, ?y_fn6_9⟩) (by assumption) ?_
      case y_fn6_9 => intro w hSw; (try dsimp only at hSw); go_simp; with_reducible rfl
      try simp only [Act.put, List.setIfInBounds_toArray, List.set_cons_zero, List.set_cons_succ]
      refine wpAnyH_take (i := 11) (oi := { dst := some 13, op := Op.assign (Operand.tmp 46), type := 3, pos := "ref.go:171", after := #[{ on := 10, ground := Ground.data }, { on := 5, ground := Ground.chain }, { on := 0, ground := Ground.phase }, { on := 1, ground := Ground.phase }, { on := 2, ground := Ground.phase }, { on := 3, ground := Ground.phase }, { on := 4, ground := Ground.phase }, { on := 5, ground := Ground.phase }, { on := 6, ground := Ground.phase }, { on := 7, ground := Ground.phase }, { on := 8, ground := Ground.phase }, { on := 9, ground := Ground.phase }, { on := 10, ground := Ground.phase }], guard := none }) (v := ?v_fn6_10) rfl (by kernel_rfl) (by kernel_rfl) (by kernel_rfl) (fun _ _ _ h => h) (Or.inl ⟨by rfl, ?y_fn6_10⟩) (by assumption) ?_
      case y_fn6_10 => intro w hSw; (try dsimp only at hSw); go_simp; with_reducible rfl
      try simp only [Act.put, List.setIfInBounds_toArray, List.set_cons_zero, List.set_cons_succ]
      refine wpAnyH_done (by kernel_rfl) ?_ _
      rotate_left 1
      exact AllReadyH.nil
      clear FA BDx PLx hF
      have FC := Lib.hid (FB.out.go (Below.drew (Below.refl _ _)))
      have FE := Lib.hid ((HS.out _ FB.out).go (Below.drew (Below.refl _ _)))
      have hfr := FC.out.bD.fr x.toNat
      have hcx := FC.out.bD.cell x.toNat (dwn_at (D := D) (P := P) (i := x.toNat) (by omega))
      go_wp2_with fail
      refine wp_region_held_drew (S := (fun W => (W.cell? ⟨w.heap.size, 0, none⟩ = some (.int .i64 r.rows) ∧ W.cell? ⟨w.heap.size, 1, none⟩ = some (.int .i64 r.mid) ∧ W.cell? ⟨w.heap.size, 2, none⟩ = some (.int .i64 r.gap) ∧ W.cell? ⟨w.heap.size, 3, none⟩ = some (.int .i64 r.reach) ∧ W.cell? ⟨w.heap.size, 4, none⟩ = some (.slice r.la r.ls.length r.lc)) ∧ W.cell? ⟨g, o + i, none⟩ = some (.int .i64 x) ∧ W.cell? ⟨g2, o2 + q, none⟩ = some (.int .i64 b))) (by kernel_rfl) ?_ (fun hHeld => ?_)
      · (try dsimp only); (with_reducible first | exact SP.out _ _ FE.out | exact SP.out _ _ FC.out)
      refine wpAnyH_take (i := 0) (oi := { dst := some 47, op := Op.move (Operand.tmp 9), type := 48, pos := "ref.go:172", after := #[], guard := none }) (v := ?v_fn7_11) rfl (by kernel_rfl) (by kernel_rfl) (by kernel_rfl) (fun _ _ _ h => h) (Or.inl ⟨by rfl, ?y_fn7_11⟩) (by assumption) ?_
      case y_fn7_11 => intro w hSw; (try dsimp only at hSw); go_simp; with_reducible rfl
      try simp only [Act.put, List.setIfInBounds_toArray, List.set_cons_zero, List.set_cons_succ]
      refine wpAnyH_take (i := 1) (oi := { dst := some 48, op := Op.move (Operand.tmp 1), type := 25, pos := "ref.go:172", after := #[], guard := none }) (v := ?v_fn7_12) rfl (by kernel_rfl) (by kernel_rfl) (by kernel_rfl) (fun _ _ _ h => h) (Or.inl ⟨by rfl, ?y_fn7_12⟩) (by assumption) ?_
      case y_fn7_12 => intro w hSw; (try dsimp only at hSw); go_simp; with_reducible rfl
      try simp only [Act.put, List.setIfInBounds_toArray, List.set_cons_zero, List.set_cons_succ]
      refine wpAnyH_take (i := 2) (oi := { dst := some 49, op := Op.move (Operand.tmp 10), type := 3, pos := "ref.go:172", after := #[], guard := none }) (v := ?v_fn7_13) rfl (by kernel_rfl) (by kernel_rfl) (by kernel_rfl) (fun _ _ _ h => h) (Or.inl ⟨by rfl, ?y_fn7_13⟩) (by assumption) ?_
      case y_fn7_13 => intro w hSw; (try dsimp only at hSw); go_simp; with_reducible rfl
      try simp only [Act.put, List.setIfInBounds_toArray, List.set_cons_zero, List.set_cons_succ]
      refine wpAnyH_take (i := 3) (oi := { dst := some 50, op := Op.indexAddr 25 (Operand.tmp 48) (Operand.tmp 49), type := 0, pos := "ref.go:172", after := #[{ on := 1, ground := Ground.data }, { on := 2, ground := Ground.data }], guard := none }) (v := ?v_fn7_14) rfl (by kernel_rfl) (by kernel_rfl) (by kernel_rfl) (fun _ _ _ h => h) (Or.inl ⟨by rfl, ?y_fn7_14⟩) (by assumption) ?_
      case y_fn7_14 => intro w hSw; (try dsimp only at hSw); go_simp; with_reducible rfl
      try simp only [Act.put, List.setIfInBounds_toArray, List.set_cons_zero, List.set_cons_succ]
      refine wpAnyH_take (i := 4) (oi := { dst := some 51, op := Op.load 3 (Operand.tmp 50), type := 3, pos := "ref.go:172", after := #[{ on := 3, ground := Ground.data }], guard := none }) (v := ?v_fn7_15) rfl (by kernel_rfl) (by kernel_rfl) (by kernel_rfl) (fun _ _ _ h => h) (Or.inl ⟨by rfl, ?y_fn7_15⟩) (by assumption) ?_
      case y_fn7_15 => intro w hSw; (try dsimp only at hSw); go_simp; with_reducible rfl
      try simp only [Act.put, List.setIfInBounds_toArray, List.set_cons_zero, List.set_cons_succ]
      refine wpAnyH_take (i := 5) (oi := { dst := some 52, op := Op.move (Operand.tmp 13), type := 3, pos := "ref.go:172", after := #[], guard := none }) (v := ?v_fn7_16) rfl (by kernel_rfl) (by kernel_rfl) (by kernel_rfl) (fun _ _ _ h => h) (Or.inl ⟨by rfl, ?y_fn7_16⟩) (by assumption) ?_
      case y_fn7_16 => intro w hSw; (try dsimp only at hSw); go_simp; with_reducible rfl
      try simp only [Act.put, List.setIfInBounds_toArray, List.set_cons_zero, List.set_cons_succ]
      refine wpAnyH_take (i := 6) (oi := { dst := some 53, op := Op.fieldAddr 24 (Operand.tmp 4) 3, type := 0, pos := "ref.go:172", after := #[], guard := none }) (v := ?v_fn7_17) rfl (by kernel_rfl) (by kernel_rfl) (by kernel_rfl) (fun _ _ _ h => h) (Or.inl ⟨by rfl, ?y_fn7_17⟩) (by assumption) ?_
      case y_fn7_17 => intro w hSw; (try dsimp only at hSw); go_simp; with_reducible rfl
      try simp only [Act.put, List.setIfInBounds_toArray, List.set_cons_zero, List.set_cons_succ]
      refine wpAnyH_take (i := 7) (oi := { dst := some 54, op := Op.load 3 (Operand.tmp 53), type := 3, pos := "ref.go:172", after := #[{ on := 6, ground := Ground.data }], guard := none }) (v := ?v_fn7_18) rfl (by kernel_rfl) (by kernel_rfl) (by kernel_rfl) (fun _ _ _ h => h) (Or.inl ⟨by rfl, ?y_fn7_18⟩) (by assumption) ?_
      case y_fn7_18 => intro w hSw; (try dsimp only at hSw); go_simp; with_reducible rfl
      try simp only [Act.put, List.setIfInBounds_toArray, List.set_cons_zero, List.set_cons_succ]
      refine wpAnyH_take (i := 8) (oi := { dst := some 55, op := Op.unOp UnOp.neg 3 (Operand.tmp 54), type := 3, pos := "ref.go:172", after := #[{ on := 7, ground := Ground.data }], guard := none }) (v := ?v_fn7_19) rfl (by kernel_rfl) (by kernel_rfl) (by kernel_rfl) (fun _ _ _ h => h) (Or.inl ⟨by rfl, ?y_fn7_19⟩) (by assumption) ?_
      case y_fn7_19 => intro w hSw; (try dsimp only at hSw); go_simp; with_reducible rfl
      try simp only [Act.put, List.setIfInBounds_toArray, List.set_cons_zero, List.set_cons_succ]
      refine wpAnyH_take (i := 9) (oi := { dst := some 56, op := Op.fieldAddr 24 (Operand.tmp 4) 3, type := 0, pos := "ref.go:172", after := #[], guard := none }) (v := ?v_fn7_20) rfl (by kernel_rfl) (by kernel_rfl) (by kernel_rfl) (fun _ _ _ h => h) (Or.inl ⟨by rfl, ?y_fn7_20⟩) (by assumption) ?_
      case y_fn7_20 => intro w hSw; (try dsimp only at hSw); go_simp; with_reducible rfl
      try simp only [Act.put, List.setIfInBounds_toArray, List.set_cons_zero, List.set_cons_succ]
      refine wpAnyH_take (i := 10) (oi := { dst := some 57, op := Op.load 3 (Operand.tmp 56), type := 3, pos := "ref.go:172", after := #[{ on := 9, ground := Ground.data }], guard := none }) (v := ?v_fn7_21) rfl (by kernel_rfl) (by kernel_rfl) (by kernel_rfl) (fun _ _ _ h => h) (Or.inl ⟨by rfl, ?y_fn7_21⟩) (by assumption) ?_
      case y_fn7_21 => intro w hSw; (try dsimp only at hSw); go_simp; with_reducible rfl
      try simp only [Act.put, List.setIfInBounds_toArray, List.set_cons_zero, List.set_cons_succ]
      refine wpAnyH_ready (rs := [11]) (by kernel_rfl) (by simp) ?_
      refine AllReadyH.cons (o := { dst := some 58, op := Op.call { callee := Callee.value (Operand.func 42), args := #[Operand.tmp 52, Operand.tmp 55, Operand.tmp 57], argTypes := #[3, 3, 3] }, type := 4, pos := "ref.go:172", after := #[{ on := 5, ground := Ground.data }, { on := 8, ground := Ground.data }, { on := 10, ground := Ground.data }], guard := none }) rfl (fun K hK => ?_) ?_
      go_simp
      (first | (go_at_call 42; (with_reducible refine (refIn_any _ _ _ _).mono ?_); rintro e wI ⟨rfl, rfl⟩))
      go_wp2_with fail
      refine hK.out _ _ ?_ (fun hHeld => ?_)
      · (try dsimp only); (with_reducible first | exact SP.out _ _ FE.out | exact SP.out _ _ FC.out)
      clear hK K
      try simp only [Act.put, List.setIfInBounds_toArray, List.set_cons_zero, List.set_cons_succ]
      refine wpAnyH_take (i := 12) (oi := { dst := some 59, op := Op.indexAddr 48 (Operand.tmp 47) (Operand.tmp 51), type := 0, pos := "ref.go:172", after := #[{ on := 0, ground := Ground.data }, { on := 4, ground := Ground.data }, { on := 0, ground := Ground.phase }, { on := 1, ground := Ground.phase }, { on := 2, ground := Ground.phase }, { on := 3, ground := Ground.phase }, { on := 4, ground := Ground.phase }, { on := 5, ground := Ground.phase }, { on := 6, ground := Ground.phase }, { on := 7, ground := Ground.phase }, { on := 8, ground := Ground.phase }, { on := 9, ground := Ground.phase }, { on := 10, ground := Ground.phase }, { on := 11, ground := Ground.phase }], guard := none }) (v := ?v_fn7_22) rfl (by kernel_rfl) (by kernel_rfl) (by kernel_rfl) (fun _ _ _ h => h) (Or.inl ⟨by rfl, ?y_fn7_22⟩) (by assumption) ?_
      case y_fn7_22 => intro w hSw; (try dsimp only at hSw); go_simp; with_reducible rfl
      try simp only [Act.put, List.setIfInBounds_toArray, List.set_cons_zero, List.set_cons_succ]
      refine wpAnyH_ready (rs := [13]) (by kernel_rfl) (by simp) ?_
      refine AllReadyH.cons (o := { dst := none, op := Op.store 4 (Operand.tmp 59) (Operand.tmp 58), type := 0, pos := "ref.go:172", after := #[{ on := 12, ground := Ground.data }, { on := 11, ground := Ground.data }, { on := 11, ground := Ground.chain }, { on := 0, ground := Ground.phase }, { on := 1, ground := Ground.phase }, { on := 2, ground := Ground.phase }, { on := 3, ground := Ground.phase }, { on := 4, ground := Ground.phase }, { on := 5, ground := Ground.phase }, { on := 6, ground := Ground.phase }, { on := 7, ground := Ground.phase }, { on := 8, ground := Ground.phase }, { on := 9, ground := Ground.phase }, { on := 10, ground := Ground.phase }, { on := 11, ground := Ground.phase }], guard := none }) rfl (fun K hK => ?_) ?_
      go_simp
      refine hK.out _ _ ?_ (fun hHeld => ?_)
      · (try dsimp only); (with_reducible first | exact SP.out _ _ FE.out | exact SP.out _ _ FC.out)
      clear hK K
      try simp only [Act.put, List.setIfInBounds_toArray, List.set_cons_zero, List.set_cons_succ]
      refine wpAnyH_done (by kernel_rfl) ?_ _
      rotate_left 1
      exact AllReadyH.nil
      exact AllReadyH.nil
      go_wp2_with fail
      go_roundg (xs.length - (i + 1))
      case measure => omega
      case rel => exact ⟨i + 1, by omega, rfl, by simp, by rw [hD2]; exact FE⟩
    · have hz1 : ¬ (i : Int) < (xs.length : Int) := by omega
      have HZ := Lib.hid (show ∀ j l, r.ls[j]? = some l → ∃ b, cs[j]? = some b ∧ (r.ls.zip cs)[j]? = some (l, b) from fun j l h => by
        have hj := (List.getElem?_eq_some_iff.1 h).1
        obtain ⟨b, hb⟩ : ∃ b, cs[j]? = some b := ⟨cs[j]'(by have := HCL.out; omega), List.getElem?_eq_getElem _⟩
        exact ⟨b, hb, by rw [List.getElem?_zip_eq_some]; exact ⟨h, hb⟩⟩)
      have HZL := Lib.hid (show (r.ls.zip cs).length = r.ls.length by rw [List.length_zip, HCL.out]; simp)
      have hF0 := hF.out
      rw [List.take_of_length_le (by omega)] at hF0
      have HT0 := Lib.hid (show Sub (setN (xs.filter RB)) (setN xs) from fun k hk => by
        rw [setN_bit, List.any_eq_true] at hk ⊢
        obtain ⟨y, hy, he⟩ := hk
        exact ⟨y, (List.mem_filter.1 hy).1, he⟩)
      generalize hT0 : setN (xs.filter RB) = T0 at *
      clear hT0
      have F2 := Lib.hid (show FD r w d P wr (passN (setN xs) (r.ls.zip cs) 0 T0) from hF0)
      have HPS := Lib.hid (show ∀ t, passN (setN xs) (r.ls.zip cs) (t + 1) T0 = passF (setN xs) (r.ls.zip cs) (passN (setN xs) (r.ls.zip cs) t T0) from fun t => rfl)
      have HIN := Lib.hid (show ∀ t, Sub (passN (setN xs) (r.ls.zip cs) t T0) (setN xs) from fun t => passN_in HT0.out t)
      clear hF hF0 hlt hi HROW HRB HTS HBR BD PL HBB HB
      generalize hzs : r.ls.zip cs = zs at *
      generalize hSt : setN xs = St at *
      have HST := Lib.hid hSt
      clear hzs hSt
      go_wp2_with fail
      go_loopg [14, 15, 16] P (fun g s14 s15 s16 wx => ∃ (t : Nat), t ≤ P ∧ g = P - t ∧ s14 = .int .i64 (t : Int) ∧ Hid (FD r w d P wx (passN St zs t T0)))
      case atStart => exact ⟨0, by omega, by omega, rfl, F2⟩
      case round =>
        obtain ⟨t, ht, rfl, rfl, hF⟩ := hrel
        clear F2
        by_cases hlt : t < P
        · have hz0 : (0 : Int) ≤ (t : Int) := by omega
          have hz1 : (t : Int) < (P : Int) := by omega
          have HPSt := Lib.hid (HPS.out t)
          have F3 := Lib.hid (show FD r w d P wr (passF St (zs.take 0) (passN St zs t T0)) from hF.out)
          clear hF
          generalize passN St zs t T0 = D0 at *
          generalize hD1 : passN St zs (t + 1) T0 = D1 at *
          go_wp2_with fail
          go_loopg [15, 16] r.ls.length (fun g s15 s16 wx => ∃ (i : Nat), i ≤ r.ls.length ∧ g = r.ls.length - i ∧ s15 = .int .i64 (i : Int) ∧ Hid (FD r w d P wx (passF St (zs.take i) D0)))
          case atStart => exact ⟨0, by omega, by omega, rfl, F3⟩
          case round =>
            obtain ⟨i, hi, rfl, rfl, hF⟩ := hrel
            clear F3
            obtain ⟨r0, r1, r2, r3, r4⟩ := hF.out.c
            by_cases hli : i < r.ls.length
            · have hy0 : (0 : Int) ≤ (i : Int) := by omega
              have hy1 : (i : Int) < (r.ls.length : Int) := by omega
              have hy2 : (i : Int) < (cs.length : Int) := by have := HCL.out; omega
              obtain ⟨l, hl⟩ : ∃ l, r.ls[i]? = some l := ⟨r.ls[i]'hli, List.getElem?_eq_getElem _⟩
              obtain ⟨b, hb, hzb⟩ := HZ.out i l hl
              have hlm := List.mem_of_getElem? hl
              obtain ⟨hl1, hl2, hl3, hl4⟩ := HLK.out l hlm
              obtain ⟨hl5, hl6⟩ := HLP.out l hlm
              rw [← HP.out] at hl5 hl6
              obtain ⟨g, o, hla, k1, k2, k3⟩ := HL.out i _ hl
              obtain ⟨g3, o3, rfl, k4⟩ := HC.out i _ hb
              have q1 := cell_lo hF.out.bl k1
              have q2 := cell_lo hF.out.bl k2
              have q3 := cell_lo hF.out.bl k3
              have HN := Lib.hid (show passF St (zs.take (i + 1)) D0 = passS St (passF St (zs.take i) D0) (l, b) by unfold passF; rw [take_next hzb, List.foldl_append]; rfl)
              have HSB := Lib.hid (show St.testBit l.to.toNat = hasI xs l.to by
                rw [← HST.out, Bool.eq_iff_iff, hasI_iff]
                exact setN_has (fun y hy => by have := HXB.out.2 y hy; have := HP.out; omega) hl3)
              have HHt := Lib.hid (fun W (hb : Below w.heap.size w W) => HHS.out l.to W hb)
              clear hl hb hlm k1 k2 k3
              rw [hla] at r4
              clear hla
              obtain ⟨fr, to, sr⟩ := l
              simp only at *
              obtain ⟨wA, hwA⟩ : ∃ W, W = wr.alloc (.cells #[.int .i64 fr, .int .i64 to, .bool sr] 91) := ⟨_, rfl⟩
              have FA := Lib.hid (show FD r w d P wA (passF St (zs.take i) D0) by rw [hwA]; exact hF.out.go (below_al _ _))
              have NB := Lib.hid (show Blk wA wr.heap.size #[.int .i64 fr, .int .i64 to, .bool sr] 91 by rw [hwA]; exact Blk.new _ _ _)
              generalize passF St (zs.take i) D0 = D at *
              generalize hD2 : passF St (zs.take (i + 1)) D0 = D2 at *
              have kc : wA.cell? ⟨g3, o3 + i, none⟩ = some (.bool b) := cell_lo FA.out.bl k4
              have kf : wA.cell? ⟨d, fr.toNat, none⟩ = some (.bool (D.testBit fr.toNat)) := FA.out.bD.cell _ (dwn_at (by omega))
              have kt : wA.cell? ⟨d, to.toNat, none⟩ = some (.bool (D.testBit to.toNat)) := FA.out.bD.cell _ (dwn_at (by omega))
              have kr : wA.frozen? ⟨d, to.toNat, none⟩ = false := FA.out.bD.fr _
              have n0 : wA.cell? ⟨wr.heap.size, 0, none⟩ = some (.int .i64 fr) := NB.out.cell 0 rfl
              have n1 : wA.cell? ⟨wr.heap.size, 1, none⟩ = some (.int .i64 to) := NB.out.cell 1 rfl
              have HHw := Lib.hid (HHt.out wA FA.out.bl)
              have HSE := Lib.hid (show b = true → D.testBit fr.toNat = true → hasI xs to = true → FD r w d P (wA.setCell ⟨d, to.toNat, none⟩ (.bool true)) D2 from fun h1 h2 h3 => FA.out.set fun j => by
                rw [HN.out, passS_bit]
                by_cases e : j = to.toNat
                · rw [if_pos ⟨e, h1, h2, by rw [HSB.out]; exact h3⟩, if_pos e]
                · rw [if_neg (fun c => e c.1), if_neg e])
              have HSN := Lib.hid (show (b = false ∨ D.testBit fr.toNat = false ∨ hasI xs to = false) → FD r w d P wA D2 from fun h => by
                have : D2 = D := by
                  rw [HN.out]; unfold passS
                  rw [if_neg]
                  rintro ⟨c1, c2, c3⟩
                  simp only at c1 c2 c3
                  rw [HSB.out] at c3
                  rcases h with h | h | h
                  · rw [h] at c1; cases c1
                  · rw [h] at c2; cases c2
                  · rw [h] at c3; cases c3
                rw [this]; exact FA.out)
              generalize D.testBit fr.toNat = bf at *
              generalize D.testBit to.toNat = bt at *
              generalize hasI xs to = bh at *
              go_upto_region 15 with fail
              rw [← hwA]
              have HSZ := Lib.hid (show wA.heap.size = wr.heap.size + 1 by rw [hwA]; exact World.size_alloc ..)
              clear hwA q1 q2 q3 r0 r1 r2 r3 r4 hF FA NB HHt HSB HN hl2 hl4
              cases b
              · have FN := Lib.hid (HSN.out (.inl rfl))
                clear HSN HSE
                go_wp2_with fail
                go_roundg (r.ls.length - (i + 1))
                case measure => omega
                case rel => exact ⟨i + 1, by omega, rfl, by simp, by rw [hD2]; exact FN⟩
              · cases bf
                · have FN := Lib.hid (HSN.out (.inr (.inl rfl)))
                  clear HSN HSE
                  go_wp2_with fail
                  go_roundg (r.ls.length - (i + 1))
                  case measure => omega
                  case rel => exact ⟨i + 1, by omega, rfl, by simp, by rw [hD2]; exact FN⟩
                · cases bh
                  · have FN := Lib.hid (HSN.out (.inr (.inr rfl)))
                    clear HSN HSE
                    go_wp2_with fail
                    (with_reducible refine HHw.out.mono ?_)
                    rintro e wB ⟨rfl, rfl⟩
                    go_wp2_with fail
                    go_roundg (r.ls.length - (i + 1))
                    case measure => omega
                    case rel => exact ⟨i + 1, by omega, rfl, by simp, by rw [hD2]; exact FN⟩
                  · have FN := Lib.hid (HSE.out rfl rfl rfl)
                    clear HSN HSE
                    go_wp2_with fail
                    (with_reducible refine HHw.out.mono ?_)
                    rintro e wB ⟨rfl, rfl⟩
                    go_wp2_with fail
                    go_roundg (r.ls.length - (i + 1))
                    case measure => omega
                    case rel => exact ⟨i + 1, by omega, rfl, by simp, by rw [hD2]; exact FN⟩
            · have hy1 : ¬ (i : Int) < (r.ls.length : Int) := by omega
              have FN := Lib.hid (show FD r w d P wr D1 by
                have h := hF.out
                rw [List.take_of_length_le (by have := HZL.out; omega)] at h
                rw [HPSt.out]; exact h)
              clear hF hli
              go_wp2_with fail
              go_roundg (P - (t + 1))
              case measure => omega
              case rel => exact ⟨t + 1, by omega, rfl, by simp, by rw [hD1]; exact FN⟩
        · have hz1 : ¬ (t : Int) < (P : Int) := by omega
          obtain rfl : t = P := by omega
          have FN := Lib.hid (show FD r w d t wr FALN by rw [HFAL.out]; exact hF.out)
          have HFI := Lib.hid (show Sub FALN St by rw [HFAL.out]; exact HIN.out t)
          clear hF hlt HPS HIN HFAL
          obtain ⟨w3, hw3⟩ : ∃ W, W = wr := ⟨_, rfl⟩
          subst hw3
          have O0 := Lib.hid (OwnI.nil w3)
          go_wp2_with fail
          go_loopg [17, 18] t (fun g s17 s18 wx => ∃ (p : Nat) (v : Value), p ≤ t ∧ g = t - p ∧ s18 = .int .i64 (p : Int) ∧ s17 = v ∧ Hid (OwnI w3 wx v (elsP FALN p)))
          case atStart => exact ⟨0, _, by omega, by omega, rfl, rfl, O0⟩
          case round =>
            obtain ⟨p, v, hp, rfl, rfl, hv, hO⟩ := hrel
            have hv2 := hv.symm
            clear hv O0
            subst hv2
            by_cases hlp : p < t
            · have hz0 : (0 : Int) ≤ (p : Int) := by omega
              have hz2 : (p : Int) < (t : Int) := by omega
              have FP := Lib.hid (FN.out.go hO.out.bl)
              have kd : wr.cell? ⟨d, p, none⟩ = some (.bool (FALN.testBit p)) := FP.out.bD.cell _ (dwn_at hlp)
              have HEP := Lib.hid (elsP_succ FALN p)
              have HLn := Lib.hid (elsP_len FALN p)
              have HAL := Lib.hid (show w3.heap.size ≤ wr.heap.size + 1 by have := hO.out.bl.size; omega)
              generalize elsP FALN p = ys at *
              generalize hY2 : elsP FALN (p + 1) = Y2 at *
              have HL2 := Lib.hid (show ys.length + 1 ≤ maxLen by have := HLn.out; unfold maxLen; omega)
              have HL3 := Lib.hid (show (ys.length + 1) * 8 ≤ 140737488355328 by have := HLn.out; omega)
              generalize hb : FALN.testBit p = b at *
              clear hb FP
              cases b
              · have HY := Lib.hid (show Y2 = ys by rw [HEP.out]; simp)
                go_wp2_with fail
                go_roundg (t - (p + 1))
                case measure => omega
                case rel => exact ⟨p + 1, _, by omega, rfl, by simp, rfl, by rw [hY2, HY.out]; exact hO⟩
              · have HY := Lib.hid (show Y2 = ys ++ [(p : Int)] by rw [HEP.out]; rfl)
                go_wp2_with (at_builtin; go_must (refine wpList_append_lies _ rfl _ _ 25 rfl w3.heap.size 3 i3 (.int .i64 0) 1 8 Tryd.underlying25 hi3 hy0 hy1 hy2 rfl (by decide) _ ys.length (ys.map (Value.int .i64)) rfl (hO.out.ow.alloc _) ⟨wr.heap.size, 0, none⟩ 1 1 [.int .i64 (p : Int)] rfl rfl (World.news_of_block (cs := #[.int .i64 (p : Int)]) (t := 3) (fr := (0, 0)) (heap_alloc_new wr _)) (by simp [Value.oneCell']) (by decide) HL2.out HL3.out (by simpa using HAL.out) (wr.heap.size + 1) (by simp) ?_); intro gA capA wA hown hgrow hat hlt1; have OP := Lib.hid (hO.out.push hgrow hown); clear hown hgrow hat hlt1)
                go_roundg (t - (p + 1))
                case measure => omega
                case rel => exact ⟨p + 1, _, by omega, rfl, by simp, rfl, by rw [hY2, HY.out]; exact OP⟩
            · have hz2 : ¬ (p : Int) < (t : Int) := by omega
              obtain rfl : p = t := by omega
              have HE := Lib.hid (show elsP FALN p = els FALN from elsP_els (fun i hi => by
                have h1 := HFI.out i hi
                have h2 := HSX.out.2.1 (i : Int) ((mem_els _ _).2 ⟨by omega, by have := bit_in HSX.out.1 h1; omega, by simpa using h1⟩)
                have := HP.out; omega) (by omega))
              have hO2 := hO.out
              rw [HE.out] at hO2
              obtain ⟨aL, cL, rfl, hI, hN⟩ := hO2.out
              have HI := Lib.hid hI
              have HN := Lib.hid hN
              have HBE := Lib.hid (FN.out.go hO2.bl).bl
              clear hO hO2 hI hN hlp
              go_wp2_with fail
              exact HPOST.out _ _ ⟨aL, cL, rfl, HI.out, HN.out, HBE.out⟩

end Go.Proofs.YtaloffdkadhhnaaDoor
