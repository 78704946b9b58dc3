/- The contracts of what tells whether a rack is valid. -/
import Derived.Test.YtaloffdkadhhnaaDoorBa
import Derived.Deep.LoopGhost
set_option linter.unusedVariables false
set_option linter.unusedSimpArgs false
namespace Go.Proofs.YtaloffdkadhhnaaDoor
open Go.RowKit

/-- The links lie in the rack's slice, three cells each. -/
def LinksAt (w : World) (a : Option Addr) (L : List Lk) : Prop := ∀ i l, L[i]? = some l → ∃ g o, a = some ⟨g, o, none⟩ ∧ w.cell? ⟨g, o + i * 3, none⟩ = some (.int .i64 l.fr) ∧ w.cell? ⟨g, o + i * 3 + 1, none⟩ = some (.int .i64 l.to) ∧ w.cell? ⟨g, o + i * 3 + 2, none⟩ = some (.bool l.sr)

theorem cell_lt {w : World} {a : Addr} {v : Value} (h : w.cell? a = some v) : a.block < w.heap.size := by
  obtain ⟨o, ho, _⟩ := cells_of_cell h
  exact (Array.getElem?_eq_some_iff.1 ho).1
theorem cell_lo {w W : World} {a : Addr} {v : Value} (hb : Below w.heap.size w W) (h : w.cell? a = some v) : W.cell? a = some v := (hb.cell (cell_lt h)).trans h
theorem LinksAt.lo {w W : World} {a : Option Addr} {L : List Lk} (h : LinksAt w a L) (hb : Below w.heap.size w W) : LinksAt W a L := by
  intro i l hl
  obtain ⟨g, o, e, h1, h2, h3⟩ := h i l hl
  exact ⟨g, o, e, cell_lo hb h1, cell_lo hb h2, cell_lo hb h3⟩
theorem LinksAt.alt {w W : World} {a : Option Addr} {L : List Lk} {p : Nat → Prop} (h : LinksAt w a L) (hb : Alt p w W) (hp : ∀ g o, a = some ⟨g, o, none⟩ → ¬ p g) : LinksAt W a L := by
  intro i l hl
  obtain ⟨g, o, e, h1, h2, h3⟩ := h i l hl
  have hg := hb.blk g (cell_lt h1) (hp g o e)
  exact ⟨g, o, e, (World.cell?_of_block hg).trans h1, (World.cell?_of_block hg).trans h2, (World.cell?_of_block hg).trans h3⟩

def IdxIs (b : Bool) (w : World) (e : Ending) (w' : World) : Prop := ∃ k : Int, e = .returned (.int .i64 k) ∧ decide (0 ≤ k) = b ∧ Below w.heap.size w w'

set_option maxRecDepth 100000 in
set_option maxHeartbeats 4000000 in
theorem idxL_any (r : Rk) (a : Option Addr) (L : List Lk) (c : Nat) (w : World) (h1 : 1 ≤ r.rows) (h2 : r.rows ≤ 4) (hL : LinksAt w a L) (hn : L.length ≤ 1000) :
    Calls Tryd.prog 104 #[.slice a L.length c, .func (.func 89) #[r.val] #[]] w (IdxIs (L.any (wrongB r)) w) := by
  have HL := Lib.hid hL
  have CL := Lib.hid (fun l w => wrong_any r l w h1 h2)
  clear hL h1 h2
  have HV : ∃ V, V = r.val := ⟨_, rfl⟩
  obtain ⟨V, hV⟩ := HV
  rw [← hV] at CL ⊢
  clear hV
  go_enter Tryd.func104, Tryd.ntmps104
  go_wp2_with fail
  go_loopg [8] L.length (fun g s8 wx => ∃ (i : Nat), i ≤ L.length ∧ g = L.length - i ∧ s8 = .int .i64 (i : Int) ∧ Hid ((L.take i).any (wrongB r) = false) ∧ Hid (Below w.heap.size w wx))
  case atStart => exact ⟨0, by omega, rfl, rfl, Lib.hid (by simp), Lib.hid (Below.refl _ _)⟩
  case round =>
    obtain ⟨i, hi, rfl, rfl, hA, hB⟩ := hrel
    by_cases hlt : i < L.length
    · have hz0 : (0 : Int) ≤ (i : Int) := by omega
      have hz1 : (i : Int) < (L.length : Int) := by omega
      obtain ⟨l, hl⟩ : ∃ l, L[i]? = some l := ⟨L[i]'hlt, List.getElem?_eq_getElem _⟩
      obtain ⟨g, o, rfl, k1, k2, k3⟩ := HL.out i _ hl
      have c1 : wr.cell? ⟨g, o + i * 3, none⟩ = some (.int .i64 l.fr) := cell_lo hB.out k1
      have c2 : wr.cell? ⟨g, o + i * 3 + 1, none⟩ = some (.int .i64 l.to) := cell_lo hB.out k2
      have c3 : wr.cell? ⟨g, o + i * 3 + 2, none⟩ = some (.bool l.sr) := cell_lo hB.out k3
      have hT := Lib.hid (show (L.take (i + 1)).any (wrongB r) = ((L.take i).any (wrongB r) || wrongB r l) from by rw [List.take_add_one, hl]; simp)
      clear k1 k2 k3 hl
      go_wp2_with fail
      refine (CL.out l _).mono ?_
      rintro e w2 ⟨rfl, hb⟩
      have B3 := Lib.hid (below_go hB.out hb)
      clear hb c1 c2 c3
      cases hq : wrongB r l
      · have hT2 := Lib.hid (show (L.take (i + 1)).any (wrongB r) = false from by rw [hT.out, hA.out, hq]; rfl)
        clear hq
        go_wp2_with fail
        go_roundg (L.length - (i + 1))
        case measure => omega
        case rel => exact ⟨i + 1, by omega, rfl, by simp, hT2, B3⟩
      · have hT2 := Lib.hid (show L.any (wrongB r) = true from by
          have h1 : (L.take (i + 1)).any (wrongB r) = true := by rw [hT.out, hA.out, hq]; rfl
          rw [← List.take_append_drop (i + 1) L, List.any_append, h1]; rfl)
        clear hq
        go_wp2_with fail
        go_returns
        exact ⟨_, rfl, by rw [hT2.out]; simp, B3.out⟩
    · have hE := Lib.hid (show L.any (wrongB r) = false from by
        have h1 := hA.out
        rwa [List.take_of_length_le (by omega)] at h1)
      have hz1 : ¬ (i : Int) < (L.length : Int) := by omega
      clear hlt
      go_wp2_with fail
      go_returns
      exact ⟨_, rfl, by rw [hE.out]; rfl, hB.out⟩

set_option maxHeartbeats 1000000 in
theorem containsL_any (r : Rk) (a : Option Addr) (L : List Lk) (c : Nat) (w : World) (h1 : 1 ≤ r.rows) (h2 : r.rows ≤ 4) (hL : LinksAt w a L) (hn : L.length ≤ 1000) :
    Calls Tryd.prog 88 #[.slice a L.length c, .func (.func 89) #[r.val] #[]] w fun e w' => e = .returned (.bool (L.any (wrongB r))) ∧ Below w.heap.size w w' := by
  have CL := Lib.hid (idxL_any r a L c w h1 h2 hL hn)
  clear hL hn h1 h2
  generalize L.any (wrongB r) = R at *
  generalize r.val = V at *
  go_enter Tryd.func88, Tryd.ntmps88
  go_wp2_with fail
  refine CL.out.mono ?_
  rintro e w1 ⟨k, rfl, hk, hb⟩
  have HK := Lib.hid hk; have HB := Lib.hid hb
  clear hk hb
  go_wp2_with fail
  go_ret
  exact ⟨by rw [← HK.out]; rfl, HB.out⟩

/-- How many links are not sure. -/
def unsureN (L : List Lk) : Nat := (L.filter fun l => !l.sr).length
theorem unsure_snoc (L : List Lk) (l : Lk) : unsureN (L ++ [l]) = unsureN L + if l.sr then 0 else 1 := by
  unfold unsureN; rw [List.filter_append, List.length_append]; cases h : l.sr <;> simp [List.filter, h]
def fewB (L : List Lk) : Bool := decide (L.length ≤ 12) && decide (unsureN L ≤ 6)

set_option maxRecDepth 100000 in
set_option maxHeartbeats 4000000 in
theorem few_any (r : Rk) (w : World) (hL : LinksAt w r.la r.ls) (hn : r.ls.length ≤ 1000000) :
    Calls Tryd.prog 53 #[r.val] w fun e w' => e = .returned (.bool (fewB r.ls)) ∧ Below w.heap.size w w' := by
  have HL := Lib.hid hL
  clear hL
  obtain ⟨rows, mid, gap, reach, la, lc, L⟩ := r
  unfold Rk.val
  simp only at *
  by_cases h12 : L.length ≤ 12
  · have hF := Lib.hid (show fewB L = decide (unsureN L ≤ 6) from by unfold fewB; simp [h12])
    have h12' : (L.length : Int) ≤ 12 := by omega
    have B0 := Lib.hid (below_al w (.cells #[.int .i64 rows, .int .i64 mid, .int .i64 gap, .int .i64 reach, .slice la L.length lc] 32))
    generalize fewB L = R at *
    clear hn
    go_enter Tryd.func53, Tryd.ntmps53
    go_wp2_with fail
    go_loopg [3, 13] L.length (fun g s3 s13 wx => ∃ (i u : Nat), i ≤ L.length ∧ g = L.length - i ∧ s13 = .int .i64 (i : Int) ∧ s3 = .int .i64 (u : Int) ∧ u ≤ i ∧ Hid (u = unsureN (L.take i)) ∧ Hid (Below w.heap.size w wx))
    case atStart => exact ⟨0, 0, by omega, rfl, rfl, rfl, by omega, Lib.hid (by simp [unsureN]), B0⟩
    case round =>
      obtain ⟨i, u, hi, rfl, rfl, rfl, hu, hA, hB⟩ := hrel
      by_cases hlt : i < L.length
      · have hz0 : (0 : Int) ≤ (i : Int) := by omega
        have hz1 : (i : Int) < (L.length : Int) := by omega
        obtain ⟨l, hl⟩ : ∃ l, L[i]? = some l := ⟨L[i]'hlt, List.getElem?_eq_getElem _⟩
        obtain ⟨g, o, rfl, k1, k2, k3⟩ := HL.out i _ hl
        have c1 : wr.cell? ⟨g, o + i * 3, none⟩ = some (.int .i64 l.fr) := cell_lo hB.out k1
        have c2 : wr.cell? ⟨g, o + i * 3 + 1, none⟩ = some (.int .i64 l.to) := cell_lo hB.out k2
        have c3 : wr.cell? ⟨g, o + i * 3 + 2, none⟩ = some (.bool l.sr) := cell_lo hB.out k3
        have hT := Lib.hid (show unsureN (L.take (i + 1)) = unsureN (L.take i) + if l.sr then 0 else 1 from by rw [List.take_add_one, hl]; exact unsure_snoc _ _)
        have B3 := Lib.hid (below_al2 hB.out (.cells #[.int .i64 l.fr, .int .i64 l.to, .bool l.sr] 86))
        clear k1 k2 k3 hl
        obtain ⟨fr, to, sr⟩ := l
        simp only at *
        cases sr
        · go_wp2_with fail
          go_roundg (L.length - (i + 1))
          case measure => omega
          case rel => exact ⟨i + 1, u + 1, by omega, rfl, by simp, by simp, by omega, Lib.hid (by rw [hT.out, hA.out]; rfl), B3⟩
        · go_wp2_with fail
          go_roundg (L.length - (i + 1))
          case measure => omega
          case rel => exact ⟨i + 1, u, by omega, rfl, by simp, rfl, by omega, Lib.hid (by rw [hT.out, hA.out]; rfl), B3⟩
      · have hE := Lib.hid (show unsureN L = u from by
          have h1 := hA.out
          rw [List.take_of_length_le (by omega)] at h1; exact h1.symm)
        have hz1 : ¬ (i : Int) < (L.length : Int) := by omega
        clear hlt
        go_wp2_with fail
        go_returns
        exact ⟨by rw [hF.out, hE.out]; congr 2; simp; omega, hB.out⟩
  · have hF := Lib.hid (show fewB L = false from by unfold fewB; simp [h12])
    have h12' : (12 : Int) < L.length := by omega
    clear h12
    go_enter Tryd.func53, Tryd.ntmps53
    go_wp2_with fail
    go_returns
    exact ⟨by rw [hF.out]; rfl, below_al _ _⟩

def validB (r : Rk) : Bool := inB r.rows 1 4 && (inB r.mid 0 60 && (inB r.gap 1 8 && (inB r.reach 0 10 && !(r.ls.any (wrongB r)))))

set_option maxRecDepth 100000 in
set_option maxHeartbeats 4000000 in
theorem valid_any (r : Rk) (w : World) (hL : LinksAt w r.la r.ls) (hn : r.ls.length ≤ 1000) :
    Calls Tryd.prog 54 #[r.val] w fun e w' => e = .returned (.bool (validB r)) ∧ Below w.heap.size w w' := by
  have hW := Lib.hid (fun a b c w => within_any a b c w)
  have hR := Lib.hid (show validB r = (inB r.rows 1 4 && (inB r.mid 0 60 && (inB r.gap 1 8 && (inB r.reach 0 10 && !(r.ls.any (wrongB r)))))) from rfl)
  have hC := Lib.hid (fun W (hr : inB r.rows 1 4 = true) (hb : Below w.heap.size w W) => containsL_any r r.la r.ls r.lc W (inB_iff.1 hr).1 (inB_iff.1 hr).2 (hL.lo hb) hn)
  generalize validB r = R at *
  generalize r.ls.any (wrongB r) = X at *
  clear hL
  obtain ⟨rows, mid, gap, reach, la, lc, L⟩ := r
  unfold Rk.val at *
  simp only at *
  have B0 := Lib.hid (below_al w (.cells #[.int .i64 rows, .int .i64 mid, .int .i64 gap, .int .i64 reach, .slice la L.length lc] 32))
  go_enter Tryd.func54, Tryd.ntmps54
  go_wp2_with fail
  refine (hW.out _ _ _ _).mono ?_
  rintro e w1 ⟨rfl, rfl⟩
  have HA := hC.out
  generalize inB rows 1 4 = A at *
  cases A
  · clear HA
    go_wp2_with fail
    go_ret
    exact ⟨by rw [hR.out]; rfl, B0.out⟩
  · have HX := Lib.hid (fun W hb => HA W rfl hb)
    clear HA hC
    go_wp2_with fail
    refine (hW.out _ _ _ _).mono ?_
    rintro e w1 ⟨rfl, rfl⟩
    generalize inB mid 0 60 = B at *
    cases B
    · go_wp2_with fail
      go_ret
      exact ⟨by rw [hR.out]; rfl, B0.out⟩
    · go_wp2_with fail
      refine (hW.out _ _ _ _).mono ?_
      rintro e w1 ⟨rfl, rfl⟩
      generalize inB gap 1 8 = C at *
      cases C
      · go_wp2_with fail
        go_ret
        exact ⟨by rw [hR.out]; rfl, B0.out⟩
      · go_wp2_with fail
        refine (hW.out _ _ _ _).mono ?_
        rintro e w1 ⟨rfl, rfl⟩
        generalize inB reach 0 10 = D at *
        cases D
        · go_wp2_with fail
          go_ret
          exact ⟨by rw [hR.out]; rfl, B0.out⟩
        · go_wp2_with fail
          refine (HX.out _ B0.out).mono ?_
          rintro e w1 ⟨rfl, hb⟩
          have B1 := Lib.hid (below_go B0.out hb)
          clear hb
          go_wp2_with fail
          go_ret
          exact ⟨by rw [hR.out]; rfl, B1.out⟩

/-- The error of a rack. -/
def faultN (r : Rk) : Int := if fewB r.ls then (if validB r then 0 else 1) else 3

set_option maxRecDepth 100000 in
set_option maxHeartbeats 4000000 in
theorem checkRack_any (r : Rk) (w : World) (hL : LinksAt w r.la r.ls) (hn : r.ls.length ≤ 1000) :
    Calls Tryd.prog 17 #[r.val] w fun e w' => e = .returned (.int .i64 (faultN r)) ∧ Below w.heap.size w w' := by
  have hF := Lib.hid (fun W (hb : Below w.heap.size w W) => few_any r W (hL.lo hb) (by omega))
  have hV := Lib.hid (fun W (hb : Below w.heap.size w W) => valid_any r W (hL.lo hb) hn)
  have hR := Lib.hid (show faultN r = if fewB r.ls then (if validB r then 0 else 1) else 3 from rfl)
  generalize faultN r = R at *
  generalize validB r = V at *
  generalize fewB r.ls = F at *
  clear hL
  obtain ⟨rows, mid, gap, reach, la, lc, L⟩ := r
  unfold Rk.val at *
  simp only at *
  have B0 := Lib.hid (below_al w (.cells #[.int .i64 rows, .int .i64 mid, .int .i64 gap, .int .i64 reach, .slice la L.length lc] 32))
  have z0 : w.heap.size < (w.alloc (.cells #[.int .i64 rows, .int .i64 mid, .int .i64 gap, .int .i64 reach, .slice la L.length lc] 32)).heap.size := by simp
  have Z0 := Lib.hid z0
  clear z0
  go_enter Tryd.func17, Tryd.ntmps17
  go_wp2_with fail
  refine (hF.out _ B0.out).mono ?_
  rintro e w1 ⟨rfl, hb⟩
  have B1 := Lib.hid (below_go B0.out hb)
  have c0 := fun o => (lo_cell hb w.heap.size o Z0.out).1
  clear hb
  cases F
  · go_wp2_with fail
    go_ret
    exact ⟨by rw [hR.out]; rfl, B1.out⟩
  · go_wp2_with fail
    refine (hV.out _ B1.out).mono ?_
    rintro e w2 ⟨rfl, hb⟩
    have B2 := Lib.hid (below_go B1.out hb)
    clear hb c0
    cases V
    · go_wp2_with fail
      go_ret
      exact ⟨by rw [hR.out]; rfl, B2.out⟩
    · go_wp2_with fail
      go_ret
      exact ⟨by rw [hR.out]; rfl, B2.out⟩

end Go.Proofs.YtaloffdkadhhnaaDoor
