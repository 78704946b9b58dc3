/- The contract of same: two games that are the same. -/
import Derived.Test.YtmjbidnlknmcgaaDoorCv
set_option linter.unusedVariables false
set_option linter.unusedSimpArgs false
namespace Go.Proofs.YtmjbidnlknmcgaaDoor
open Go.RowKit

theorem g47_new (W : World) (fv qv : Value) (st : Int) (dn : Bool) : (W.alloc (.cells #[fv, qv, .int .i64 st, .bool dn] 47)).heap[W.heap.size]? = some (.cells #[fv, qv, .int .i64 st, .bool dn] 47 (0, 0)) := heap_alloc_new W _

set_option maxRecDepth 100000 in
set_option maxHeartbeats 16000000 in
theorem same_any (fa fb qa qb : Option Addr) (fc fd qc qd N m : Nat) (st : Int) (dn : Bool) (F : List (List Int)) (M : List Int) (w : World) (hA : Hid (FR w fa N fc F)) (hB : Hid (FR w fb N fd F)) (hM : M.length = m) (hm : m ≤ 1000) (hN : N ≤ 1000) (hF : ∀ zs ∈ F, zs.length ≤ 1000)
    (sA : BallsAt w qa M) (sB : BallsAt w qb M) :
    Calls Tryd.prog 24 #[.agg #[.slice fa N fc, .slice qa m qc, .int .i64 st, .bool dn], .agg #[.slice fb N fd, .slice qb m qd, .int .i64 st, .bool dn]] w fun e w' => e = .returned (.bool true) ∧ Below w.heap.size w w' := by
  have SA := Lib.hid sA
  have SB := Lib.hid sB
  have HF := Lib.hid hF
  have HM := Lib.hid hM
  have B0 := BL.start w
  have h1 := below_al w (.cells #[.slice fa N fc, .slice qa m qc, .int .i64 st, .bool dn] 43)
  have h2 := below_al (w.alloc (.cells #[.slice fa N fc, .slice qa m qc, .int .i64 st, .bool dn] 43)) (.cells #[.slice fb N fd, .slice qb m qd, .int .i64 st, .bool dn] 47)
  have B1 := BL.lo (BL.lo B0 h1) h2
  have G1 : Hid (GK ((w.alloc (.cells #[.slice fa N fc, .slice qa m qc, .int .i64 st, .bool dn] 43)).alloc (.cells #[.slice fb N fd, .slice qb m qd, .int .i64 st, .bool dn] 47)) w.heap.size (.slice fa N fc) (.slice qa m qc) st dn) := GK.lo (GK.new w _ _ _ _) h2
  have K1 : Hid (((w.alloc (.cells #[.slice fa N fc, .slice qa m qc, .int .i64 st, .bool dn] 43)).alloc (.cells #[.slice fb N fd, .slice qb m qd, .int .i64 st, .bool dn] 47)).heap[w.heap.size + 1]? = some (.cells #[.slice fb N fd, .slice qb m qd, .int .i64 st, .bool dn] 47 (0, 0))) := Lib.hid (by
    have := g47_new (w.alloc (.cells #[.slice fa N fc, .slice qa m qc, .int .i64 st, .bool dn] 43)) (.slice fb N fd) (.slice qb m qd) st dn
    rwa [World.size_alloc] at this)
  clear sA sB hF hM B0 h1 h2
  go_enter Tryd.func24, Tryd.ntmps24
  go_wp2_with fail
  generalize World.alloc (World.alloc w _) _ = w2 at B1 G1 K1 ⊢
  obtain ⟨c0, c1, c2, c3⟩ := GK.at G1
  obtain ⟨d0, d1, d2, d3⟩ : w2.cell? ⟨w.heap.size + 1, 0, none⟩ = some (.slice fb N fd) ∧ w2.cell? ⟨w.heap.size + 1, 1, none⟩ = some (.slice qb m qd) ∧ w2.cell? ⟨w.heap.size + 1, 2, none⟩ = some (.int .i64 st) ∧ w2.cell? ⟨w.heap.size + 1, 3, none⟩ = some (.bool dn) := by
    have h := K1.out
    exact ⟨by simp [World.cell?, h], by simp [World.cell?, h], by simp [World.cell?, h], by simp [World.cell?, h]⟩
  go_wp2_with fail
  refine (ints_same M m _ _ _ _ w2 HM.out hm (SA.out.lo B1.out.b) (SB.out.lo B1.out.b)).mono ?_
  rintro e w3 ⟨rfl, hg⟩
  have hb := grown_belowN hg.out
  have B3 := BL.lo B1 hb
  have G3 := GK.lo G1 hb
  have K3 := Lib.hid ((hb.block _ (lt_of_block K1.out)).trans K1.out)
  clear hb hg B1 G1 K1 c0 c1 c2 c3 d0 d1 d2 d3
  obtain ⟨c0, c1, c2, c3⟩ := GK.at G3
  obtain ⟨d0, d1, d2, d3⟩ : w3.cell? ⟨w.heap.size + 1, 0, none⟩ = some (.slice fb N fd) ∧ w3.cell? ⟨w.heap.size + 1, 1, none⟩ = some (.slice qb m qd) ∧ w3.cell? ⟨w.heap.size + 1, 2, none⟩ = some (.int .i64 st) ∧ w3.cell? ⟨w.heap.size + 1, 3, none⟩ = some (.bool dn) := by
    have h := K3.out
    exact ⟨by simp [World.cell?, h], by simp [World.cell?, h], by simp [World.cell?, h], by simp [World.cell?, h]⟩
  have hbe : (dn == dn) = true := by simp
  go_wp2_with fail
  go_loopg [5] N (fun g s5 wx => ∃ i : Nat, i ≤ N ∧ g = N - i ∧ s5 = .int .i64 (i : Int) ∧ Hid (BL w3 wx))
  case atStart => exact ⟨0, by omega, rfl, rfl, BL.start w3⟩
  case round =>
    clear c0 c1 c2 c3 d0 d1 d2 d3
    obtain ⟨i, hi, rfl, rfl, hW⟩ := hrel
    obtain ⟨c0, c1, c2, c3⟩ := GK.at (GK.lo G3 hW.out.b)
    obtain ⟨d0, d1, d2, d3⟩ : wr.cell? ⟨w.heap.size + 1, 0, none⟩ = some (.slice fb N fd) ∧ wr.cell? ⟨w.heap.size + 1, 1, none⟩ = some (.slice qb m qd) ∧ wr.cell? ⟨w.heap.size + 1, 2, none⟩ = some (.int .i64 st) ∧ wr.cell? ⟨w.heap.size + 1, 3, none⟩ = some (.bool dn) := by
      have h := (hW.out.b.block _ (lt_of_block K3.out)).trans K3.out
      exact ⟨by simp [World.cell?, h], by simp [World.cell?, h], by simp [World.cell?, h], by simp [World.cell?, h]⟩
    by_cases hlt : i < N
    · have hi0 : (0 : Int) ≤ (i : Int) := by omega
      have hi1 : (i : Int) < (N : Int) := by omega
      have hFN := hA.out.len
      obtain ⟨zs, hzs⟩ : ∃ zs, F[i]? = some zs := ⟨F[i]'(by omega), List.getElem?_eq_getElem _⟩
      have BW := BL.lo B3 hW.out.b
      obtain ⟨ga, xa, xc, rfl, h1, h2⟩ := (FR.lo hA BW.out.b).out.get hzs
      obtain ⟨gb, ya, yc, rfl, h3, h4⟩ := (FR.lo hB BW.out.b).out.get hzs
      have hzl := HF.out zs (List.mem_of_getElem? hzs)
      obtain ⟨z, hz⟩ : ∃ z, zs.length = z := ⟨_, rfl⟩
      rw [hz] at h1 h3 hzl
      have HZ := Lib.hid hz
      have X2 := Lib.hid h2
      have X4 := Lib.hid h4
      clear h2 h4 hzs hz hFN
      have hdr : Below wr.heap.size wr wr.drew := ⟨rfl, rfl, rfl, Nat.le_refl _, fun _ _ => rfl⟩
      have X2d := Lib.hid (X2.out.lo hdr)
      have X4d := Lib.hid (X4.out.lo hdr)
      have Wd := BL.dr hW
      clear hdr X2 X4
      go_wp2
      go_still_tail 10, (by kernel_rfl)
      go_wp2_with fail
      refine (ints_same zs z _ _ _ _ wr.drew HZ.out hzl X2d.out X4d.out).mono ?_
      rintro e w5 ⟨rfl, hg⟩
      have hb := grown_belowN hg.out
      have W5 := BL.lo Wd hb
      clear hb hg
      go_wp2_with fail
      go_roundg (N - (i + 1))
      case measure => omega
      case rel => exact ⟨i + 1, by omega, rfl, by simp, W5⟩
    · have hi1 : ¬ (i : Int) < (N : Int) := by omega
      have BF := Lib.hid (BL.lo B3 hW.out.b).out.b
      clear hlt
      go_wp2_with fail
      go_returns
      exact ⟨rfl, BF.out⟩

end Go.Proofs.YtmjbidnlknmcgaaDoor
