/- What the law FrameSpares says, reckoned for each law and each k. -/
import Derived.Test.YtmjbidnlknmcgaaDoorRdb
import Derived.Test.YtmjbidnlknmcgaaDoorSk
set_option linter.unusedVariables false
set_option linter.unusedSimpArgs false
namespace Go.Proofs.YtmjbidnlknmcgaaDoor
open Go.RowKit

/-- What Read hands back of it. -/
structure SpOK (l : Lw) (bs : List Int) (F : Nat) (k : Int) : Prop where
  e : rdE l bs = 0
  d : rdD l bs = true
  m : (rdM l bs).length = F
  n : (rdM l bs)[F - 1]? = some (l.fr * (l.pn + k))
  s : (recS l bs).s.f = l.fr
  t : setL l (recS l bs) = rdM l bs

theorem sp_ok {l : Lw} {F : Nat} {k : Int} (hok : okB l = true) (hF : l.fr = (F : Int)) (h0 : 0 ≤ k) (h1 : k < l.tp) : SpOK l (spB F l.pn k) F k := by
  have ok := (okB_iff l).1 hok
  have b1 := ok.f1
  have b2 := ok.f2
  have b3 := ok.p1
  have b4 := ok.p2
  have b5 := ok.t1
  have b6 := ok.t2
  have b7 := ok.b
  have hall := spA_all (F := F) (by omega) (by omega)
  rw [spA, List.all_eq_true] at hall
  have q1 := hall l.pn.toNat (by simp; omega)
  rw [List.all_eq_true] at q1
  have q2 := q1 l.tp.toNat (by simp; omega)
  rw [List.all_eq_true] at q2
  have q3 := q2 k.toNat (by simp; omega)
  have c1 : l.tp.toNat ≤ l.pn.toNat := by omega
  have c2 : k.toNat < l.tp.toNat := by omega
  simp only [c1, c2, decide_true, Bool.and_true, Bool.not_true, Bool.false_or, Bool.and_eq_true] at q3
  have hD : spC l F k (fol l (rec0 l) (spB F l.pn k)) = true := by
    have e1 : ((l.pn.toNat : Nat) : Int) = l.pn := by omega
    have e2 : ((l.tp.toNat : Nat) : Int) = l.tp := by omega
    have e3 : ((k.toNat : Nat) : Int) = k := by omega
    have hb : ∀ b : Nat, l.bl = (b : Int) → spD F l.pn.toNat l.tp.toNat k.toNat b = true → spC l F k (fol l (rec0 l) (spB F l.pn k)) = true := by
      intro b hb h
      unfold spD at h
      rw [e1, e2, e3, ← hF, ← hb] at h
      exact h
    rcases b7 with b7 | b7
    · exact hb 2 b7 q3.1
    · exact hb 3 b7 q3.2
  simp only [spC, Bool.and_eq_true, beq_iff_eq] at hD
  obtain ⟨⟨⟨d1, d2⟩, d3⟩, d4⟩ := hD
  have hlen : (spB F l.pn k).length = 2 * F + 1 := by simp [spB, spL_len]
  have hS : errS l (spB F l.pn k).length = 0 := by
    rw [hlen]
    simp only [errS, hok, if_true]
    rw [if_pos (by omega)]
  have hE : rdE l (spB F l.pn k) = 0 := by
    rw [rdE, if_neg (by simp [hS]), if_neg (by rw [d1, hlen]; omega)]
  exact ⟨hE, by simp [rdD, hE, recS, d2], by simp [rdM, hE, recS, d3], by simp [rdM, hE, recS, d4], d2, by simp [rdM, hE]⟩

end Go.Proofs.YtmjbidnlknmcgaaDoor
