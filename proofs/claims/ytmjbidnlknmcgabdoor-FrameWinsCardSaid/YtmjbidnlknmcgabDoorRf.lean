/- The reference: how a game stands behind a ball, by its words, and that it is the program's. -/
import Derived.Test.YtmjbidnlknmcgabDoorLM
import Derived.Test.YtmjbidnlknmcgabDoorLSum
import Derived.Deep.DeepCutAuto
set_option linter.unusedVariables false
set_option linter.unusedSimpArgs false
namespace Go.Proofs.YtmjbidnlknmcgabDoor
open Go.RowKit

/-- The reference's stand. -/
structure St where
  f : Int
  b : Int
  s : Int
  set : Bool
  has : Int

def St.val (t : St) : Value := .agg #[.int .i64 t.f, .int .i64 t.b, .int .i64 t.s, .bool t.set, .int .i64 t.has]

def refS (l : Lw) (s : Sd) : St := if s.f = l.fr then ⟨l.fr, 0, l.pn, true, l.bl⟩ else ⟨s.f, s.b, s.s, s.fresh, if s.more = true then 3 else l.bl⟩

/-- Behind a ball that counts n. -/
def thrR (l : Lw) (t : St) (n : Int) : St :=
  if t.f < l.fr - 1 then
    if t.s - n = 0 ∨ t.b + 1 = l.bl then ⟨t.f + 1, 0, l.pn, true, l.bl⟩ else ⟨t.f, t.b + 1, t.s - n, false, t.has⟩
  else
    if t.b + 1 = (if t.s - n = 0 ∧ t.b + 1 < 3 then 3 else t.has) then ⟨l.fr, 0, l.pn, true, l.bl⟩
    else if t.s - n = 0 then ⟨t.f, t.b + 1, l.pn, true, if t.s - n = 0 ∧ t.b + 1 < 3 then 3 else t.has⟩
    else ⟨t.f, t.b + 1, t.s - n, false, if t.s - n = 0 ∧ t.b + 1 < 3 then 3 else t.has⟩

theorem thr_eq {l : Lw} {s : Sd} {k : Int} (ok : l.Ok) (v : Vd l s) (hf : s.f < l.fr) (h1 : -1 ≤ k) (h2 : k ≤ s.s) : thrR l (refS l s) (cnt l s k) = refS l (behS l s k) := by
  have hc := cnt_le ok v h1 h2
  obtain ⟨f1, f2, b1, b2, s1, s2, x1, x2, y1, y2, fresh, bl⟩ := v
  obtain ⟨of1, of2, p1, p2, hb, t1, t2⟩ := ok
  have bl := bl hf
  unfold behS finS midS thrS
  generalize cnt l s k = c at hc
  obtain ⟨f, b, ss, fr, mo, x, y⟩ := s
  obtain ⟨F, P, B, T⟩ := l
  simp only at *
  unfold allS endS nextS setS thrR refS
  simp only
  have hne : ¬ f = F := by omega
  rw [if_neg hne]
  by_cases hl : f = F - 1
  · subst hl
    have hn : ¬ F - 1 < F - 1 := by omega
    have e1 : F - 1 + 1 = F := by omega
    simp only [hn, if_false]
    by_cases hz : ss - c = 0
    · simp only [hz, if_true, true_and]
      cases mo
      · by_cases hb3 : b + 1 < 3
        · have h3 : ¬ b + 1 = 3 := by omega
          have h3b : (b + 1 == 3) = false := by simpa using h3
          simp [hb3, h3, hne]
        · have hbl := bl (by simp)
          obtain rfl : B = 3 := by omega
          obtain rfl : b = 2 := by omega
          simp [e1]
      · by_cases he : b + 1 = 3
        · simp [he, e1]
        · by_cases hb3 : b + 1 < 3
          · simp [hb3, he, hne]
          · simp [hb3, he, hne]
    · simp only [hz, if_false, false_and]
      cases mo
      · by_cases he : b + 1 = B
        · simp [he, e1]
        · simp [he, hne, hz]
      · by_cases he : b + 1 = 3
        · simp [he, e1]
        · simp [he, hne, hz]
  · have hlt : f < F - 1 := by omega
    have hbl := bl (fun h => hl h.1)
    have hn1 : ¬ f + 1 = F := by omega
    simp only [hlt, if_true, hl, if_false]
    by_cases hz : ss - c = 0
    · simp [hz, hn1, hl]
    · by_cases he : b + 1 = B
      · simp [hz, he, hn1, hl]
      · simp [hz, he, hne, hl]

end Go.Proofs.YtmjbidnlknmcgabDoor
