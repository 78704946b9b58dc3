/- The contract of the reference's Throw. -/
import Derived.Test.YtmjbidnlknmcgabDoorRf2
set_option linter.unusedVariables false
set_option linter.unusedSimpArgs false
namespace Go.Proofs.YtmjbidnlknmcgabDoor
open Go.RowKit

/-- What a ball counts. -/
def nR (l : Lw) (t : St) (k : Int) : Int := if t.set = true ∧ l.tp ≤ (if k < 0 then 0 else k) then l.pn else if k < 0 then 0 else k

abbrev thrW (w : World) (l : Lw) (t : St) : World := ((w.alloc (.cells #[.int .i64 l.fr, .int .i64 l.pn, .int .i64 l.bl, .int .i64 l.tp] 23)).alloc (.cells #[.int .i64 t.f, .int .i64 t.b, .int .i64 t.s, .bool t.set, .int .i64 t.has] 56)).alloc (.cells #[.int .i64 0, .int .i64 0, .int .i64 0, .bool false, .int .i64 0] 56)

theorem four_below (w : World) (o1 o2 o3 o4 : Obj) : Below w.heap.size w ((((w.alloc o1).alloc o2).alloc o3).alloc o4) :=
  ((((Below.refl _ _).alloc (Nat.le_refl _) _).alloc (by simp) _).alloc (by simp; omega) _).alloc (by simp; omega) _

set_option maxRecDepth 100000 in
set_option maxHeartbeats 8000000 in
theorem throw_ref (l : Lw) (t : St) (k : Int) (w : World) (ok : l.Ok) (f1 : 0 ≤ t.f) (f2 : t.f ≤ 10) (b1 : 0 ≤ t.b) (b2 : t.b ≤ 10) (s1 : 0 ≤ t.s) (s2 : t.s ≤ 10) (k1 : -1 ≤ k) (k2 : k ≤ 10) :
    Calls Tryd.prog 22 #[l.val, t.val, .int .i64 k] w fun e w' => e = .returned (.tuple #[(thrR l t (nR l t k)).val, .int .i64 (nR l t k)]) ∧ Below w.heap.size w w' := by
  have hb0 : 0 ≤ nR l t k ∧ nR l t k ≤ 10 := by
    have := ok.p1
    have := ok.p2
    unfold nR
    split
    · omega
    · split <;> omega
  obtain ⟨n, hn⟩ : ∃ n, nR l t k = n := ⟨_, rfl⟩
  have hN := Lib.hid hn
  rw [hn] at hb0 ⊢
  clear hn
  have o1 := ok.f1
  have o2 := ok.f2
  have o3 := ok.b
  obtain ⟨T, hT⟩ : ∃ T, Hid (thrR l t n = T) := ⟨_, Lib.hid rfl⟩
  rw [hT.out]
  unfold Lw.val St.val
  go_enter Tryd.func22, Tryd.ntmps22
  go_upto_if 12 with fail
  go_cut [8] (fun s8 wx => s8 = .int .i64 (if k < 0 then 0 else k) ∧ thrW w l t = wx)
  case first =>
    by_cases hk : k < 0
    · go_wp2
      go_meet
      exact ⟨by rw [if_pos hk], rfl⟩
    · go_wp2
      go_meet
      exact ⟨by rw [if_neg (by omega)], rfl⟩
  case rest =>
    obtain ⟨rfl, rfl⟩ := hcut
    obtain ⟨n0, hn0⟩ : ∃ n0, Hid ((if k < 0 then 0 else k) = n0) := ⟨_, Lib.hid rfl⟩
    rw [hn0.out]
    have hN2 := Lib.hid (show n = if t.set = true ∧ l.tp ≤ n0 then l.pn else n0 from by rw [← hN.out, nR, hn0.out])
    go_upto_region 4 with fail
    go_cut [1, 20] (fun _ s20 wx => s20 = .bool (t.set && decide (l.tp ≤ n0)) ∧ thrW w l t = wx)
    case first =>
      cases hset : t.set
      · go_wp2
        go_meet
        exact ⟨by rw [hset]; simp, by rw [thrW, hset]⟩
      · go_wp2
        go_meet
        exact ⟨by rw [hset]; simp, by rw [thrW, hset]⟩
    case rest =>
      obtain ⟨rfl, rfl⟩ := hcut
      go_upto_if 20 with fail
      go_cut [8] (fun s8 wx => s8 = .int .i64 n ∧ thrW w l t = wx)
      case first =>
        cases hb : (t.set && decide (l.tp ≤ n0))
        · have hnn : n = n0 := by rw [hN2.out]; rw [if_neg (by intro h; simp [h] at hb)]
          go_wp2
          go_meet
          exact ⟨by rw [hnn], rfl⟩
        · have hnn : n = l.pn := by rw [hN2.out]; rw [if_pos (by simpa using hb)]
          go_wp2
          go_meet
          exact ⟨by rw [hnn], rfl⟩
      case rest =>
        obtain ⟨rfl, rfl⟩ := hcut
        have e1 : IntKind.i64.wrap (t.b + 1) = t.b + 1 := IntWalk.i64_in _ (by omega)
        have e2 : IntKind.i64.wrap (t.s - n) = t.s - n := IntWalk.i64_in _ (by omega)
        have e3 : IntKind.i64.wrap (l.fr - 1) = l.fr - 1 := IntWalk.i64_in _ (by omega)
        go_upto_region 10 with fail
        have e4 : IntKind.i64.wrap (t.f + 1) = t.f + 1 := IntWalk.i64_in _ (by omega)
        by_cases hl : t.f < l.fr - 1
        · by_cases hz : t.s - n = 0
          · have hzb : (t.s - n == 0) = true := by simpa using hz
            have hTT := Lib.hid (show T = ⟨t.f + 1, 0, l.pn, true, l.bl⟩ from by rw [← hT.out, thrR]; rw [if_pos hl, if_pos (.inl hz)])
            go_wp2_with fail
            refine bodyPost_ret (v := .tuple #[.agg #[.int .i64 (t.f + 1), .int .i64 0, .int .i64 l.pn, .bool true, .int .i64 l.bl], .int .i64 n]) (by simp [results, Tryd.results22, go_sem]) rfl ?_
            exact ⟨by rw [hTT.out], four_below _ _ _ _ _⟩
          · have hzb : (t.s - n == 0) = false := by simpa using hz
            by_cases hb : t.b + 1 = l.bl
            · have hbb : (t.b + 1 == l.bl) = true := by simpa using hb
              have hTT := Lib.hid (show T = ⟨t.f + 1, 0, l.pn, true, l.bl⟩ from by rw [← hT.out, thrR]; rw [if_pos hl, if_pos (.inr hb)])
              go_wp2_with fail
              refine bodyPost_ret (v := .tuple #[.agg #[.int .i64 (t.f + 1), .int .i64 0, .int .i64 l.pn, .bool true, .int .i64 l.bl], .int .i64 n]) (by simp [results, Tryd.results22, go_sem]) rfl ?_
              exact ⟨by rw [hTT.out], four_below _ _ _ _ _⟩
            · have hbb : (t.b + 1 == l.bl) = false := by simpa using hb
              have hTT := Lib.hid (show T = ⟨t.f, t.b + 1, t.s - n, false, t.has⟩ from by rw [← hT.out, thrR]; rw [if_pos hl, if_neg (by intro h; rcases h with h | h; exact hz h; exact hb h)])
              go_wp2_with fail
              refine bodyPost_ret (v := .tuple #[.agg #[.int .i64 t.f, .int .i64 (t.b + 1), .int .i64 (t.s - n), .bool false, .int .i64 t.has], .int .i64 n]) (by simp [results, Tryd.results22, go_sem]) rfl ?_
              exact ⟨by rw [hTT.out], four_below _ _ _ _ _⟩
        · by_cases hz : t.s - n = 0
          · have hzb : (t.s - n == 0) = true := by simpa using hz
            by_cases h3 : t.b + 1 < 3
            · have hd3 : decide (t.b + 1 < 3) = true := by simpa using h3
              have h33 : (t.b + 1 == 3) = false := by simp; omega
              have h34 : ¬ t.b + 1 = 3 := by omega
              have hTT := Lib.hid (show T = ⟨t.f, t.b + 1, l.pn, true, 3⟩ from by rw [← hT.out, thrR]; rw [if_neg hl, if_pos (And.intro hz h3), if_neg h34, if_pos hz])
              go_wp2_with fail
              refine bodyPost_ret (v := .tuple #[.agg #[.int .i64 t.f, .int .i64 (t.b + 1), .int .i64 l.pn, .bool true, .int .i64 3], .int .i64 n]) (by simp [results, Tryd.results22, go_sem]) rfl ?_
              exact ⟨by rw [hTT.out], four_below _ _ _ _ _⟩
            · have hd3 : decide (t.b + 1 < 3) = false := by simpa using h3
              have hna : ¬ (t.s - n = 0 ∧ t.b + 1 < 3) := fun h => h3 h.2
              by_cases hh : t.b + 1 = t.has
              · have hhb : (t.b + 1 == t.has) = true := by simpa using hh
                have hTT := Lib.hid (show T = ⟨l.fr, 0, l.pn, true, l.bl⟩ from by rw [← hT.out, thrR]; rw [if_neg hl, if_neg hna, if_pos hh])
                go_wp2_with fail
                refine bodyPost_ret (v := .tuple #[.agg #[.int .i64 l.fr, .int .i64 0, .int .i64 l.pn, .bool true, .int .i64 l.bl], .int .i64 n]) (by simp [results, Tryd.results22, go_sem]) rfl ?_
                exact ⟨by rw [hTT.out], four_below _ _ _ _ _⟩
              · have hhb : (t.b + 1 == t.has) = false := by simpa using hh
                have hTT := Lib.hid (show T = ⟨t.f, t.b + 1, l.pn, true, t.has⟩ from by rw [← hT.out, thrR]; rw [if_neg hl, if_neg hna, if_neg hh, if_pos hz])
                go_wp2_with fail
                refine bodyPost_ret (v := .tuple #[.agg #[.int .i64 t.f, .int .i64 (t.b + 1), .int .i64 l.pn, .bool true, .int .i64 t.has], .int .i64 n]) (by simp [results, Tryd.results22, go_sem]) rfl ?_
                exact ⟨by rw [hTT.out], four_below _ _ _ _ _⟩
          · have hzb : (t.s - n == 0) = false := by simpa using hz
            have hna : ¬ (t.s - n = 0 ∧ t.b + 1 < 3) := fun h => hz h.1
            by_cases hh : t.b + 1 = t.has
            · have hhb : (t.b + 1 == t.has) = true := by simpa using hh
              have hTT := Lib.hid (show T = ⟨l.fr, 0, l.pn, true, l.bl⟩ from by rw [← hT.out, thrR]; rw [if_neg hl, if_neg hna, if_pos hh])
              go_wp2_with fail
              refine bodyPost_ret (v := .tuple #[.agg #[.int .i64 l.fr, .int .i64 0, .int .i64 l.pn, .bool true, .int .i64 l.bl], .int .i64 n]) (by simp [results, Tryd.results22, go_sem]) rfl ?_
              exact ⟨by rw [hTT.out], four_below _ _ _ _ _⟩
            · have hhb : (t.b + 1 == t.has) = false := by simpa using hh
              have hTT := Lib.hid (show T = ⟨t.f, t.b + 1, t.s - n, false, t.has⟩ from by rw [← hT.out, thrR]; rw [if_neg hl, if_neg hna, if_neg hh, if_neg hz])
              go_wp2_with fail
              refine bodyPost_ret (v := .tuple #[.agg #[.int .i64 t.f, .int .i64 (t.b + 1), .int .i64 (t.s - n), .bool false, .int .i64 t.has], .int .i64 n]) (by simp [results, Tryd.results22, go_sem]) rfl ?_
              exact ⟨by rw [hTT.out], four_below _ _ _ _ _⟩

end Go.Proofs.YtmjbidnlknmcgabDoor
