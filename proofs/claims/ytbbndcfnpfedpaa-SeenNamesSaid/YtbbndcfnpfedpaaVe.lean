/- The reference's games are the program's; the contracts of the reference's Many and Explains. -/
import Derived.Test.YtbbndcfnpfedpaaVd
set_option linter.unusedVariables false
set_option linter.unusedSimpArgs false
namespace Go.Proofs.Ytbbndcfnpfedpaa
open Go.RowKit Go.Shelf

attribute [local go_sem] Oper.semAt_some

def pq (row : List Int) : Int × Int := (behN row 0, behN row 1)
theorem pq_perm : (framesL.map pq).Perm rolls := List.isPerm_iff.1 (by kernel_rfl)

theorem offS_has (ts : List Int) (t : Int) : offS ts t = hasI ts t := by unfold offS withS; rfl
theorem onlyW_all (ws : List Wd) (k : Int) (f : Wd → Bool) : (onlyW ws k).all f = ws.all fun x => !(x.fr == k) || f (zeroF x) := by
  induction ws with
  | nil => rfl
  | cons x ws ih =>
    have e : onlyW (x :: ws) k = (if x.fr == k then [zeroF x] else []) ++ onlyW ws k := by
      unfold onlyW
      cases h : (x.fr == k) <;> simp [List.filter, h]
    rw [e, List.all_append, List.all_cons, ih]
    congr 1
    cases h : (x.fr == k) <;> simp
theorem fitsR_B {ws : List Wd} {ts : List Int} {k : Int} {row : List Int} (hb : ∀ x ∈ ws, 0 ≤ x.ba ∧ x.ba ≤ 1) : fitsR (onlyW ws k) ts [row] = fitsB ws (offS ts) k (pq row).1 (pq row).2 := by
  unfold fitsR fitsB
  rw [onlyW_all, Bool.eq_iff_iff]
  simp only [Bool.and_eq_true, List.all_eq_true]
  have key : ∀ x ∈ ws, ((!(x.fr == k) || fitR ts [row] (zeroF x)) = true ↔ okW (offS ts) k 0 (pq row).1 x = true ∧ okW (offS ts) k 1 (pq row).2 x = true) := fun x hx => by
    have h01 := hb x hx
    unfold okW toldB fitR
    rw [offS_has]
    have ez : (zeroF x).te = x.te ∧ (zeroF x).fr = 0 ∧ (zeroF x).ba = x.ba ∧ (zeroF x).le = x.le ∧ (zeroF x).mo = x.mo := ⟨rfl, rfl, rfl, rfl, rfl⟩
    rw [ez.1, ez.2.1, ez.2.2.1, ez.2.2.2.1, ez.2.2.2.2]
    cases hk : (x.fr == k)
    · simp
    · have hba : x.ba = 0 ∨ x.ba = 1 := by omega
      rcases hba with e | e
      · rw [e]
        cases hasI ts x.te <;> simp [pq]
      · rw [e]
        cases hasI ts x.te <;> simp [pq]
  constructor
  · intro h
    exact ⟨fun x hx => ((key x hx).1 (h x hx)).1, fun x hx => ((key x hx).1 (h x hx)).2⟩
  · intro h x hx
    exact (key x hx).2 ⟨h.1 x hx, h.2 x hx⟩
theorem gamesR_perm {ws : List Wd} {ts : List Int} {k : Int} (hb : ∀ x ∈ ws, 0 ≤ x.ba ∧ x.ba ≤ 1) : ((gamesR ws ts k).map pq).Perm (gamesL ws (offS ts) k) := by
  have e : (gamesR ws ts k).map pq = (framesL.map pq).filter fun p => fitsB ws (offS ts) k p.1 p.2 := by
    unfold gamesR
    rw [List.filter_map]
    congr 1
    refine List.filter_congr fun row _ => ?_
    exact fitsR_B hb
  rw [e]
  exact pq_perm.filter _
theorem gamesR_len {ws : List Wd} {ts : List Int} {k : Int} (hb : ∀ x ∈ ws, 0 ≤ x.ba ∧ x.ba ≤ 1) : (gamesR ws ts k).length = (gamesL ws (offS ts) k).length := by
  have := (gamesR_perm (ts := ts) (k := k) hb).length_eq
  simpa using this

theorem prodN_pos {L : List (List (Int × Int))} (h : ∀ g ∈ L, g ≠ []) : 0 < prodN L := by
  induction L with
  | nil => simp [prodN]
  | cons g L ih =>
    rw [prodN_cons]
    refine Nat.mul_pos ?_ (ih fun g hg => h g (by simp [hg]))
    have := h g (by simp)
    cases g with
    | nil => exact absurd rfl this
    | cons a b => simp
theorem expl_prod {l : Lan} {ts : List Int} (hc : chkE l ts = 0) : decide (0 < prodN (frmL l (offS ts))) = explB l ts := by
  by_cases hp : possB l (offS ts) = true
  · have he : explB l ts = true := by unfold explB; rw [hc, hp]; rfl
    rw [he]
    refine decide_eq_true (prodN_pos fun g hg => ?_)
    unfold frmL at hg
    obtain ⟨f, hf, rfl⟩ := List.mem_map.1 hg
    unfold possB at hp
    exact some_iff.1 (List.all_eq_true.1 hp f hf)
  · have he : explB l ts = false := by unfold explB; rw [hc]; simp [hp]
    have hg : gofE l ts ≠ 0 := by unfold gofE; rw [if_pos hc, if_neg hp]; omega
    rw [he, (many_prod hc).2 hg]; rfl
theorem fault_ba {l : Lan} (h : faultW l = 0) : ∀ x ∈ l.ws, 0 ≤ x.ba ∧ x.ba ≤ 1 := fun x hx => by
  have := (fault0 h).2.2.2.2 x hx
  unfold wrongW at this
  simp only [Bool.or_eq_false_iff, Bool.not_eq_false'] at this
  exact inB_iff.1 this.2.1

set_option maxRecDepth 100000 in
set_option maxHeartbeats 8000000 in
theorem many_ref (l : Lan) (ts : List Int) (ta : Option Addr) (tc : Nat) (w : World) (hL : WdsAt w l.wa l.ws) (hX : IntsAt w ta ts) (hm : ts.length ≤ 1000) (hF : faultW l = 0) :
    Calls Try.prog 31 #[l.val, .slice ta ts.length tc] w fun e w' => e = .returned (.int .i64 ((prodN (frmL l (offS ts)) : Nat) : Int)) ∧ Below w.heap.size w w' := by
  have hn : l.ws.length ≤ 1000 := by have := fault_len hF; omega
  have hfs := (fault0 hF).2.2
  have GR := Lib.hid (fun (k : Int) W (hb : Below w.heap.size w W) => games_ref l ts k ta tc W (hL.lo hb) (hX.lo hb) hn hm (fault_ba hF))
  obtain ⟨F, hFN⟩ : ∃ F : Nat, l.fs = (F : Int) := ⟨l.fs.toNat, by omega⟩
  have HF5 := Lib.hid (show F ≤ 5 by omega)
  obtain ⟨pr, hprd⟩ : ∃ pr : Nat → Nat, Hid (pr = fun n => prodN ((List.range n).map fun (f : Nat) => gamesL l.ws (offS ts) (f : Int))) := ⟨_, Lib.hid rfl⟩
  have PL := Lib.hid (fun n => (show pr n ≤ 66 ^ n by rw [hprd.out]; exact frm_le l _ n))
  have PS := Lib.hid (fun n => (show pr (n + 1) = pr n * (gamesR l.ws ts ((n : Nat) : Int)).length by
    rw [hprd.out, gamesR_len (fault_ba hF)]
    show prodN ((List.range (n + 1)).map _) = _
    rw [List.range_succ, List.map_append]; exact prodN_snoc _ _))
  have GL := Lib.hid (fun n => (show (gamesR l.ws ts ((n : Nat) : Int)).length ≤ 66 by rw [gamesR_len (fault_ba hF)]; exact games_len _ _ _))
  have PR0 := Lib.hid (show pr 0 = 1 by rw [hprd.out]; rfl)
  have PRF := Lib.hid (show prodN (frmL l (offS ts)) = pr F by rw [hprd.out]; unfold frmL; rw [hFN]; rfl)
  rw [PRF.out]
  have X := Lib.hid (BX.mk' l w)
  have HB0 := Lib.hid (show ∀ W, BX l w W → Blk W w.heap.size #[.int .i64 (F : Int), .slice l.wa l.ws.length l.wc] 24 from fun W h => by have := h.b; rwa [hFN] at this)
  unfold Lan.val at *
  rw [hFN] at GR X ⊢
  clear hL hX hm hF hn hfs
  go_enter Try.func31, Try.ntmps31
  go_wp2_with fail
  generalize w.alloc _ = W0 at X ⊢
  go_loopg [5, 6] F (fun g' s5 s6 wx => ∃ i : Nat, i ≤ F ∧ g' = F - i ∧ s6 = .int .i64 (i : Int) ∧ s5 = .int .i64 ((pr i : Nat) : Int) ∧ Hid (BX l w wx))
  case atStart => exact ⟨0, by omega, by omega, rfl, by rw [PR0.out]; rfl, X⟩
  case round =>
    obtain ⟨i, hi, rfl, rfl, rfl, hX⟩ := hrel
    clear X
    have hbx := HB0.out _ hX.out
    have k0 := hbx.cell 0 (show _ = some (Value.int .i64 (F : Int)) from rfl)
    have k1 := hbx.cell 1 (show _ = some (Value.slice l.wa l.ws.length l.wc) from rfl)
    clear hbx
    by_cases hlt : i < F
    · have hz1 : (i : Int) < (F : Int) := by omega
      have e2 : IntKind.i64.wrap ((i : Int) + 1) = (i : Int) + 1 := IntWalk.i64_in _ (by have := HF5.out; omega)
      have E2 := Lib.hid e2
      have HI := Lib.hid hlt
      have hps := PS.out i
      have hpl := PL.out i
      have hpl4 : (66 : Nat) ^ i ≤ 66 ^ 4 := Nat.pow_le_pow_right (by omega) (by have := HF5.out; omega)
      have hg66 := GL.out i
      have hmul : pr i * (gamesR l.ws ts (i : Int)).length ≤ 66 ^ 4 * 66 := Nat.mul_le_mul (Nat.le_trans hpl hpl4) hg66
      have e3 : IntKind.i64.wrap (((pr i : Nat) : Int) * ((gamesR l.ws ts (i : Int)).length : Int)) = ((pr (i + 1) : Nat) : Int) := by
        rw [hps, show ((pr i * (gamesR l.ws ts (i : Int)).length : Nat) : Int) = ((pr i : Nat) : Int) * ((gamesR l.ws ts (i : Int)).length : Int) by simp]
        exact IntWalk.i64_in _ (by have h2 : ((pr i * (gamesR l.ws ts (i : Int)).length : Nat) : Int) = ((pr i : Nat) : Int) * ((gamesR l.ws ts (i : Int)).length : Int) := (by simp); omega)
      obtain ⟨pn, hpn⟩ : ∃ pn : Int, ((pr (i + 1) : Nat) : Int) = pn := ⟨_, rfl⟩
      have HPN := Lib.hid hpn
      rw [hpn] at e3
      have E3 := Lib.hid e3
      clear hps hpl hpl4 hg66 hmul hlt hi e2 e3 hpn
      go_wp2_with fail
      refine (GR.out (i : Int) _ hX.out.bl).mono ?_
      rintro e w2 ⟨a2, c2, rfl, hG2, hg2, hb⟩
      have XN := Lib.hid (hX.out.lo hb)
      have e2 := E2.out
      have e3 := E3.out
      clear hG2 hg2 hb k0 k1 hX
      go_wp2_with fail
      go_roundg (F - (i + 1))
      case measure => have := HI.out; omega
      case rel => exact ⟨i + 1, by have := HI.out; omega, rfl, by simp, by rw [HPN.out], XN⟩
    · have hz1 : ¬ (i : Int) < (F : Int) := by omega
      have hiF := Lib.hid (show pr i = pr F by rw [show i = F by omega])
      clear hlt hi
      go_wp2_with fail
      go_returns
      exact ⟨by rw [hiF.out]; first | done | rfl, hX.out.bl⟩

set_option maxHeartbeats 2000000 in
theorem explains_ref (l : Lan) (ts : List Int) (ta : Option Addr) (tc : Nat) (w : World) (hL : WdsAt w l.wa l.ws) (hX : IntsAt w ta ts) (hm : ts.length ≤ 1000) (hc : chkE l ts = 0) :
    Calls Try.prog 25 #[l.val, .slice ta ts.length tc] w fun e w' => e = .returned (.bool (explB l ts)) ∧ Below w.heap.size w w' := by
  have MR := Lib.hid (fun W (hb : Below w.heap.size w W) => many_ref l ts ta tc W (hL.lo hb) (hX.lo hb) hm (chkE_zero hc).1)
  have B0 := Lib.hid (below_al w (.cells #[.int .i64 l.fs, .slice l.wa l.ws.length l.wc] 24))
  have HE := Lib.hid (expl_prod hc)
  generalize prodN (frmL l (offS ts)) = P at *
  unfold Lan.val at *
  rw [← HE.out]
  clear hL hX hm hc
  by_cases hP : 0 < P
  · have hz : (0 : Int) < (P : Int) := by omega
    have HD := Lib.hid (show decide (0 < P) = true by simp [hP])
    rw [HD.out]
    have HP := Lib.hid hP
    clear hP
    go_enter Try.func25, Try.ntmps25
    go_wp2_with fail
    refine (MR.out _ B0.out).mono ?_
    rintro e w1 ⟨rfl, hb⟩
    have B1 := Lib.hid (below_go B0.out hb)
    clear hb
    go_wp2_with fail
    go_returns
    exact ⟨by first | (have hp := HP.out; simp [hp]; done) | (have hp := HP.out; simp; omega), B1.out⟩
  · have hP0 : P = 0 := by omega
    subst hP0
    go_enter Try.func25, Try.ntmps25
    go_wp2_with fail
    refine (MR.out _ B0.out).mono ?_
    rintro e w1 ⟨rfl, hb⟩
    have B1 := Lib.hid (below_go B0.out hb)
    clear hb
    go_wp2_with fail
    go_returns
    exact ⟨by first | done | rfl | simp, B1.out⟩

end Go.Proofs.Ytbbndcfnpfedpaa
