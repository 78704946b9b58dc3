/- The contracts of number and True: a game by words. -/
import Derived.Test.YtbbndcfnpfedpaaXh
import Derived.Test.YtbbndcfnpfedpaaXc
import Derived.Test.YtbbndcfnpfedpaaXi
set_option linter.unusedVariables false
set_option linter.unusedSimpArgs false
namespace Go.Proofs.Ytbbndcfnpfedpaa
open Go.RowKit Go.Shelf

attribute [local go_sem] Oper.semAt_some

/-- Words of 16 bits in memory. -/
def W16 (w : World) (a : Option Addr) (ns : List Int) : Prop := (∀ (i : Nat) (v : Int), ns[i]? = some v → ∃ g o, a = some ⟨g, o, none⟩ ∧ w.cell? ⟨g, o + i, none⟩ = some (.int .u16 v)) ∧ ∀ v ∈ ns, 0 ≤ v ∧ v < 65536
theorem W16.lo {w W : World} {a : Option Addr} {ns : List Int} (h : W16 w a ns) (hb : Below w.heap.size w W) : W16 W a ns :=
  ⟨fun i v hi => by
    obtain ⟨g, o, e, h1⟩ := h.1 i v hi
    exact ⟨g, o, e, cell_lo hb h1⟩, h.2⟩
def numB (ns : List Int) (at' : Nat) : Int := ns.getD (at' % ns.length) 0
theorem numB_in {ns : List Int} (h : ∀ v ∈ ns, 0 ≤ v ∧ v < 65536) (k : Nat) : 0 ≤ numB ns k ∧ numB ns k < 65536 := by
  unfold numB
  rw [List.getD_eq_getElem?_getD]
  cases e : ns[k % ns.length]? with
  | none => simp
  | some v => exact h v (List.mem_of_getElem? e)

set_option maxHeartbeats 2000000 in
theorem number_any (ns : List Int) (k : Nat) (a : Option Addr) (c : Nat) (w : World) (hW : W16 w a ns) (hk : k ≤ 1000000) (hn : (ns.length : Int) ≤ 9223372036854775807) :
    Calls Try.prog 70 #[.slice a ns.length c, .int .i64 (k : Int)] w fun e w' => e = .returned (.int .i64 (numB ns k)) ∧ w = w' := by
  by_cases h0 : ns.length = 0
  · have hz : (((ns.length : Nat) : Int) == 0) = true := by rw [h0]; rfl
    have hv : numB ns k = 0 := by
      obtain rfl : ns = [] := List.eq_nil_of_length_eq_zero h0
      rfl
    rw [hv]
    generalize ns.length = n at *
    clear hW h0 hv
    go_enter Try.func70, Try.ntmps70
    go_wp2_with fail
    go_returns
    exact ⟨rfl, rfl⟩
  · have hm : k % ns.length < ns.length := Nat.mod_lt _ (by omega)
    obtain ⟨v, hv⟩ : ∃ v, ns[k % ns.length]? = some v := ⟨_, List.getElem?_eq_getElem hm⟩
    obtain ⟨g, o, rfl, c1⟩ := hW.1 _ v hv
    have hvb := hW.2 v (List.mem_of_getElem? hv)
    have hN : numB ns k = v := by unfold numB; rw [List.getD_eq_getElem?_getD, hv]; rfl
    rw [hN]
    obtain ⟨n, hn2⟩ : ∃ n, n = ns.length := ⟨_, rfl⟩
    rw [← hn2] at h0 hm hv c1 hn ⊢
    obtain ⟨m, hmm⟩ : ∃ m, Hid (m = k % n) := ⟨_, Lib.hid rfl⟩
    rw [← hmm.out] at hm c1
    have hz : ((n : Int) == 0) = false := beq_eq_false_iff_ne.2 (by omega)
    have hz2 : ¬ (n : Int) = 0 := by omega
    have tm : Int.tmod (k : Int) (n : Int) = (m : Int) := by rw [Int.tmod_eq_emod_of_nonneg (by omega), hmm.out, Int.natCast_emod]
    have ev : IntKind.i64.wrap v = v := IntWalk.i64_in _ (by omega)
    have h1 : (0 : Int) ≤ (m : Int) := by omega
    have h2 : (m : Int) < (n : Int) := by omega
    clear hW h0 hm hv hN hvb hn2
    go_enter Try.func70, Try.ntmps70
    go_wp2_with fail
    go_returns
    exact ⟨rfl, rfl⟩

/-- A frame by words, and a game. -/
def rowT (ns : List Int) (f : Nat) : List Int := if numB ns (2 * f) % 11 = 10 then [10] else [numB ns (2 * f) % 11, numB ns (2 * f + 1) % (11 - numB ns (2 * f) % 11)]
def gameT (ns : List Int) (F : Nat) : List (List Int) := (List.range F).map (rowT ns)
theorem gameT_next (ns : List Int) (F : Nat) : gameT ns (F + 1) = gameT ns F ++ [rowT ns F] := by unfold gameT; rw [List.range_succ, List.map_append]; rfl
theorem gameT_len (ns : List Int) (F : Nat) : (gameT ns F).length = F := by unfold gameT; simp
theorem gameT_at {ns : List Int} {F f : Nat} (h : f < F) : (gameT ns F)[f]? = some (rowT ns f) := by unfold gameT; rw [List.getElem?_map, List.getElem?_range h]; rfl
theorem rowT_roll (ns : List Int) (f : Nat) : (rollV (rowT ns f)).2 = true := by
  unfold rowT
  have h1 := Int.emod_nonneg (numB ns (2 * f)) (show (11 : Int) ≠ 0 by decide)
  have h2 := Int.emod_lt_of_pos (numB ns (2 * f)) (show (0 : Int) < 11 by decide)
  generalize numB ns (2 * f) % 11 = p at *
  split
  · rfl
  · have hp : 0 < 11 - p := by omega
    have h3 := Int.emod_nonneg (numB ns (2 * f + 1)) (show (11 - p : Int) ≠ 0 by omega)
    have h4 := Int.emod_lt_of_pos (numB ns (2 * f + 1)) hp
    generalize numB ns (2 * f + 1) % (11 - p) = q at *
    rw [roll_two (inB_iff.2 (by omega)) (by omega)]
    exact inB_iff.2 (by omega)
theorem rowT_ne (ns : List Int) (f : Nat) : rowT ns f ≠ [] := by unfold rowT; split <;> simp
theorem GAt.z {W : World} {a : Option Addr} {G : List (List Int)} (h : GAt W a G) (hne : ∀ row ∈ G, row ≠ []) : GAz W a G := fun i row hi => by
  obtain ⟨g, o, a', c', h1, h2, h3⟩ := h i row hi
  refine ⟨g, o, a', c', h1, h2, h3, fun e => ?_⟩
  have hr := hne row (List.mem_of_getElem? hi)
  cases row with
  | nil => exact absurd rfl hr
  | cons x r =>
    obtain ⟨g', o', e', _⟩ := h3 0 x rfl
    rw [e] at e'; cases e'

set_option maxRecDepth 100000 in
set_option maxHeartbeats 8000000 in
theorem true_any (ns : List Int) (F : Nat) (a : Option Addr) (c : Nat) (w : World) (hW : W16 w a ns) (hF : F ≤ 5) (hn : (ns.length : Int) ≤ 9223372036854775807) :
    Calls Try.prog 44 #[.int .i64 (F : Int), .slice a ns.length c] w fun e w' => ∃ a' c', e = .returned (.slice a' (gameT ns F).length c') ∧ GAt w' a' (gameT ns F) ∧ Below w.heap.size w w' := by
  obtain ⟨i0, hi0, hy0, hy1, hy2⟩ := info_parts info25
  have NU := Lib.hid (fun (k : Nat) (hk : k ≤ 1000000) W (hb : Below w.heap.size w W) => number_any ns k a c W (hW.lo hb) hk hn)
  have NB := Lib.hid (fun k => numB_in hW.2 k)
  have O0 := Lib.hid (show OwnLL 25 w.heap.size w.heap.size w (.slice none 0 0) (rowsV (gameT ns 0)) from OwnLL.nil _ _ _ _)
  have B0 := Lib.hid (Below.refl w.heap.size w)
  have HF := Lib.hid hF
  have GN := Lib.hid (fun f => gameT_next ns f)
  have GL := Lib.hid (fun f => gameT_len ns f)
  have HRT : Hid (∀ f, rowT ns f = if numB ns (2 * f) % 11 = 10 then [10] else [numB ns (2 * f) % 11, numB ns (2 * f + 1) % (11 - numB ns (2 * f) % 11)]) := Lib.hid fun f => rfl
  clear hW hF hn
  go_enter Try.func44, Try.ntmps44
  go_wp2_with fail
  go_loopg [5, 6] F (fun g s5 s6 wx => ∃ (f : Nat) (v : Value), f ≤ F ∧ g = F - f ∧ s6 = .int .i64 (f : Int) ∧ v = s5 ∧ Hid (OwnLL 25 w.heap.size w.heap.size wx v (rowsV (gameT ns f))) ∧ Hid (Below w.heap.size w wx))
  case atStart => exact ⟨0, _, by omega, by omega, rfl, rfl, O0, B0⟩
  case round =>
    obtain ⟨f, v, hf, rfl, rfl, rfl, hO, hB⟩ := hrel
    clear O0 B0
    by_cases hlt : f < F
    · have hz1 : (f : Int) < (F : Int) := by omega
      have E2 := Lib.hid (show IntKind.i64.wrap ((f : Int) + 1) = (f : Int) + 1 from IntWalk.i64_in _ (by have := HF.out; omega))
      have e1 : IntKind.i64.wrap (2 * (f : Int)) = ((2 * f : Nat) : Int) := by rw [show ((2 * f : Nat) : Int) = 2 * (f : Int) by omega]; exact IntWalk.i64_in _ (by have := HF.out; omega)
      have HI := Lib.hid hlt
      have N1 := Lib.hid (NU.out (2 * f) (by have := HF.out; omega) wr hB.out)
      have N2 := Lib.hid (NU.out (2 * f + 1) (by have := HF.out; omega) wr hB.out)
      have b1 := NB.out (2 * f)
      have b2 := NB.out (2 * f + 1)
      have HR := Lib.hid (HRT.out f)
      have HG := Lib.hid (GN.out f)
      have t1 : Int.tmod (numB ns (2 * f)) 11 = numB ns (2 * f) % 11 := Int.tmod_eq_emod_of_nonneg b1.1
      have p1 := Int.emod_nonneg (numB ns (2 * f)) (show (11 : Int) ≠ 0 by decide)
      have p2 := Int.emod_lt_of_pos (numB ns (2 * f)) (show (0 : Int) < 11 by decide)
      have t2 : Int.tmod (numB ns (2 * f + 1)) (11 - numB ns (2 * f) % 11) = numB ns (2 * f + 1) % (11 - numB ns (2 * f) % 11) := Int.tmod_eq_emod_of_nonneg b2.1
      generalize numB ns (2 * f) = n1 at *
      generalize numB ns (2 * f + 1) = n2 at *
      generalize n1 % 11 = p at *
      generalize n2 % (11 - p) = q at *
      have HP := Lib.hid (And.intro p1 p2)
      have T2 := Lib.hid t2
      obtain ⟨f2, hf2⟩ : ∃ f2 : Nat, Hid (f2 = 2 * f) := ⟨_, Lib.hid rfl⟩
      rw [← hf2.out] at e1 N1 N2
      have e3 : IntKind.i64.wrap ((f2 : Int) + 1) = ((f2 + 1 : Nat) : Int) := by rw [show ((f2 + 1 : Nat) : Int) = (f2 : Int) + 1 by omega]; exact IntWalk.i64_in _ (by have := HF.out; have := HI.out; have := hf2.out; omega)
      have E1 := Lib.hid e1
      have E3 := Lib.hid e3
      clear hlt hf b1 b2 p1 p2 t2 e3
      go_wp2_with fail
      refine N1.out.mono ?_
      rintro e w2 ⟨rfl, rfl⟩
      clear N1
      by_cases h10 : p = 10
      · subst h10
        obtain ⟨hs', hown, hok⟩ := hO.out
        have HL := Lib.hid (show (rowsV (gameT ns f)).length ≤ 200 by rw [rowsV_len, GL.out]; have := HF.out; have := HI.out; omega)
        have PU := Lib.hid (fun w1 v' hg ho' hloc => llpushN (w1 := w1) (v' := v') [(10 : Int)] 1 #[.int .i64 10] rfl rfl hB.out hown hok hg ho' hloc)
        have SZ := Lib.hid hB.out.size
        rw [show gameT ns f ++ [[10]] = gameT ns (f + 1) by rw [HG.out, HR.out, if_pos rfl]] at PU
        generalize (rowsV (gameT ns f)).length = nn at *
        have e2 := E2.out
        clear hok hO N2 e1
        go_wp2_with (at_builtin; go_must (refine wpList_append_own_at _ rfl _ _ 63 rfl w.heap.size 25 i0 _ 1 24 Try.underlying63 hi0 hy0 hy1 hy2 rfl (by decide) v nn hs' rfl ((hown.alloc _).alloc _) ⟨wr.heap.size + 1, 0, none⟩ 1 1 [.slice (some ⟨wr.heap.size, 0, none⟩) 1 1] rfl (by rfl) (by first | exact World.news_of_block (cs := #[.slice (some ⟨wr.heap.size, 0, none⟩) 1 1]) (t := 25) (fr := (0, 0)) (by simpa using heap_alloc_new (wr.alloc _) _) | fail "news") (by simp [Value.oneCell']) (by unfold maxLen; have := HL.out; omega) (by have := HL.out; omega) (by have := SZ.out; simp; omega) ?_); intro v' w1 hown' hgrow hnil hloc; have KN := Lib.hid (PU.out w1 v' hgrow hown' hloc); clear hown' hgrow hnil hloc)
        clear PU hown hB
        go_roundg (F - (f + 1))
        case measure => have := HI.out; omega
        case rel => exact ⟨f + 1, _, by have := HI.out; omega, rfl, by simp, rfl, Lib.hid KN.out.1, Lib.hid KN.out.2⟩
      · have h10b : (p == 10) = false := beq_eq_false_iff_ne.2 h10
        have ep : IntKind.i64.wrap (11 - p) = 11 - p := IntWalk.i64_in _ (by have := HP.out; omega)
        have hz : ((11 - p : Int) == 0) = false := beq_eq_false_iff_ne.2 (by have := HP.out; omega)
        have hz2 : ¬ (11 - p : Int) = 0 := by have := HP.out; omega
        obtain ⟨hs', hown, hok⟩ := hO.out
        have HL := Lib.hid (show (rowsV (gameT ns f)).length ≤ 200 by rw [rowsV_len, GL.out]; have := HF.out; have := HI.out; omega)
        have PU := Lib.hid (fun w1 v' hg ho' hloc => llpushN (w1 := w1) (v' := v') [p, q] 2 #[.int .i64 p, .int .i64 q] rfl rfl hB.out hown hok hg ho' hloc)
        have SZ := Lib.hid hB.out.size
        rw [show gameT ns f ++ [[p, q]] = gameT ns (f + 1) by rw [HG.out, HR.out, if_neg h10]] at PU
        generalize (rowsV (gameT ns f)).length = nn at *
        have e2 := E2.out
        have e3 := E3.out
        have t2 := T2.out
        clear hok hO
        go_wp2_with fail
        refine N2.out.mono ?_
        rintro e w2 ⟨rfl, rfl⟩
        clear N2
        go_wp2_with (at_builtin; go_must (refine wpList_append_own_at _ rfl _ _ 63 rfl w.heap.size 25 i0 _ 1 24 Try.underlying63 hi0 hy0 hy1 hy2 rfl (by decide) v nn hs' rfl ((hown.alloc _).alloc _) ⟨wr.heap.size + 1, 0, none⟩ 1 1 [.slice (some ⟨wr.heap.size, 0, none⟩) 2 2] rfl (by rfl) (by first | exact World.news_of_block (cs := #[.slice (some ⟨wr.heap.size, 0, none⟩) 2 2]) (t := 25) (fr := (0, 0)) (by simpa using heap_alloc_new (wr.alloc _) _) | fail "news") (by simp [Value.oneCell']) (by unfold maxLen; have := HL.out; omega) (by have := HL.out; omega) (by have := SZ.out; simp; omega) ?_); intro v' w1 hown' hgrow hnil hloc; have KN := Lib.hid (PU.out w1 v' hgrow hown' hloc); clear hown' hgrow hnil hloc)
        clear PU hown hB
        go_roundg (F - (f + 1))
        case measure => have := HI.out; omega
        case rel => exact ⟨f + 1, _, by have := HI.out; omega, rfl, by simp, rfl, Lib.hid KN.out.1, Lib.hid KN.out.2⟩
    · have hz1 : ¬ (f : Int) < (F : Int) := by omega
      obtain rfl : f = F := by omega
      obtain ⟨a', c', rfl, h1, h2⟩ := hO.out.out
      have HG := Lib.hid (GAt.of_ll h1)
      rw [rowsV_len]
      clear h1 h2 hO hlt hf
      go_wp2_with fail
      go_returns
      first
      | exact ⟨a', ⟨c', rfl⟩, HG.out, hB.out⟩
      | exact ⟨a', c', rfl, HG.out, hB.out⟩

end Go.Proofs.Ytbbndcfnpfedpaa
