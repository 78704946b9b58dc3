/- The contracts of rows and of the reference's IsGame. -/
import Derived.Test.YtbbndcfnpfedpaaXg
import Derived.Test.YtbbndcfnpfedpaaVd
set_option linter.unusedVariables false
set_option linter.unusedSimpArgs false
namespace Go.Proofs.Ytbbndcfnpfedpaa
open Go.RowKit Go.Shelf

attribute [local go_sem] Oper.semAt_some

/-- Rows of numbers in memory, where a row that is nil has no capacity. -/
def GAz (w : World) (a : Option Addr) (G : List (List Int)) : Prop := ∀ (i : Nat) (row : List Int), G[i]? = some row → ∃ (g o : Nat) (a' : Option Addr) (c' : Nat), a = some ⟨g, o, none⟩ ∧ w.cell? ⟨g, o + i, none⟩ = some (.slice a' row.length c') ∧ IntsAt w a' row ∧ (a' = none → row = [] ∧ c' = 0)
theorem GAz.at {w : World} {a : Option Addr} {G : List (List Int)} (h : GAz w a G) : GAt w a G := fun i row hi => by
  obtain ⟨g, o, a', c', h1, h2, h3, _⟩ := h i row hi
  exact ⟨g, o, a', c', h1, h2, h3⟩
theorem GAz.lo {w W : World} {a : Option Addr} {G : List (List Int)} (h : GAz w a G) (hb : Below w.heap.size w W) : GAz W a G := fun i row hi => by
  obtain ⟨g, o, a', c', h1, h2, h3, h4⟩ := h i row hi
  exact ⟨g, o, a', c', h1, cell_lo hb h2, h3.lo hb, h4⟩

theorem llpush2 {B : Nat} {W w1 : World} {v v' : Value} {G : List (List Int)} {hs : List Value} {row : List Int} {a' : Option Addr} {c' : Nat} (ho : W.ownsRow B 25 1 v (rowsV G).length hs) (hr : RowsOk 0 W v.ownBlock (rowsV G) hs) (hI : IntsAt W a' row) (ha : ∀ g o, a' = some ⟨g, o, none⟩ → ∀ k, v.ownBlock = some k → k < g)
    (hg : (W.alloc (.cells #[.slice a' row.length c'] 25)).grownBy w1 v.ownBlock) (ho' : w1.ownsRow B 25 1 v' ((rowsV G).length + 1) (hs ++ [.slice a' row.length c'])) (hloc : v'.ownBlock = v.ownBlock ∨ v'.ownBlock = some (W.alloc (.cells #[.slice a' row.length c'] 25)).heap.size) :
    OwnLL 25 B 0 w1 v' (rowsV (G ++ [row])) := by
  have b2 : Below W.heap.size W (W.alloc (.cells #[.slice a' row.length c'] 25)) := below_al _ _
  have ho2 := ownsRow_alt ho (Alt.of_below (p := fun _ => False) b2 (fun k hk e => by omega)) (fun _ _ => id)
  have hI2 := hI.lo b2
  have hrow : RowV 0 (W.alloc (.cells #[.slice a' row.length c'] 25)) a' (row.map (Value.int .i64)) := fun j u hu => by
    rw [List.getElem?_map] at hu
    cases hx : row[j]? with
    | none => rw [hx] at hu; cases hu
    | some x =>
      rw [hx] at hu
      cases hu
      obtain ⟨g, o, e, h1⟩ := hI2 j x hx
      exact ⟨g, o, e, h1, Nat.zero_le _⟩
  have hr' := RowsOk.one (c := c') (ob := v.ownBlock) hrow (fun k hk g o e => by
    have h2 := ha g o e k hk
    omega)
  rw [List.length_map] at hr'
  rw [rowsV_snoc]
  exact OwnLL.push (L' := [row.map (Value.int .i64)]) ho2 (hr.lo b2) hr' hg ho' hloc

set_option maxRecDepth 100000 in
set_option maxHeartbeats 8000000 in
theorem rows_any (G : List (List Int)) (ga : Option Addr) (gc : Nat) (w : World) (hG : GAz w ga G) (hg : G.length ≤ 1000) (hr : ∀ row ∈ G, row.length ≤ 1000) :
    Calls Try.prog 40 #[.slice ga G.length gc] w fun e w' => ∃ a c, e = .returned (.slice a G.length c) ∧ GAt w' a G ∧ Below w.heap.size w w' := by
  obtain ⟨i0, hi0, hy0, hy1, hy2⟩ := info_parts info25
  have HG := Lib.hid hG
  have HGN := Lib.hid hg
  have LI := Lib.hid (fun (row : List Int) (hm : row ∈ G) a c W (hI : IntsAt W a row) (h0 : a = none → row = [] ∧ c = 0) => lawlist_any row a c W hI h0 (hr row hm))
  have O0 := Lib.hid (show OwnLL 25 w.heap.size 0 w (.slice none 0 0) (rowsV (G.take 0)) from OwnLL.nil _ _ _ _)
  have B0 := Lib.hid (Below.refl w.heap.size w)
  obtain ⟨n, hnn⟩ : ∃ n, Hid (n = G.length) := ⟨_, Lib.hid rfl⟩
  rw [← hnn.out] at HGN ⊢
  clear hG hg hr
  go_enter Try.func40, Try.ntmps40
  go_wp2_with fail
  go_loopg [3, 4] n (fun g s3 s4 wx => ∃ (i : Nat) (v : Value), i ≤ n ∧ g = n - i ∧ s4 = .int .i64 (i : Int) ∧ v = s3 ∧ Hid (OwnLL 25 w.heap.size 0 wx v (rowsV (G.take i))) ∧ Hid (Below w.heap.size w wx))
  case atStart => exact ⟨0, _, by omega, by omega, rfl, rfl, O0, B0⟩
  case round =>
    obtain ⟨i, v, hi, rfl, rfl, rfl, hO, hB⟩ := hrel
    clear O0 B0
    by_cases hlt : i < n
    · have hz1 : (i : Int) < (n : Int) := by omega
      have hz0 : (0 : Int) ≤ (i : Int) := by omega
      have e2 : IntKind.i64.wrap ((i : Int) + 1) = (i : Int) + 1 := IntWalk.i64_in _ (by have := HGN.out; omega)
      have HI := Lib.hid hlt
      have E2 := Lib.hid e2
      obtain ⟨row, hrow⟩ : ∃ row, G[i]? = some row := ⟨G[i]'(by have := hnn.out; omega), List.getElem?_eq_getElem _⟩
      obtain ⟨g, o, a', c', rfl, q1, q2, q3⟩ := HG.out i row hrow
      have q1 := cell_lo hB.out q1
      have L1 := Lib.hid (LI.out row (List.mem_of_getElem? hrow) a' c' wr (q2.lo hB.out) q3)
      have HTK := Lib.hid (take_next hrow)
      clear hlt hi hrow q2 q3 e2
      go_wp2_with fail
      refine L1.out.mono ?_
      rintro e w2 ⟨v2, rfl, ho2, hb2⟩
      obtain ⟨a4, c4, rfl⟩ := own_len ho2
      have I4 := Lib.hid (own_intsAt ho2).1
      obtain ⟨hs, hown0, hok0⟩ := hO.out
      have HOB := Lib.hid (show ∀ g o, a4 = some ⟨g, o, none⟩ → ∀ k, v.ownBlock = some k → k < g from fun g o e k hk => by
        have h1 := hown0.lt k hk
        have h2 := ho2.lt g (by rw [e]; rfl)
        omega)
      have hown := ownsRow_alt hown0 (Alt.of_below (p := fun _ => False) hb2 (fun k hk e => by omega)) (fun _ _ => id)
      have hok := hok0.lo hb2
      have B2 := Lib.hid (below_go hB.out hb2)
      have HL := Lib.hid (show (rowsV (G.take i)).length ≤ 1000 by rw [rowsV_len, List.length_take]; have := HI.out; have := HGN.out; omega)
      have PU := Lib.hid (fun w1 v' hg ho' hloc => llpush2 (w1 := w1) (v' := v') (c' := c4) hown hok I4.out HOB.out hg ho' hloc)
      have SZ := Lib.hid B2.out.size
      have AB := Lib.hid (fun w1 (hg : (w2.alloc (.cells #[.slice a4 row.length c4] 25)).grownBy w1 v.ownBlock) => below_grow (below_go B2.out (below_al w2 _)) hg (fun k hk => own_base hown hk))
      rw [← HTK.out] at PU
      generalize (rowsV (G.take i)).length = m at *
      clear hok hok0 hown0 ho2 hb2 hB hO L1 q1
      have e2 := E2.out
      go_wp2_with (at_builtin; go_must (refine wpList_append_own_at _ rfl _ _ 63 rfl w.heap.size 25 i0 _ 1 24 Try.underlying63 hi0 hy0 hy1 hy2 rfl (by decide) v m hs rfl (hown.alloc _) ⟨w2.heap.size, 0, none⟩ 1 1 [.slice a4 row.length c4] rfl (by rfl) (cell_one_new _ _ _) (by simp [Value.oneCell']) (by unfold maxLen; have := HL.out; omega) (by have := HL.out; omega) (by have := SZ.out; simp; omega) ?_); intro v' w1 hown' hgrow hnil hloc; have KN := Lib.hid (PU.out w1 v' hgrow hown' hloc); have BN := Lib.hid (AB.out w1 hgrow); clear hown' hgrow hnil hloc)
      clear PU AB hown
      go_roundg (n - (i + 1))
      case measure => have := HI.out; omega
      case rel => exact ⟨i + 1, _, by have := HI.out; omega, rfl, by simp, rfl, KN, BN⟩
    · have hz1 : ¬ (i : Int) < (n : Int) := by omega
      obtain rfl : i = n := by omega
      have hall : G.take i = G := List.take_of_length_le (by have := hnn.out; omega)
      rw [hall] at hO
      obtain ⟨a, c, rfl, h1, h2⟩ := hO.out.out
      have HR := Lib.hid (GAt.of_ll h1)
      have HLN := Lib.hid (show (rowsV G).length = i by rw [rowsV_len, hnn.out])
      rw [HLN.out]
      clear h1 h2 hO hlt hi hall
      go_wp2_with fail
      go_returns
      first
      | exact ⟨a, ⟨c, rfl⟩, HR.out, hB.out⟩
      | exact ⟨a, c, rfl, HR.out, hB.out⟩

end Go.Proofs.Ytbbndcfnpfedpaa
