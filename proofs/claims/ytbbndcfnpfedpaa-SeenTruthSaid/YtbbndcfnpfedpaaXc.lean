/- The contract of the reference's Sets. -/
import Derived.Test.YtbbndcfnpfedpaaXb
set_option linter.unusedVariables false
set_option linter.unusedSimpArgs false
namespace Go.Proofs.Ytbbndcfnpfedpaa
open Go.RowKit Go.Shelf

attribute [local go_sem] Oper.semAt_some

theorem llpushN {w W w1 : World} {v v' : Value} {G : List (List Int)} {hs : List Value} (row : List Int) (n : Nat) (cs : Array Value) (hn : row.length = n) (hcs : cs = (row.map (Value.int .i64)).toArray) (hB : Below w.heap.size w W) (ho : W.ownsRow w.heap.size 25 1 v (rowsV G).length hs) (hr : RowsOk w.heap.size W v.ownBlock (rowsV G) hs)
    (hg : ((W.alloc (.cells cs 3)).alloc (.cells #[.slice (some ⟨W.heap.size, 0, none⟩) n n] 25)).grownBy w1 v.ownBlock)
    (ho' : w1.ownsRow w.heap.size 25 1 v' ((rowsV G).length + 1) (hs ++ [.slice (some ⟨W.heap.size, 0, none⟩) n n])) (hloc : v'.ownBlock = v.ownBlock ∨ v'.ownBlock = some ((W.alloc (.cells cs 3)).alloc (.cells #[.slice (some ⟨W.heap.size, 0, none⟩) n n] 25)).heap.size) :
    OwnLL 25 w.heap.size w.heap.size w1 v' (rowsV (G ++ [row])) ∧ Below w.heap.size w w1 := by
  have b2 : Below W.heap.size W ((W.alloc (.cells cs 3)).alloc (.cells #[.slice (some ⟨W.heap.size, 0, none⟩) n n] 25)) := below_al2 (below_al _ _) _
  have k2 : Blk ((W.alloc (.cells cs 3)).alloc (.cells #[.slice (some ⟨W.heap.size, 0, none⟩) n n] 25)) W.heap.size cs 3 := Blk.alt (p := fun _ => False) (Blk.new W _ _) ((Alt.refl _ _).alloc _) id
  have ho2 := ownsRow_alt ho (Alt.of_below (p := fun _ => False) b2 (fun k hk e => by omega)) (fun _ _ => id)
  have hrow : RowV w.heap.size ((W.alloc (.cells cs 3)).alloc (.cells #[.slice (some ⟨W.heap.size, 0, none⟩) n n] 25)) (some ⟨W.heap.size, 0, none⟩) (row.map (Value.int .i64)) := fun j u hu => by
    refine ⟨W.heap.size, 0, rfl, ?_, hB.size⟩
    rw [Nat.zero_add]
    exact k2.cell j (by rw [hcs, List.getElem?_toArray]; exact hu)
  have hr' : RowsOk w.heap.size ((W.alloc (.cells cs 3)).alloc (.cells #[.slice (some ⟨W.heap.size, 0, none⟩) n n] 25)) v.ownBlock [row.map (Value.int .i64)] [Value.slice (some ⟨W.heap.size, 0, none⟩) n n] := by
    have := RowsOk.one (c := n) hrow (ob := v.ownBlock) (fun k hk g o e => by
      cases e
      have := (ho.lt k hk).2
      omega)
    rwa [List.length_map, hn] at this
  rw [rowsV_snoc]
  refine ⟨OwnLL.push (L' := [row.map (Value.int .i64)]) ho2 (hr.lo b2) hr' hg ho' hloc, ?_⟩
  exact below_grow (below_go hB b2) hg (fun k hk => own_base ho hk)

def fC (a b c : Nat) : List (List Int) := ((List.range c).filter fun k => decide (b < k)).map fun (k : Nat) => [(a : Int), (b : Int), (k : Int)]
def fB (m a b : Nat) : List (List Int) := ((List.range b).filter fun k => decide (a < k)).flatMap fun (k : Nat) => (if m = 2 then [[(a : Int), (k : Int)]] else []) ++ (if m = 3 then fC a k 4 else [])
def fA (m a : Nat) : List (List Int) := (List.range a).flatMap fun (k : Nat) => (if m = 1 then [[(k : Int)]] else []) ++ fB m k 4
def sS1 (m : Nat) : List (List Int) := [] :: (List.range m).flatMap fun (k : Nat) => fA k 4
def sS2 (m a : Nat) : List (List Int) := sS1 m ++ fA m a
def sS3 (m a b : Nat) : List (List Int) := sS2 m a ++ (if m = 1 then [[(a : Int)]] else []) ++ fB m a b
def sS4 (m a b c : Nat) : List (List Int) := sS3 m a b ++ (if m = 2 then [[(a : Int), (b : Int)]] else []) ++ (if m = 3 then fC a b c else [])
theorem all4 {p : Nat → Nat → Nat → Nat → Bool} (h : ((List.range 5).all fun m => (List.range 5).all fun a => (List.range 5).all fun b => (List.range 5).all fun c => p m a b c) = true) (m a b c : Nat) (hm : m < 5) (ha : a < 5) (hb : b < 5) (hc : c < 5) : p m a b c = true := by
  have h1 := List.all_eq_true.1 h m (List.mem_range.2 hm)
  have h2 := List.all_eq_true.1 h1 a (List.mem_range.2 ha)
  have h3 := List.all_eq_true.1 h2 b (List.mem_range.2 hb)
  exact List.all_eq_true.1 h3 c (List.mem_range.2 hc)
theorem sS_0 : sS1 1 = [[]] := by decide +kernel
theorem sS_0a : ∀ m : Nat, m < 5 → sS2 m 0 = sS1 m := by decide +kernel
theorem sS_1 : ∀ m : Nat, m < 5 → sS2 m 4 = sS1 (m + 1) := by decide +kernel
theorem sS_2n : ∀ m : Nat, m < 5 → m ≠ 1 → ∀ a : Nat, a < 4 → sS3 m a (a + 1) = sS2 m a := by decide +kernel
theorem sS_2y : ∀ a : Nat, a < 4 → sS3 1 a (a + 1) = sS2 1 a ++ [[(a : Int)]] := by decide +kernel
theorem sS_3 (m : Nat) (hm : m < 5) (a : Nat) (ha : a < 4) (b : Nat) (hb : b < 5) : a < b → ¬ (b < 4 ∧ 1 < m) → sS3 m a b = sS2 m (a + 1) :=
  of_decide_eq_true (all4 (p := fun m a b c => decide (a < b → ¬ (b < 4 ∧ 1 < m) → sS3 m a b = sS2 m (a + 1))) (by decide +kernel) m a b 0 hm (by omega) hb (by omega))
theorem sS_4n (m : Nat) (hm : m < 5) (h2 : m ≠ 2) (a : Nat) (ha : a < 4) (b : Nat) (hb : b < 4) : sS4 m a b (b + 1) = sS3 m a b :=
  of_decide_eq_true (all4 (p := fun m a b c => decide (m ≠ 2 → sS4 m a b (b + 1) = sS3 m a b)) (by decide +kernel) m a b 0 hm (by omega) (by omega) (by omega)) h2
theorem sS_4y : ∀ a : Nat, a < 4 → ∀ b : Nat, b < 4 → sS4 2 a b (b + 1) = sS3 2 a b ++ [[(a : Int), (b : Int)]] := by decide +kernel
theorem sS_5 (m : Nat) (hm : m < 5) (a : Nat) (ha : a < 4) (b : Nat) (hb : b < 4) (hab : a < b) (c : Nat) (hc : c < 5) : b < c → ¬ (c < 4 ∧ m = 3) → sS4 m a b c = sS3 m a (b + 1) :=
  of_decide_eq_true (all4 (p := fun m a b c => decide (a < b → b < 4 → b < c → ¬ (c < 4 ∧ m = 3) → sS4 m a b c = sS3 m a (b + 1))) (by decide +kernel) m a b c hm (by omega) (by omega) hc) hab hb
theorem sS_6 (a : Nat) (ha : a < 4) (b : Nat) (hb : b < 4) (c : Nat) (hc : c < 4) : b < c → sS4 3 a b (c + 1) = sS4 3 a b c ++ [[(a : Int), (b : Int), (c : Int)]] :=
  of_decide_eq_true (all4 (p := fun m a b c => decide (b < c → sS4 3 a b (c + 1) = sS4 3 a b c ++ [[(a : Int), (b : Int), (c : Int)]])) (by decide +kernel) 0 a b c (by omega) (by omega) (by omega) (by omega))
theorem sS_7 : sS1 5 ++ [[0, 1, 2, 3]] = setsL := by decide +kernel
theorem sS_len2 : ∀ m : Nat, m < 5 → ∀ a : Nat, a < 4 → (sS2 m a).length ≤ 200 := by decide +kernel
theorem sS_len3 (m : Nat) (hm : m < 5) (a : Nat) (ha : a < 4) (b : Nat) (hb : b < 5) : (sS3 m a b).length ≤ 200 ∧ ∀ c : Nat, c < 5 → (sS4 m a b c).length ≤ 200 := by
  have h : ∀ c : Nat, c < 5 → (sS3 m a b).length ≤ 200 ∧ (sS4 m a b c).length ≤ 200 := fun c hc => of_decide_eq_true (all4 (p := fun m a b c => decide ((sS3 m a b).length ≤ 200 ∧ (sS4 m a b c).length ≤ 200)) (by decide +kernel) m a b c hm (by omega) hb hc)
  exact ⟨(h 0 (by omega)).1, fun c hc => (h c hc).2⟩
theorem sS_len : (∀ m : Nat, m < 5 → ∀ a : Nat, a < 4 → (sS2 m a).length ≤ 200) ∧ (∀ m : Nat, m < 5 → ∀ a : Nat, a < 4 → ∀ b : Nat, b < 5 → (sS3 m a b).length ≤ 200 ∧ ∀ c : Nat, c < 5 → (sS4 m a b c).length ≤ 200) ∧ (sS1 5).length ≤ 200 := ⟨sS_len2, sS_len3, by decide +kernel⟩

set_option maxRecDepth 100000 in
set_option maxHeartbeats 16000000 in
theorem sets_ref (w : World) : Calls Try.prog 65 #[] w fun e w' => ∃ a c, e = .returned (.slice a setsL.length c) ∧ GAt w' a setsL ∧ (∀ g o, a = some ⟨g, o, none⟩ → w.heap.size ≤ g ∧ g < w'.heap.size) ∧ Below w.heap.size w w' := by
  obtain ⟨i0, hi0, hy0, hy1, hy2⟩ := info_parts info25
  have O0 := Lib.hid (show OwnLL 25 w.heap.size w.heap.size (w.alloc (.cells #[.slice none 0 0] 25)) (.slice (some ⟨w.heap.size, 0, none⟩) 1 1) (rowsV (sS1 1)) from by
    have k1 : Blk (w.alloc (.cells #[.slice none 0 0] 25)) w.heap.size #[.slice none 0 0] 25 := Blk.new w _ _
    rw [sS_0]
    refine ⟨[.slice none 0 0], ⟨rfl, .inr ⟨w.heap.size, 1, #[.slice none 0 0], rfl, by omega, k1, Nat.le_refl _, by unfold maxLen; omega, rfl, rfl⟩⟩, ?_⟩
    show RowsOk w.heap.size _ (some w.heap.size) [[]] _
    exact RowsOk.one (c := 0) (l := []) (fun j u hu => by simp at hu) (fun k hk g o e => by cases e))
  have B0 := Lib.hid (below_al w (.cells #[.slice none 0 0] 25))
  have S0A := Lib.hid sS_0a
  have S1 := Lib.hid sS_1
  have S2N := Lib.hid sS_2n
  have S2Y := Lib.hid sS_2y
  have S3 := Lib.hid sS_3
  have S4N := Lib.hid sS_4n
  have S4Y := Lib.hid sS_4y
  have S5 := Lib.hid sS_5
  have S6 := Lib.hid sS_6
  have S7 := Lib.hid sS_7
  have SL := Lib.hid sS_len
  go_enter Try.func65, Try.ntmps65
  go_wp2_with fail
  generalize w.alloc _ = W0 at O0 B0 ⊢
  go_loopg [1, 2] (4) (fun g s1 s2 wx => ∃ (m : Nat) (v : Value), 1 ≤ m ∧ m ≤ 5 ∧ g = 5 - m ∧ s2 = .int .i64 (m : Int) ∧ v = s1 ∧ Hid (OwnLL 25 w.heap.size w.heap.size wx v (rowsV (sS1 m))) ∧ Hid (Below w.heap.size w wx))
  case atStart => exact ⟨1, _, by omega, by omega, by omega, rfl, rfl, O0, B0⟩
  case round =>
    obtain ⟨m, v, hm1, hm, rfl, rfl, rfl, hO, hB⟩ := hrel
    clear O0 B0
    by_cases hlt : m < 5
    · have hz1 : (m : Int) ≤ 4 := by omega
      have HM := Lib.hid (And.intro hm1 hlt)
      have E1 := Lib.hid (show IntKind.i64.wrap ((m : Int) + 1) = (m : Int) + 1 from IntWalk.i64_in _ (by omega))
      have hO2 := Lib.hid (show OwnLL 25 w.heap.size w.heap.size wr v (rowsV (sS2 m 0)) by rw [S0A.out m HM.out.2]; exact hO.out)
      clear hm1 hm hlt hO
      go_wp2_with fail
      go_loopg [1, 3] (4) (fun g s1 s3 wx => ∃ (a : Nat) (v : Value), a ≤ 4 ∧ g = 4 - a ∧ s3 = .int .i64 (a : Int) ∧ v = s1 ∧ Hid (OwnLL 25 w.heap.size w.heap.size wx v (rowsV (sS2 m a))) ∧ Hid (Below w.heap.size w wx))
      case atStart => exact ⟨0, _, by omega, by omega, rfl, rfl, hO2, hB⟩
      case round =>
        obtain ⟨a, v, ha, rfl, rfl, rfl, hO, hB⟩ := hrel
        clear hO2
        by_cases hlt : a < 4
        · have hz2 : (a : Int) < 4 := by omega
          have HA := Lib.hid hlt
          have e2 : IntKind.i64.wrap ((a : Int) + 1) = (a : Int) + 1 := IntWalk.i64_in _ (by omega)
          have E2 := Lib.hid e2
          clear hlt ha
          by_cases hm1 : m = 1
          · subst hm1
            obtain ⟨hs', hown, hok⟩ := hO.out
            have HL := Lib.hid (show (rowsV (sS2 1 a)).length ≤ 200 by rw [rowsV_len]; exact SL.out.1 1 (by omega) a HA.out)
            have PU := Lib.hid (fun w1 v' hg ho' hloc => llpushN (w1 := w1) (v' := v') [(a : Int)] 1 #[.int .i64 (a : Int)] rfl rfl hB.out hown hok hg ho' hloc)
            have SZ := Lib.hid hB.out.size
            rw [← S2Y.out a HA.out] at PU
            generalize (rowsV (sS2 1 a)).length = nn at *
            clear hok hO
            go_wp2_with (at_builtin; go_must (refine wpList_append_own_at _ rfl _ _ 63 rfl w.heap.size 25 i0 _ 1 24 Try.underlying63 hi0 hy0 hy1 hy2 rfl (by decide) v nn hs' rfl ((hown.alloc _).alloc _) ⟨wr.heap.size + 1, 0, none⟩ 1 1 [.slice (some ⟨wr.heap.size, 0, none⟩) 1 1] rfl (by rfl) (by first | exact World.news_of_block (cs := #[.slice (some ⟨wr.heap.size, 0, none⟩) 1 1]) (t := 25) (fr := (0, 0)) (by simpa using heap_alloc_new (wr.alloc _) _) | fail "news") (by simp [Value.oneCell']) (by unfold maxLen; have := HL.out; omega) (by have := HL.out; omega) (by have := SZ.out; simp; omega) ?_); intro v' w1 hown' hgrow hnil hloc; have KN := Lib.hid (PU.out w1 v' hgrow hown' hloc); clear hown' hgrow hnil hloc)
            clear PU hown hB
            have O3 := Lib.hid KN.out.1
            have B3 := Lib.hid KN.out.2
            clear KN
            go_loopg [1, 4] (1) (fun g s1 s4 wx => ∃ (v : Value), g = 1 ∧ s4 = .int .i64 ((a : Int) + 1) ∧ v = s1 ∧ Hid (OwnLL 25 w.heap.size w.heap.size wx v (rowsV (sS3 1 a (a + 1)))) ∧ Hid (Below w.heap.size w wx))
            case atStart => exact ⟨_, rfl, rfl, rfl, O3, B3⟩
            case round =>
              obtain ⟨v, rfl, rfl, rfl, hO, hB⟩ := hrel
              clear O3 B3
              have ON := Lib.hid (show OwnLL 25 w.heap.size w.heap.size wr v (rowsV (sS2 1 (a + 1))) by rw [← S3.out 1 (by omega) a HA.out (a + 1) (by have := HA.out; omega) (by omega) (by omega)]; exact hO.out)
              by_cases hb : (a : Int) + 1 < 4
              · go_wp2_with fail
                go_roundg (4 - (a + 1))
                case measure => have := HA.out; omega
                case rel => exact ⟨a + 1, _, by have := HA.out; omega, rfl, by simp, rfl, ON, hB⟩
              · go_wp2_with fail
                go_roundg (4 - (a + 1))
                case measure => have := HA.out; omega
                case rel => exact ⟨a + 1, _, by have := HA.out; omega, rfl, by simp, rfl, ON, hB⟩
          · have h234 : m = 2 ∨ m = 3 ∨ m = 4 := by have := HM.out; omega
            rcases h234 with rfl | rfl | rfl
            · have O3 := Lib.hid (show OwnLL 25 w.heap.size w.heap.size wr v (rowsV (sS3 2 a (a + 1))) by rw [S2N.out 2 (by omega) (by omega) a HA.out]; exact hO.out)
              clear hm1 hO
              go_wp2_with fail
              go_loopg [1, 4] (4 - (a + 1)) (fun g s1 s4 wx => ∃ (b : Nat) (v : Value), b ≤ 4 ∧ a < b ∧ g = 4 - b ∧ s4 = .int .i64 (b : Int) ∧ v = s1 ∧ Hid (OwnLL 25 w.heap.size w.heap.size wx v (rowsV (sS3 2 a b))) ∧ Hid (Below w.heap.size w wx))
              case atStart => exact ⟨a + 1, _, by have := HA.out; omega, by omega, by have := HA.out; omega, by simp, rfl, O3, hB⟩
              case round =>
                obtain ⟨b, v, hb, hab, rfl, rfl, rfl, hO, hB⟩ := hrel
                clear O3
                by_cases hlt : b < 4
                · have hz3 : (b : Int) < 4 := by omega
                  have HB := Lib.hid (And.intro hlt hab)
                  have e3 : IntKind.i64.wrap ((b : Int) + 1) = (b : Int) + 1 := IntWalk.i64_in _ (by omega)
                  have E3 := Lib.hid e3
                  clear hlt hb hab
                  obtain ⟨hs', hown, hok⟩ := hO.out
                  have HL := Lib.hid (show (rowsV (sS3 2 a b)).length ≤ 200 by rw [rowsV_len]; exact (SL.out.2.1 2 (by omega) a HA.out b (by have := HB.out; omega)).1)
                  have PU := Lib.hid (fun w1 v' hg ho' hloc => llpushN (w1 := w1) (v' := v') [(a : Int), (b : Int)] 2 #[.int .i64 (a : Int), .int .i64 (b : Int)] rfl rfl hB.out hown hok hg ho' hloc)
                  have SZ := Lib.hid hB.out.size
                  rw [← S4Y.out a HA.out b HB.out.1] at PU
                  generalize (rowsV (sS3 2 a b)).length = nn at *
                  clear hok hO
                  go_wp2_with (at_builtin; go_must (refine wpList_append_own_at _ rfl _ _ 63 rfl w.heap.size 25 i0 _ 1 24 Try.underlying63 hi0 hy0 hy1 hy2 rfl (by decide) v nn hs' rfl ((hown.alloc _).alloc _) ⟨wr.heap.size + 1, 0, none⟩ 1 1 [.slice (some ⟨wr.heap.size, 0, none⟩) 2 2] rfl (by rfl) (by first | exact World.news_of_block (cs := #[.slice (some ⟨wr.heap.size, 0, none⟩) 2 2]) (t := 25) (fr := (0, 0)) (by simpa using heap_alloc_new (wr.alloc _) _) | fail "news") (by simp [Value.oneCell']) (by unfold maxLen; have := HL.out; omega) (by have := HL.out; omega) (by have := SZ.out; simp; omega) ?_); intro v' w1 hown' hgrow hnil hloc; have KN := Lib.hid (PU.out w1 v' hgrow hown' hloc); clear hown' hgrow hnil hloc)
                  clear PU hown hB
                  have O4 := Lib.hid KN.out.1
                  have B4 := Lib.hid KN.out.2
                  clear KN
                  go_loopg [1, 5] (1) (fun g s1 s5 wx => ∃ (v : Value), g = 1 ∧ s5 = .int .i64 ((b : Int) + 1) ∧ v = s1 ∧ Hid (OwnLL 25 w.heap.size w.heap.size wx v (rowsV (sS4 2 a b (b + 1)))) ∧ Hid (Below w.heap.size w wx))
                  case atStart => exact ⟨_, rfl, rfl, rfl, O4, B4⟩
                  case round =>
                    obtain ⟨v, rfl, rfl, rfl, hO, hB⟩ := hrel
                    clear O4 B4
                    have ON := Lib.hid (show OwnLL 25 w.heap.size w.heap.size wr v (rowsV (sS3 2 a (b + 1))) by rw [← S5.out 2 (by omega) a HA.out b HB.out.1 HB.out.2 (b + 1) (by have := HB.out; omega) (by omega) (by omega)]; exact hO.out)
                    by_cases hc : (b : Int) + 1 < 4
                    · go_wp2_with fail
                      go_roundg (4 - (b + 1))
                      case measure => have := HB.out; omega
                      case rel => exact ⟨b + 1, _, by have := HB.out; omega, by have := HB.out; omega, rfl, by simp, rfl, ON, hB⟩
                    · go_wp2_with fail
                      go_roundg (4 - (b + 1))
                      case measure => have := HB.out; omega
                      case rel => exact ⟨b + 1, _, by have := HB.out; omega, by have := HB.out; omega, rfl, by simp, rfl, ON, hB⟩
                · have hz3 : ¬ (b : Int) < 4 := by omega
                  have ON := Lib.hid (show OwnLL 25 w.heap.size w.heap.size wr v (rowsV (sS2 2 (a + 1))) by rw [← S3.out 2 (by omega) a HA.out b (by omega) hab (by omega)]; exact hO.out)
                  have e2 := E2.out
                  clear hlt hb hab hO
                  go_wp2_with fail
                  go_roundg (4 - (a + 1))
                  case measure => have := HA.out; omega
                  case rel => exact ⟨a + 1, _, by have := HA.out; omega, rfl, by simp, rfl, ON, hB⟩
            · have O3 := Lib.hid (show OwnLL 25 w.heap.size w.heap.size wr v (rowsV (sS3 3 a (a + 1))) by rw [S2N.out 3 (by omega) (by omega) a HA.out]; exact hO.out)
              clear hm1 hO
              go_wp2_with fail
              go_loopg [1, 4] (4 - (a + 1)) (fun g s1 s4 wx => ∃ (b : Nat) (v : Value), b ≤ 4 ∧ a < b ∧ g = 4 - b ∧ s4 = .int .i64 (b : Int) ∧ v = s1 ∧ Hid (OwnLL 25 w.heap.size w.heap.size wx v (rowsV (sS3 3 a b))) ∧ Hid (Below w.heap.size w wx))
              case atStart => exact ⟨a + 1, _, by have := HA.out; omega, by omega, by have := HA.out; omega, by simp, rfl, O3, hB⟩
              case round =>
                obtain ⟨b, v, hb, hab, rfl, rfl, rfl, hO, hB⟩ := hrel
                clear O3
                by_cases hlt : b < 4
                · have hz3 : (b : Int) < 4 := by omega
                  have HB := Lib.hid (And.intro hlt hab)
                  have e3 : IntKind.i64.wrap ((b : Int) + 1) = (b : Int) + 1 := IntWalk.i64_in _ (by omega)
                  have E3 := Lib.hid e3
                  clear hlt hb hab
                  have O4 := Lib.hid (show OwnLL 25 w.heap.size w.heap.size wr v (rowsV (sS4 3 a b (b + 1))) by rw [S4N.out 3 (by omega) (by omega) a HA.out b HB.out.1]; exact hO.out)
                  have B4 := hB
                  clear hO hB
                  go_wp2_with fail
                  go_loopg [1, 5] (4 - (b + 1)) (fun g s1 s5 wx => ∃ (c : Nat) (v : Value), c ≤ 4 ∧ b < c ∧ g = 4 - c ∧ s5 = .int .i64 (c : Int) ∧ v = s1 ∧ Hid (OwnLL 25 w.heap.size w.heap.size wx v (rowsV (sS4 3 a b c))) ∧ Hid (Below w.heap.size w wx))
                  case atStart => exact ⟨b + 1, _, by have := HB.out; omega, by omega, by have := HB.out; omega, by simp, rfl, O4, B4⟩
                  case round =>
                    obtain ⟨c, v, hc, hbc, rfl, rfl, rfl, hO, hB⟩ := hrel
                    clear O4 B4
                    by_cases hc4 : c < 4
                    · have hz4 : (c : Int) < 4 := by omega
                      have HC := Lib.hid (And.intro hc4 hbc)
                      have e4 : IntKind.i64.wrap ((c : Int) + 1) = (c : Int) + 1 := IntWalk.i64_in _ (by omega)
                      obtain ⟨hs', hown, hok⟩ := hO.out
                      have HL := Lib.hid (show (rowsV (sS4 3 a b c)).length ≤ 200 by rw [rowsV_len]; exact (SL.out.2.1 3 (by omega) a HA.out b (by have := HB.out; omega)).2 c (by omega))
                      have PU := Lib.hid (fun w1 v' hg ho' hloc => llpushN (w1 := w1) (v' := v') [(a : Int), (b : Int), (c : Int)] 3 #[.int .i64 (a : Int), .int .i64 (b : Int), .int .i64 (c : Int)] rfl rfl hB.out hown hok hg ho' hloc)
                      have SZ := Lib.hid hB.out.size
                      rw [← S6.out a HA.out b HB.out.1 c HC.out.1 HC.out.2] at PU
                      clear hc4 hbc hc
                      generalize (rowsV (sS4 3 a b c)).length = nn at *
                      clear hok hO
                      go_wp2_with (at_builtin; go_must (refine wpList_append_own_at _ rfl _ _ 63 rfl w.heap.size 25 i0 _ 1 24 Try.underlying63 hi0 hy0 hy1 hy2 rfl (by decide) v nn hs' rfl ((hown.alloc _).alloc _) ⟨wr.heap.size + 1, 0, none⟩ 1 1 [.slice (some ⟨wr.heap.size, 0, none⟩) 3 3] rfl (by rfl) (by first | exact World.news_of_block (cs := #[.slice (some ⟨wr.heap.size, 0, none⟩) 3 3]) (t := 25) (fr := (0, 0)) (by simpa using heap_alloc_new (wr.alloc _) _) | fail "news") (by simp [Value.oneCell']) (by unfold maxLen; have := HL.out; omega) (by have := HL.out; omega) (by have := SZ.out; simp; omega) ?_); intro v' w1 hown' hgrow hnil hloc; have KN := Lib.hid (PU.out w1 v' hgrow hown' hloc); clear hown' hgrow hnil hloc)
                      clear PU hown hB
                      go_roundg (4 - (c + 1))
                      case measure => have := HC.out; omega
                      case rel => exact ⟨c + 1, _, by have := HC.out; omega, by have := HC.out; omega, rfl, by simp, rfl, Lib.hid KN.out.1, Lib.hid KN.out.2⟩
                    · have ON := Lib.hid (show OwnLL 25 w.heap.size w.heap.size wr v (rowsV (sS3 3 a (b + 1))) by rw [← S5.out 3 (by omega) a HA.out b HB.out.1 HB.out.2 c (by omega) hbc (by omega)]; exact hO.out)
                      have hz4 : ¬ (c : Int) < 4 := by omega
                      have e3 := E3.out
                      clear hbc hc hc4 hO
                      go_wp2_with fail
                      go_roundg (4 - (b + 1))
                      case measure => have := HB.out; omega
                      case rel => exact ⟨b + 1, _, by have := HB.out; omega, by have := HB.out; omega, rfl, by simp, rfl, ON, hB⟩
                · have hz3 : ¬ (b : Int) < 4 := by omega
                  have ON := Lib.hid (show OwnLL 25 w.heap.size w.heap.size wr v (rowsV (sS2 3 (a + 1))) by rw [← S3.out 3 (by omega) a HA.out b (by omega) hab (by omega)]; exact hO.out)
                  have e2 := E2.out
                  clear hlt hb hab hO
                  go_wp2_with fail
                  go_roundg (4 - (a + 1))
                  case measure => have := HA.out; omega
                  case rel => exact ⟨a + 1, _, by have := HA.out; omega, rfl, by simp, rfl, ON, hB⟩
            · have O3 := Lib.hid (show OwnLL 25 w.heap.size w.heap.size wr v (rowsV (sS3 4 a (a + 1))) by rw [S2N.out 4 (by omega) (by omega) a HA.out]; exact hO.out)
              clear hm1 hO
              go_wp2_with fail
              go_loopg [1, 4] (4 - (a + 1)) (fun g s1 s4 wx => ∃ (b : Nat) (v : Value), b ≤ 4 ∧ a < b ∧ g = 4 - b ∧ s4 = .int .i64 (b : Int) ∧ v = s1 ∧ Hid (OwnLL 25 w.heap.size w.heap.size wx v (rowsV (sS3 4 a b))) ∧ Hid (Below w.heap.size w wx))
              case atStart => exact ⟨a + 1, _, by have := HA.out; omega, by omega, by have := HA.out; omega, by simp, rfl, O3, hB⟩
              case round =>
                obtain ⟨b, v, hb, hab, rfl, rfl, rfl, hO, hB⟩ := hrel
                clear O3
                by_cases hlt : b < 4
                · have hz3 : (b : Int) < 4 := by omega
                  have HB := Lib.hid (And.intro hlt hab)
                  have e3 : IntKind.i64.wrap ((b : Int) + 1) = (b : Int) + 1 := IntWalk.i64_in _ (by omega)
                  have E3 := Lib.hid e3
                  clear hlt hb hab
                  have O4 := Lib.hid (show OwnLL 25 w.heap.size w.heap.size wr v (rowsV (sS4 4 a b (b + 1))) by rw [S4N.out 4 (by omega) (by omega) a HA.out b HB.out.1]; exact hO.out)
                  have B4 := hB
                  clear hO hB
                  go_wp2_with fail
                  go_loopg [1, 5] (1) (fun g s1 s5 wx => ∃ (v : Value), g = 1 ∧ s5 = .int .i64 ((b : Int) + 1) ∧ v = s1 ∧ Hid (OwnLL 25 w.heap.size w.heap.size wx v (rowsV (sS4 4 a b (b + 1)))) ∧ Hid (Below w.heap.size w wx))
                  case atStart => exact ⟨_, rfl, rfl, rfl, O4, B4⟩
                  case round =>
                    obtain ⟨v, rfl, rfl, rfl, hO, hB⟩ := hrel
                    clear O4 B4
                    have ON := Lib.hid (show OwnLL 25 w.heap.size w.heap.size wr v (rowsV (sS3 4 a (b + 1))) by rw [← S5.out 4 (by omega) a HA.out b HB.out.1 HB.out.2 (b + 1) (by have := HB.out; omega) (by omega) (by omega)]; exact hO.out)
                    by_cases hc : (b : Int) + 1 < 4
                    · go_wp2_with fail
                      go_roundg (4 - (b + 1))
                      case measure => have := HB.out; omega
                      case rel => exact ⟨b + 1, _, by have := HB.out; omega, by have := HB.out; omega, rfl, by simp, rfl, ON, hB⟩
                    · go_wp2_with fail
                      go_roundg (4 - (b + 1))
                      case measure => have := HB.out; omega
                      case rel => exact ⟨b + 1, _, by have := HB.out; omega, by have := HB.out; omega, rfl, by simp, rfl, ON, hB⟩
                · have hz3 : ¬ (b : Int) < 4 := by omega
                  have ON := Lib.hid (show OwnLL 25 w.heap.size w.heap.size wr v (rowsV (sS2 4 (a + 1))) by rw [← S3.out 4 (by omega) a HA.out b (by omega) hab (by omega)]; exact hO.out)
                  have e2 := E2.out
                  clear hlt hb hab hO
                  go_wp2_with fail
                  go_roundg (4 - (a + 1))
                  case measure => have := HA.out; omega
                  case rel => exact ⟨a + 1, _, by have := HA.out; omega, rfl, by simp, rfl, ON, hB⟩
        · have hz2 : ¬ (a : Int) < 4 := by omega
          obtain rfl : a = 4 := by omega
          have ON := Lib.hid (show OwnLL 25 w.heap.size w.heap.size wr v (rowsV (sS1 (m + 1))) by rw [← S1.out m HM.out.2]; exact hO.out)
          have e1 := E1.out
          clear hlt ha hO
          go_wp2_with fail
          go_roundg (5 - (m + 1))
          case measure => have := HM.out; omega
          case rel => exact ⟨m + 1, _, by omega, by have := HM.out; omega, rfl, by simp, rfl, ON, hB⟩
    · have hz1 : ¬ (m : Int) ≤ 4 := by omega
      obtain rfl : m = 5 := by omega
      clear hm hm1 hlt
      obtain ⟨hs', hown, hok⟩ := hO.out
      have HL := Lib.hid (show (rowsV (sS1 5)).length ≤ 200 by rw [rowsV_len]; exact SL.out.2.2)
      have PU := Lib.hid (fun w1 v' hg ho' hloc => llpushN (w1 := w1) (v' := v') [0, 1, 2, 3] 4 #[.int .i64 0, .int .i64 1, .int .i64 2, .int .i64 3] rfl rfl hB.out hown hok hg ho' hloc)
      have SZ := Lib.hid hB.out.size
      rw [S7.out] at PU
      generalize (rowsV (sS1 5)).length = nn at *
      clear hok hO
      go_wp2_with (at_builtin; go_must (refine wpList_append_own_at _ rfl _ _ 63 rfl w.heap.size 25 i0 _ 1 24 Try.underlying63 hi0 hy0 hy1 hy2 rfl (by decide) v nn hs' rfl ((hown.alloc _).alloc _) ⟨wr.heap.size + 1, 0, none⟩ 1 1 [.slice (some ⟨wr.heap.size, 0, none⟩) 4 4] rfl (by rfl) (by first | exact World.news_of_block (cs := #[.slice (some ⟨wr.heap.size, 0, none⟩) 4 4]) (t := 25) (fr := (0, 0)) (by simpa using heap_alloc_new (wr.alloc _) _) | fail "news") (by simp [Value.oneCell']) (by unfold maxLen; have := HL.out; omega) (by have := HL.out; omega) (by have := SZ.out; simp; omega) ?_); intro v' w1 hown' hgrow hnil hloc; have KN := Lib.hid (PU.out w1 v' hgrow hown' hloc); clear hown' hgrow hnil hloc)
      clear PU hown hB
      obtain ⟨a, c, rfl, h1, h2⟩ := KN.out.1.out
      have HG := Lib.hid (GAt.of_ll h1)
      have H2 := Lib.hid h2
      have HBB := Lib.hid KN.out.2
      rw [rowsV_len]
      clear KN h1 h2
      go_wp2_with fail
      go_returns
      first
      | exact ⟨a, ⟨c, rfl⟩, HG.out, H2.out, HBB.out⟩
      | exact ⟨a, c, rfl, HG.out, H2.out, HBB.out⟩

end Go.Proofs.Ytbbndcfnpfedpaa
