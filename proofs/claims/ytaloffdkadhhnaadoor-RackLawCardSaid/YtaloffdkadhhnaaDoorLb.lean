/- The contract of what is left, if the ball itself fells some pins. -/
import Derived.Test.YtaloffdkadhhnaaDoorFa
set_option linter.unusedVariables false
set_option linter.unusedSimpArgs false
namespace Go.Proofs.YtaloffdkadhhnaaDoor
open Go.RowKit Go.Shelf

attribute [local go_sem] Oper.semAt_some

theorem FS.far {r : Rk} {c : Cs} {k : Nat} {cap : Array Value} {St n0 bL bS bF : Nat} {K : World → Prop} {W W' : World} {N B : Nat} {p : Nat → Prop} (h : FS r c k cap St n0 bL bS bF K W N) (hK : ∀ A B, K A → Alt (fun k => n0 ≤ k) A B → K B) (hla : ∀ g o, r.la = some ⟨g, o, none⟩ → g < n0)
    (hb : n0 ≤ B ∧ bL < B ∧ bS < B ∧ bF < B) (ha : Alt p W W') (hp : ∀ k, p k → B ≤ k) : FS r c k cap St n0 bL bS bF K W' N :=
  ⟨Boxed.alt h.l ha (fun e => by have := hp _ e; omega), h.s.alt ha (fun e => by have := hp _ e; omega), Boxed.alt h.f ha (fun e => by have := hp _ e; omega), h.ls.alt ha (fun g o e hg => by have := hla g o e; have := hp _ hg; omega), hK _ _ h.k (ha.mono fun k _ e => by have := hp _ e; omega)⟩

theorem fold_take_snoc {β γ : Type} (g : β → γ → β) (b : β) (pre : List γ) (x : γ) : (pre ++ [x]).foldl g b = g (pre.foldl g b) x := by simp

set_option maxRecDepth 100000 in
set_option maxHeartbeats 8000000 in
theorem leftBy_any (r : Rk) (c : Cs) (k : Nat) (cap : Array Value) (St T : Nat) (K : World → Prop) (cb : Lk → Bool) (w : World) (hK : ∀ A B, K A → Alt (fun k => w.heap.size ≤ k) A B → K B) (hK0 : K w)
    (ek : ∀ args w, (callFunc k args).run Tryd.prog w = .ok (.enter k args) w) (CF : ∀ l W, K W → Calls Tryd.prog k (#[Lk.val l] ++ cap) W fun e W' => e = .returned (.bool (cb l)) ∧ Below W.heap.size W W')
    (hla : ∀ g o, r.la = some ⟨g, o, none⟩ → g < w.heap.size) (hl : LinksOk r.ls) (hn : r.ls.length ≤ 1000) (hL : LinksAt w r.la r.ls) (hSt : St < 65536) (hT : T < 65536) (hTab : TabOK w) :
    Calls Tryd.prog 94 #[sVal r c (.func (.func k) #[] cap) St, .int .u16 (T : Nat)] w fun e w' => e = .returned (.int .u16 (leftN r.ls cb St T : Nat)) ∧ Below w.heap.size w w' := by
  have EA := Lib.hid (fun w => callsIn_wide (n := 0).2 (each_any T w))
  have FL := Lib.hid (fun p N W a b d e f g => callsIn_wide (n := 0).2 (fall_any r c k cap St w.heap.size (w.heap.size + 1) w.heap.size (w.heap.size + 1 + 1) K cb hK ek CF hla ⟨by omega, by omega, by omega⟩ hl hn 16 p N W a b d e f g))
  obtain ⟨S, hS⟩ : ∃ S, Hid (S = sVal r c (.func (.func k) #[] cap) St) := ⟨_, Lib.hid rfl⟩
  obtain ⟨CC, hCC⟩ : ∃ CC, Hid (CC = sCells r c (.func (.func k) #[] cap) St) := ⟨_, Lib.hid rfl⟩
  rw [← hS.out]
  refine (callsIn_wide (n := 0)).1 ?_
  refine callsIn_of_wp_marks Tryd.func94 rfl trivial ?_ rfl
  simp only [Tryd.ntmps94, List.size_toArray, List.length_cons, List.length_nil, Nat.reduceAdd, Nat.reduceSub, Array.replicate_succ, Array.replicate_zero, List.push_toArray, List.append_toArray, List.nil_append, List.cons_append]
  rw [hS.out]
  unfold sVal sCells
  gi_wp2
  refine ⟨trivial, rfl, ?_⟩
  refine (EA.out _).mono ?_
  rintro e w1 ⟨rfl, rfl⟩
  gi_wp2
  have hSV := hS.out
  unfold sVal sCells at hSV
  rw [← hSV]
  clear hSV
  have FV : ∀ v, v = Value.func (.func 109) #[] #[.pointer (some ⟨w.heap.size + 1, 0, none⟩), .pointer (some ⟨w.heap.size, 0, none⟩), .pointer (some ⟨w.heap.size + 1 + 1, 0, none⟩)] → True := fun _ _ => trivial
  have bS : Blk ((((w.alloc (.cells (sCells r c (.func (.func k) #[] cap) St) 115)).alloc (.cells #[.int .u16 (St : Nat)] 100)).alloc (.cells #[.func (.func 109) #[] #[.pointer (some ⟨w.heap.size + 1, 0, none⟩), .pointer (some ⟨w.heap.size, 0, none⟩), .pointer (some ⟨w.heap.size + 1 + 1, 0, none⟩)]] 156)).alloc (.cells #[.int .u16 (T : Nat)] 100)) w.heap.size (sCells r c (.func (.func k) #[] cap) St) 115 :=
    Blk.alt (p := fun _ => False) (Blk.new w _ _) ((((Alt.refl _ _).alloc _).alloc _).alloc _) id
  have bL : Boxed ((((w.alloc (.cells (sCells r c (.func (.func k) #[] cap) St) 115)).alloc (.cells #[.int .u16 (St : Nat)] 100)).alloc (.cells #[.func (.func 109) #[] #[.pointer (some ⟨w.heap.size + 1, 0, none⟩), .pointer (some ⟨w.heap.size, 0, none⟩), .pointer (some ⟨w.heap.size + 1 + 1, 0, none⟩)]] 156)).alloc (.cells #[.int .u16 (T : Nat)] 100)) (w.heap.size + 1) 100 (.int .u16 (St : Nat)) := by
    have := ((Boxed.new (w.alloc (.cells (sCells r c (.func (.func k) #[] cap) St) 115)) 100 (.int .u16 (St : Nat))).alloc (.cells #[.func (.func 109) #[] #[.pointer (some ⟨w.heap.size + 1, 0, none⟩), .pointer (some ⟨w.heap.size, 0, none⟩), .pointer (some ⟨w.heap.size + 1 + 1, 0, none⟩)]] 156)).alloc (.cells #[.int .u16 (T : Nat)] 100)
    rwa [World.size_alloc] at this
  have bF : Boxed ((((w.alloc (.cells (sCells r c (.func (.func k) #[] cap) St) 115)).alloc (.cells #[.int .u16 (St : Nat)] 100)).alloc (.cells #[.func (.func 109) #[] #[.pointer (some ⟨w.heap.size + 1, 0, none⟩), .pointer (some ⟨w.heap.size, 0, none⟩), .pointer (some ⟨w.heap.size + 1 + 1, 0, none⟩)]] 156)).alloc (.cells #[.int .u16 (T : Nat)] 100)) (w.heap.size + 1 + 1) 156 (.func (.func 109) #[] #[.pointer (some ⟨w.heap.size + 1, 0, none⟩), .pointer (some ⟨w.heap.size, 0, none⟩), .pointer (some ⟨w.heap.size + 1 + 1, 0, none⟩)]) := by
    have := (Boxed.new ((w.alloc (.cells (sCells r c (.func (.func k) #[] cap) St) 115)).alloc (.cells #[.int .u16 (St : Nat)] 100)) 156 (.func (.func 109) #[] #[.pointer (some ⟨w.heap.size + 1, 0, none⟩), .pointer (some ⟨w.heap.size, 0, none⟩), .pointer (some ⟨w.heap.size + 1 + 1, 0, none⟩)])).alloc (.cells #[.int .u16 (T : Nat)] 100)
    rwa [World.size_alloc, World.size_alloc] at this
  have bN : Boxed ((((w.alloc (.cells (sCells r c (.func (.func k) #[] cap) St) 115)).alloc (.cells #[.int .u16 (St : Nat)] 100)).alloc (.cells #[.func (.func 109) #[] #[.pointer (some ⟨w.heap.size + 1, 0, none⟩), .pointer (some ⟨w.heap.size, 0, none⟩), .pointer (some ⟨w.heap.size + 1 + 1, 0, none⟩)]] 156)).alloc (.cells #[.int .u16 (T : Nat)] 100)) (w.heap.size + 1 + 1 + 1) 100 (.int .u16 (T : Nat)) := by
    have := Boxed.new (((w.alloc (.cells (sCells r c (.func (.func k) #[] cap) St) 115)).alloc (.cells #[.int .u16 (St : Nat)] 100)).alloc (.cells #[.func (.func 109) #[] #[.pointer (some ⟨w.heap.size + 1, 0, none⟩), .pointer (some ⟨w.heap.size, 0, none⟩), .pointer (some ⟨w.heap.size + 1 + 1, 0, none⟩)]] 156)) 100 (.int .u16 (T : Nat))
    rwa [World.size_alloc, World.size_alloc, World.size_alloc] at this
  have B0 : Below w.heap.size w ((((w.alloc (.cells (sCells r c (.func (.func k) #[] cap) St) 115)).alloc (.cells #[.int .u16 (St : Nat)] 100)).alloc (.cells #[.func (.func 109) #[] #[.pointer (some ⟨w.heap.size + 1, 0, none⟩), .pointer (some ⟨w.heap.size, 0, none⟩), .pointer (some ⟨w.heap.size + 1 + 1, 0, none⟩)]] 156)).alloc (.cells #[.int .u16 (T : Nat)] 100)) := below_al2 (below_al2 (below_al2 (below_al w _) _) _) _
  have hz : ((((w.alloc (.cells (sCells r c (.func (.func k) #[] cap) St) 115)).alloc (.cells #[.int .u16 (St : Nat)] 100)).alloc (.cells #[.func (.func 109) #[] #[.pointer (some ⟨w.heap.size + 1, 0, none⟩), .pointer (some ⟨w.heap.size, 0, none⟩), .pointer (some ⟨w.heap.size + 1 + 1, 0, none⟩)]] 156)).alloc (.cells #[.int .u16 (T : Nat)] 100)).heap.size = w.heap.size + 4 := by simp
  have HBS := Lib.hid bS
  unfold sCells at bL bF bN B0 hz bS
  clear FV
  have F0 : FS r c k cap St w.heap.size (w.heap.size + 1) w.heap.size (w.heap.size + 1 + 1) K _ St := ⟨bL, HBS.out, bF, hL.lo B0, hK _ _ hK0 (Alt.of_below B0 (fun _ _ h => h))⟩
  clear HBS bS bL bF
  unfold sCells at F0
  generalize (((w.alloc _).alloc _).alloc _).alloc _ = W0 at *
  have tp := tab_pos hTab
  have TB0 := hTab.lo B0
  have hb' : w.heap.size ≤ W0.heap.size ∧ w.heap.size + 1 < W0.heap.size ∧ w.heap.size < W0.heap.size ∧ w.heap.size + 1 + 1 < W0.heap.size := by omega
  refine wp_iter (gf := 112) (lb := #[.pointer (some ⟨w.heap.size + 1 + 1 + 1, 0, none⟩)]) rfl eg112 (each1_iter (w.heap.size + 1 + 1 + 1) T W0 bN hT TB0) (fun k h => by omega) (fun _ => rfl)
    (fun k => k = w.heap.size + 1) (fun k h => ⟨fun e => by omega, fun e => by unfold Rng at e; omega⟩)
    (fun pre W => FS r c k cap St w.heap.size (w.heap.size + 1) w.heap.size (w.heap.size + 1 + 1) K W (pre.foldl (stepL r.ls cb) St) ∧ Alt (fun k => w.heap.size ≤ k) w W)
    (fun pre x a1 W => (FS r c k cap St w.heap.size (w.heap.size + 1) w.heap.size (w.heap.size + 1 + 1) K W (pre.foldl (stepL r.ls cb) St) ∧ Alt (fun k => w.heap.size ≤ k) w W) ∧
      a1 = { tmps := #[S, .int .u16 (T : Nat), .pointer (some ⟨w.heap.size, 0, none⟩), undef, .int .u16 0, .pointer (some ⟨w.heap.size + 1, 0, none⟩), .pointer (some ⟨w.heap.size + 1 + 1, 0, none⟩), .int .i64 x, .pointer (some ⟨w.heap.size, 10, none⟩), .int .u16 (St : Nat), .func (.func 109) #[] #[.pointer (some ⟨w.heap.size + 1, 0, none⟩), .pointer (some ⟨w.heap.size, 0, none⟩), .pointer (some ⟨w.heap.size + 1 + 1, 0, none⟩)], .int .u16 (T : Nat), .func (.func 112) #[] #[.pointer (some ⟨w.heap.size + 1 + 1 + 1, 0, none⟩)], .int .i64 x, undef, undef, undef, undef, undef, undef, undef], defers := [] })
    (fun _ _ _ => False)
    (fun pre A B h hAB => ?stI) (fun pre x a A B h hAB => ?stM) (fun _ _ _ _ h _ => h) ⟨F0, Alt.of_below B0 (fun _ _ h => h)⟩ ?assign ?body ?done ?stop
  case stI =>
    obtain ⟨h1, h3⟩ := h
    exact ⟨h1.far hK hla hb' hAB (fun k e => by unfold Rng at e; omega), h3.trans (hAB.mono fun k _ e => by unfold Rng at e; omega)⟩
  case stM =>
    obtain ⟨⟨h1, h3⟩, e⟩ := h
    exact ⟨⟨h1.far hK hla hb' hAB (fun k e => by unfold Rng at e; omega), h3.trans (hAB.mono fun k _ e => by unfold Rng at e; omega)⟩, e⟩
  case assign =>
    intro l pre x post A hx hz hl hr h
    gi_wp2
    exact ⟨Alt.refl _ _, h, by first | trivial | rfl⟩
  case body =>
    rintro l pre x post a1 A hx hzA hl' hr ⟨⟨h1, h3⟩, rfl⟩
    have hmem : x ∈ els T := by rw [hx]; simp
    have hx0 := els_bd hmem
    have hts := Lib.hid (fold_take_snoc (stepL r.ls cb) St pre x)
    have hM16 : pre.foldl (stepL r.ls cb) St < 65536 := Sub.lt (fold_inv (fun K => Sub K St) (stepL r.ls cb) pre St (Sub.refl _) fun K p _ h => (stepL_le r.ls cb K p).trans h) hSt
    generalize pre.foldl (stepL r.ls cb) St = M at *
    have HB := Lib.hid (callsIn_wide (n := 0).2 (has_bit M x A hM16 hx0.1 hx0.2))
    have HZ := Lib.hid hz
    have cL := h1.l.cell
    have cF := h1.f.cell
    have H1 := Lib.hid h1
    clear hx hz hl' CF ek EA hK0 hL bN F0
    gi_wp2
    refine ⟨trivial, rfl, ?_⟩
    refine (CallsIn.inRound l HB.out).mono ?_
    rintro e w1 ⟨rfl, rfl⟩
    cases hq : M.testBit x.toNat
    · have hts2 := Lib.hid (show _ = M from hts.out.trans (by unfold stepL; rw [if_neg (by rw [hq]; simp)]))
      clear hq
      gi_wp2
      exact ⟨Alt.refl _ _, by rw [hts2.out]; exact H1.out, h3⟩
    · have hts2 := Lib.hid (show _ = fallF r.ls cb 16 x M from hts.out.trans (by unfold stepL; rw [if_pos hq]))
      have FX := Lib.hid (FL.out x M A hx0.1 hx0.2 hM16 (len16 _) hq H1.out)
      clear hq
      gi_wp2
      refine ⟨trivial, rfl, ?_⟩
      refine (CallsIn.inRound l FX.out).mono ?_
      rintro e w2 ⟨rfl, h5, a5⟩
      have F7 := Lib.hid (H1.out.go hK hla ⟨by omega, by omega, by omega⟩ a5 h5)
      have A5 := Lib.hid a5
      have A7 := Lib.hid (h3.trans (a5.mono fun k _ e => by omega))
      clear h5 a5 cL cF
      gi_wp2
      exact ⟨A5.out, by rw [hts2.out]; exact F7.out, A7.out⟩
  case done =>
    rintro B ⟨h1, h3⟩ hzB hK'
    have c1 := h1.l.cell
    have HZ := Lib.hid hz
    have HR : Hid (leftN r.ls cb St T = (els T).foldl (stepL r.ls cb) St) := Lib.hid rfl
    clear hz CF ek EA hK0 hL bN F0
    gi_wp2
    refine leave_ret hK' (results_tmp rfl _ _ _) ⟨by rw [HR.out]; rfl, ?_⟩
    exact (h3.putObj (l := W0.heap.size) (by show w.heap.size ≤ W0.heap.size; have := HZ.out; omega) _).below (Nat.le_refl _) (fun k h => h)
  case stop =>
    intro c pre x post B hx h
    exact h.elim

end Go.Proofs.YtaloffdkadhhnaaDoor
