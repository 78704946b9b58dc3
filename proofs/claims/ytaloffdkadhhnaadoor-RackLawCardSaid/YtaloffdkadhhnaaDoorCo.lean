/- The contract of the iterator over a ball's courses. -/
import Derived.Test.YtaloffdkadhhnaaDoorFl
import Derived.Test.YtaloffdkadhhnaaDoorIu
set_option linter.unusedVariables false
set_option linter.unusedSimpArgs false
namespace Go.Proofs.YtaloffdkadhhnaaDoor
open Go.RowKit Go.Shelf

attribute [local go_sem] Oper.semAt_some

def spanN (b : Rg) : Nat := (b.hi + 1 - b.lo).toNat
def choices : List Rg → List (List Int)
  | [] => [[]]
  | b :: bs => (List.range (spanN b)).flatMap fun (j : Nat) => (choices bs).map fun q => (b.lo + (j : Int)) :: q
def toCs (x : List Int) : Cs := ⟨x.getD 0 0, x.getD 1 0, x.getD 2 0, x.getD 3 0⟩

theorem toCs_of {v p : List Int} {n : Nat} (h4 : v.length = 4) (hn : n ≤ 4) (hp : v.take n = p) (hd : v.drop n = List.replicate (4 - n) 0) : (toCs p).val = .agg #[.int .i64 (v.getD 0 0), .int .i64 (v.getD 1 0), .int .i64 (v.getD 2 0), .int .i64 (v.getD 3 0)] := by
  have key : ∀ i, i < 4 → p.getD i 0 = v.getD i 0 := fun i hi => by
    subst hp
    rw [List.getD_eq_getElem?_getD, List.getD_eq_getElem?_getD, List.getElem?_take]
    split
    · rfl
    · next h =>
      have e : v[i]? = (v.drop n)[i - n]? := by rw [List.getElem?_drop]; congr 1; omega
      rw [e, hd, List.getElem?_replicate, if_pos (by omega)]; rfl
  unfold toCs Cs.val
  simp only [key 0 (by omega), key 1 (by omega), key 2 (by omega), key 3 (by omega)]

theorem flat_split {β : Type} (f : Nat → List β) {i N : Nat} (h : i < N) : ∃ T, (List.range N).flatMap f = (List.range i).flatMap f ++ f i ++ T ∧ (List.range (i + 1)).flatMap f = (List.range i).flatMap f ++ f i := by
  obtain ⟨k, rfl⟩ : ∃ k, N = (i + 1) + k := ⟨N - (i + 1), by omega⟩
  refine ⟨((List.range k).map (i + 1 + ·)).flatMap f, ?_, ?_⟩
  · rw [List.range_add, List.flatMap_append, List.range_succ, List.flatMap_append]; simp
  · rw [List.range_succ, List.flatMap_append]; simp

theorem Blk.setAt {W : World} {b : Nat} {cs : Array Value} {t : TypeId} (h : Blk W b cs t) (i : Nat) (v : Value) : Blk (W.setCell ⟨b, i, none⟩ v) b (cs.setIfInBounds i v) t := by
  obtain ⟨hlt, hk⟩ := Array.getElem?_eq_some_iff.1 (show W.heap[b]? = _ from h)
  show (W.heap.modify b _)[b]? = _
  rw [Array.getElem?_eq_getElem (by rw [Array.size_modify]; exact hlt), Array.getElem_modify_self, hk]
  rfl

/-- What the search for courses stands on. -/
structure CS (ball : List Rg) (a : Option Addr) (c l bB N0 : Nat) (W : World) (v : List Int) : Prop where
  b : Boxed W bB 51 (.slice a ball.length c)
  r : RgsAt W a ball
  y : Boxed W N0 160 (.func (.yield l) #[] #[])
  k : Blk W (N0 + 1) (v.map (Value.int .i64)).toArray 111
  f : Boxed W (N0 + 2) 126 (.func (.func 114) #[] #[.pointer (some ⟨bB, 0, none⟩), .pointer (some ⟨N0, 0, none⟩), .pointer (some ⟨N0 + 1, 0, none⟩), .pointer (some ⟨N0 + 2, 0, none⟩)])
theorem CS.far {ball : List Rg} {a : Option Addr} {c l bB N0 : Nat} {W W' : World} {v : List Int} {p : Nat → Prop} (h : CS ball a c l bB N0 W v) (ha : Alt p W W') (h1 : ¬ p bB) (h2 : ∀ g o, a = some ⟨g, o, none⟩ → ¬ p g) (h3 : ∀ k, Rng N0 3 k → ¬ p k) : CS ball a c l bB N0 W' v :=
  ⟨Boxed.alt h.b ha h1, h.r.alt ha h2, Boxed.alt h.y ha (h3 _ (by unfold Rng; omega)), Blk.alt h.k ha (h3 _ (by unfold Rng; omega)), Boxed.alt h.f ha (h3 _ (by unfold Rng; omega))⟩
theorem CS.put {ball : List Rg} {a : Option Addr} {c l bB N0 : Nat} {W : World} {v : List Int} (h : CS ball a c l bB N0 W v) (i : Nat) (x : Int) (hb : bB < N0) (hg : ∀ g o, a = some ⟨g, o, none⟩ → g < N0) :
    CS ball a c l bB N0 (W.setCell ⟨N0 + 1, i, none⟩ (.int .i64 x)) (v.set i x) := by
  have A : Alt (fun k => k = N0 + 1) W (W.setCell ⟨N0 + 1, i, none⟩ (.int .i64 x)) := (Alt.refl (fun k => k = N0 + 1) W).setCell (q := ⟨N0 + 1, i, none⟩) rfl _
  refine ⟨Boxed.alt h.b A (by omega), h.r.alt A (fun g o e => by have := hg g o e; omega), Boxed.alt h.y A (by omega), ?_, Boxed.alt h.f A (by omega)⟩
  have := Blk.setAt h.k i (.int .i64 x)
  rwa [List.setIfInBounds_toArray, ← List.map_set] at this

set_option maxRecDepth 100000 in
set_option maxHeartbeats 8000000 in
theorem from_any (ball : List Rg) (a : Option Addr) (c l bB N0 : Nat) (hbB : bB < N0) (hga : ∀ g o, a = some ⟨g, o, none⟩ → g < N0) (hn : ball.length ≤ 4) (hw : ∀ x ∈ ball, wrongG x = false)
    (all : List (List Int)) (J Jx : List (List Int) → World → Prop) (hJ : ∀ pre A B, J pre A → Alt (Rng N0 3) A B → J pre B)
    (hY : ∀ pre x post A, all = pre ++ x :: post → N0 + 3 ≤ A.heap.size → J pre A → YieldAt Fence.wide 0 Tryd.prog l #[(toCs x).val] A fun e B =>
      (e = .returned (.bool true) ∧ J (pre ++ [x]) B ∧ Alt (fun k => ¬ ((k = bB ∨ ∃ o, a = some ⟨k, o, none⟩) ∨ Rng N0 3 k)) A B) ∨ (e = .returned (.bool false) ∧ Jx (pre ++ [x]) B)) :
    ∀ (m row : Nat) (p : List Int) (D R : List (List Int)) (v : List Int) (W : World), row + m = ball.length → p.length = row → v.length = 4 → v.take row = p → v.drop ball.length = List.replicate (4 - ball.length) 0 →
      all = D ++ (choices (ball.drop row)).map (fun q => p ++ q) ++ R → N0 + 3 ≤ W.heap.size → CS ball a c l bB N0 W v → J D W →
      CallsIn Fence.wide 0 Tryd.prog 114 #[.int .i64 row, .pointer (some ⟨bB, 0, none⟩), .pointer (some ⟨N0, 0, none⟩), .pointer (some ⟨N0 + 1, 0, none⟩), .pointer (some ⟨N0 + 2, 0, none⟩)] W fun e B =>
        (e = .returned (.bool true) ∧ J (D ++ (choices (ball.drop row)).map (fun q => p ++ q)) B ∧ N0 + 3 ≤ B.heap.size ∧ ∃ v', CS ball a c l bB N0 B v' ∧ v'.length = 4 ∧ v'.take row = p ∧ v'.drop ball.length = List.replicate (4 - ball.length) 0) ∨
        (e = .returned (.bool false) ∧ ∃ pre x post, all = pre ++ x :: post ∧ Jx (pre ++ [x]) B) := by
  intro m
  induction m with
  | zero =>
    intro row p D R v W hrow hp hv hvt hvd hall hz h hJD
    have hrow' : row = ball.length := by omega
    subst hrow'
    rw [List.drop_length] at hall ⊢
    simp only [choices, List.map_cons, List.map_nil, List.append_nil] at hall ⊢
    have hval := toCs_of hv hn hvt hvd
    obtain ⟨fn, tmps, assign, body, hy, hR⟩ := hY D p R W (by rw [hall]; simp) hz hJD
    rw [hval] at hy
    have k0 : W.cell? ⟨N0 + 1, 0, none⟩ = some (.int .i64 (v.getD 0 0)) := h.k.cell 0 (by obtain ⟨v0, v1, v2, v3, rfl⟩ : ∃ v0 v1 v2 v3, v = [v0, v1, v2, v3] := (by match v, hv with | [v0, v1, v2, v3], _ => exact ⟨_, _, _, _, rfl⟩); rfl)
    have k1 : W.cell? ⟨N0 + 1, 1, none⟩ = some (.int .i64 (v.getD 1 0)) := h.k.cell 1 (by obtain ⟨v0, v1, v2, v3, rfl⟩ : ∃ v0 v1 v2 v3, v = [v0, v1, v2, v3] := (by match v, hv with | [v0, v1, v2, v3], _ => exact ⟨_, _, _, _, rfl⟩); rfl)
    have k2 : W.cell? ⟨N0 + 1, 2, none⟩ = some (.int .i64 (v.getD 2 0)) := h.k.cell 2 (by obtain ⟨v0, v1, v2, v3, rfl⟩ : ∃ v0 v1 v2 v3, v = [v0, v1, v2, v3] := (by match v, hv with | [v0, v1, v2, v3], _ => exact ⟨_, _, _, _, rfl⟩); rfl)
    have k3 : W.cell? ⟨N0 + 1, 3, none⟩ = some (.int .i64 (v.getD 3 0)) := h.k.cell 3 (by obtain ⟨v0, v1, v2, v3, rfl⟩ : ∃ v0 v1 v2 v3, v = [v0, v1, v2, v3] := (by match v, hv with | [v0, v1, v2, v3], _ => exact ⟨_, _, _, _, rfl⟩); rfl)
    generalize v.getD 0 0 = v0 at *
    generalize v.getD 1 0 = v1 at *
    generalize v.getD 2 0 = v2 at *
    generalize v.getD 3 0 = v3 at *
    have cb := h.b.cell
    have cy := h.y.cell
    have H := Lib.hid h
    have HV := Lib.hid hv
    have HT := Lib.hid hvt
    have HD := Lib.hid hvd
    have HA := Lib.hid hall
    clear h hv hvt hvd hall hval hw hrow hY hp
    refine callsIn_of_wp Tryd.func114 rfl trivial ?_ rfl
    simp only [Tryd.ntmps114, List.size_toArray, List.length_cons, List.length_nil, Nat.reduceAdd, Nat.reduceSub, Array.replicate_succ, Array.replicate_zero, List.push_toArray, List.append_toArray, List.nil_append, List.cons_append]
    gi_wp2
    refine ⟨rfl, hR.mono ?_⟩
    rintro e B (⟨rfl, hJB, hk⟩ | ⟨rfl, hx⟩)
    · have HK := Lib.hid (show _ from H.out.far hk (by simp) (fun g o e h => h (.inl (.inr ⟨o, e⟩))) (fun k hr h => h (.inr hr)))
      have HZ := Lib.hid (Nat.le_trans hz hk.size)
      clear cb cy k0 k1 k2 k3 hk hy hR
      gi_wp2
      refine bodyPost_ret (results_tmp rfl _ _ _) rfl ?_
      exact .inl ⟨rfl, hJB, HZ.out, v, HK.out, HV.out, HT.out, HD.out⟩
    · have HX := Lib.hid hx
      clear cb cy k0 k1 k2 k3 hy hR hx
      gi_wp2
      refine bodyPost_ret (results_tmp rfl _ _ _) rfl ?_
      exact .inr ⟨rfl, D, p, R, by rw [HA.out]; simp, HX.out⟩
  | succ m ih =>
    intro row p D R v W hrow hp hv hvt hvd hall hz h hJD
    have hlt : row < ball.length := by omega
    obtain ⟨b, hb⟩ : ∃ b, ball[row]? = some b := ⟨ball[row]'hlt, List.getElem?_eq_getElem _⟩
    have hdr : ball.drop row = b :: ball.drop (row + 1) := by
      rw [List.drop_eq_getElem_cons hlt]; congr 1; rw [List.getElem?_eq_getElem hlt] at hb; exact Option.some.inj hb
    have hwb := hw b (List.mem_of_getElem? hb)
    unfold wrongG at hwb
    simp only [Bool.or_eq_false_iff, decide_eq_false_iff_not, Int.not_lt] at hwb
    obtain ⟨w1, w2, w3, w4⟩ := hwb
    obtain ⟨bs, hbs⟩ : ∃ bs, bs = ball.drop (row + 1) := ⟨_, rfl⟩
    rw [hdr, ← hbs] at hall ⊢
    obtain ⟨F, hF⟩ : ∃ F : Nat → List (List Int), F = fun (j : Nat) => (choices bs).map fun q => p ++ (b.lo + (j : Int)) :: q := ⟨_, rfl⟩
    have hch : (choices (b :: bs)).map (fun q => p ++ q) = (List.range (spanN b)).flatMap F := by
      rw [hF]; simp only [choices, List.map_flatMap, List.map_map]; rfl
    rw [hch] at hall ⊢
    have HI : Hid (∀ (i : Nat), i < spanN b → ∀ (v : List Int) (W : World), (v.length = 4 ∧ v.take row = p ∧ v.drop ball.length = List.replicate (4 - ball.length) 0) → N0 + 3 ≤ W.heap.size → CS ball a c l bB N0 W v → J (D ++ (List.range i).flatMap F) W →
        CallsIn Fence.wide 0 Tryd.prog 114 #[.int .i64 ((row : Int) + 1), .pointer (some ⟨bB, 0, none⟩), .pointer (some ⟨N0, 0, none⟩), .pointer (some ⟨N0 + 1, 0, none⟩), .pointer (some ⟨N0 + 2, 0, none⟩)] (W.setCell ⟨N0 + 1, row, none⟩ (.int .i64 (b.lo + (i : Int)))) fun e B =>
        (e = .returned (.bool true) ∧ Hid (J (D ++ (List.range (i + 1)).flatMap F) B) ∧ Hid (N0 + 3 ≤ B.heap.size) ∧ ∃ v', Hid (CS ball a c l bB N0 B v') ∧ Hid (v'.length = 4 ∧ v'.take row = p ∧ v'.drop ball.length = List.replicate (4 - ball.length) 0)) ∨
        (e = .returned (.bool false) ∧ Hid (∃ pre x post, all = pre ++ x :: post ∧ Jx (pre ++ [x]) B))) := Lib.hid (by
      intro i hi v W hv hz h hJD
      obtain ⟨hv, hvt, hvd⟩ := hv
      obtain ⟨T, t1, t2⟩ := flat_split F hi
      have e : F i = (choices (ball.drop (row + 1))).map (fun q => (p ++ [b.lo + (i : Int)]) ++ q) := by rw [hF, ← hbs]; simp
      have h1 := ih (row + 1) (p ++ [b.lo + (i : Int)]) (D ++ (List.range i).flatMap F) (T ++ R) (v.set row (b.lo + (i : Int))) (W.setCell ⟨N0 + 1, row, none⟩ (.int .i64 (b.lo + (i : Int)))) (by omega) (by simp [hp]) (by simpa using hv)
        (by rw [List.take_add_one, List.getElem?_set_self (by omega), List.take_set_of_le (Nat.le_refl _), hvt]; rfl)
        (by rw [List.drop_set_of_lt (by omega)]; exact hvd)
        (by rw [hall, t1, ← e]; simp) (by simpa using hz) (h.put row _ hbB hga) (hJ _ _ _ hJD ((Alt.refl _ W).setCell (q := ⟨N0 + 1, row, none⟩) (by unfold Rng; simp) _))
      rw [← e, List.append_assoc, ← t2] at h1
      refine h1.mono ?_
      rintro e B (⟨rfl, a1, a2, v', a3, a4, a5, a6⟩ | ⟨rfl, a1⟩)
      · refine .inl ⟨rfl, Lib.hid a1, Lib.hid a2, v', Lib.hid a3, Lib.hid ⟨a4, ?_, a6⟩⟩
        have := congrArg (List.take row) a5
        rw [List.take_take, Nat.min_eq_left (by omega)] at this
        rw [this, List.take_left' hp]
      · exact .inr ⟨rfl, Lib.hid a1⟩)
    have HIDX := Lib.hid hb
    have J0 := Lib.hid hJD
    have S0 := Lib.hid h
    have V0 : Hid (v.length = 4 ∧ v.take row = p ∧ v.drop ball.length = List.replicate (4 - ball.length) 0) := Lib.hid ⟨hv, hvt, hvd⟩
    have Z0 := Lib.hid hz
    have HSP : Hid ((spanN b : Int) = b.hi + 1 - b.lo) := Lib.hid (by unfold spanN; omega)
    obtain ⟨SP, hSP⟩ : ∃ SP, SP = spanN b := ⟨_, rfl⟩
    rw [← hSP] at HSP HI ⊢
    obtain ⟨g, o, ha, k1, k2⟩ := h.r row b hb
    subst ha
    have cb := h.b.cell
    have hz0 : (0 : Int) ≤ (row : Int) := by omega
    have hz1 : (row : Int) < (ball.length : Int) := by omega
    have hz4 : (row : Int) < 4 := by omega
    have hne : ((row : Int) == (ball.length : Int)) = false := by simp; omega
    clear ih hF hch hall hbs hdr hb hJD h hv hvt hvd hz hSP hw hY hp hJ hlt hrow
    refine callsIn_of_wp Tryd.func114 rfl trivial ?_ rfl
    simp only [Tryd.ntmps114, List.size_toArray, List.length_cons, List.length_nil, Nat.reduceAdd, Nat.reduceSub, Array.replicate_succ, Array.replicate_zero, List.push_toArray, List.append_toArray, List.nil_append, List.cons_append]
    gi_wp2
    clear cb k1 k2
    gi_loopw [7] (fun s wr => ∃ (i : Nat) (v : List Int), i ≤ SP ∧ s = .int .i64 (b.lo + (i : Int)) ∧ Hid (J (D ++ (List.range i).flatMap F) wr) ∧ Hid (CS ball (some ⟨g, o, none⟩) c l bB N0 wr v) ∧ Hid (v.length = 4 ∧ v.take row = p ∧ v.drop ball.length = List.replicate (4 - ball.length) 0) ∧ Hid (N0 + 3 ≤ wr.heap.size)) (fun s wr => (b.hi + 1 - intOf s).toNat)
    case atStart => exact ⟨0, v, by omega, by simp, by simpa using J0, S0, V0, Z0⟩
    case round =>
      obtain ⟨i, v, hi, rfl, hJi, hS, hV, hZ⟩ := hrel
      clear J0 S0 V0 Z0
      have cb := hS.out.b.cell
      obtain ⟨g', o', hgo, k1, k2⟩ := hS.out.r row b HIDX.out
      cases hgo
      by_cases hlt : i < SP
      · have hle : b.lo + (i : Int) ≤ b.hi := by have := HSP.out; omega
        have HC := Lib.hid (HI.out i hlt v wr hV.out hZ.out hS.out hJi.out)
        have cf := hS.out.f.cell
        have ck : wr.cell? ⟨N0 + 1, row, none⟩ = some (.int .i64 (v.getD row 0)) := hS.out.k.cell row (by
          have := hV.out.1
          rw [List.getElem?_toArray, List.getElem?_map, List.getD_eq_getElem?_getD, List.getElem?_eq_getElem (by omega)]; rfl)
        have fk : wr.frozen? ⟨N0 + 1, row, none⟩ = false := hS.out.k.fr row
        clear hS hV hZ hJi
        gi_wp2
        refine ⟨trivial, rfl, ?_⟩
        refine HC.out.mono ?_
        rintro e B (⟨rfl, j1, z1, v', s1, v1⟩ | ⟨rfl, x1⟩)
        · clear ck fk cf k1 k2 cb
          gi_wp2
          go_roundw
          case rel => exact ⟨i + 1, v', by omega, by go_num, j1, s1, v1, z1⟩
          case measure => simp [intOf]; omega
        · clear ck fk cf k1 k2 cb
          gi_wp2
          refine bodyPost_ret (results_tmp rfl _ _ _) rfl ?_
          exact .inr ⟨rfl, x1.out⟩
      · have hle : ¬ b.lo + (i : Int) ≤ b.hi := by have := HSP.out; omega
        have hiS : i = SP := by omega
        subst hiS
        gi_wp2
        refine bodyPost_ret (results_tmp rfl _ _ _) rfl ?_
        exact .inl ⟨rfl, hJi.out, hZ.out, v, hS.out, hV.out.1, hV.out.2.1, hV.out.2.2⟩

end Go.Proofs.YtaloffdkadhhnaaDoor
