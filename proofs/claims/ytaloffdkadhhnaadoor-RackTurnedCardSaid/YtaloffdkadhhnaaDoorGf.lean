/- The contract of the iterator over a ball's courses. The iterator over a ball's courses, as an iterator. What leaves remembers: its keys and its elements. The contract of the iterator over what is left. leaves, and the iterator that it gives. -/
import Derived.Test.YtaloffdkadhhnaaDoorGd
import Derived.Test.YtaloffdkadhhnaaDoorGa
import Derived.Test.YtaloffdkadhhnaaDoorGc
import Derived.Maps.OwnIn
import Derived.Maps.OwnSet
import Derived.DeepKeys4
import Derived.WideKeyMaps
import Derived.Sort.CutIn
set_option linter.unusedVariables false
set_option linter.unusedSimpArgs false

namespace Go.Proofs.YtaloffdkadhhnaaDoor
open Go.RowKit Go.Shelf

attribute [local go_sem] Oper.semAt_some

def spanN (b : Rg) : Nat := (b.hi + 1 - b.lo).toNat
def choices : List Rg → List (List Int)
  | [] => [[]]
  | b :: bs => (List.range (spanN b)).flatMap fun (j : Nat) => (choices bs).map fun q => (b.lo + (j : Int)) :: q
def toCs (x : List Int) : Cs := ⟨x.getD 0 0, x.getD 1 0, x.getD 2 0, x.getD 3 0⟩

theorem toCs_of {v p : List Int} {n : Nat} (h4 : v.length = 4) (hn : n ≤ 4) (hp : v.take n = p) (hd : v.drop n = List.replicate (4 - n) 0) : (toCs p).val = .agg #[.int .i64 (v.getD 0 0), .int .i64 (v.getD 1 0), .int .i64 (v.getD 2 0), .int .i64 (v.getD 3 0)] := by
  have key : ∀ i, i < 4 → p.getD i 0 = v.getD i 0 := fun i hi => by
    subst hp
    rw [List.getD_eq_getElem?_getD, List.getD_eq_getElem?_getD, List.getElem?_take]
    split
    · rfl
    · next h =>
      have e : v[i]? = (v.drop n)[i - n]? := by rw [List.getElem?_drop]; congr 1; omega
      rw [e, hd, List.getElem?_replicate, if_pos (by omega)]; rfl
  unfold toCs Cs.val
  simp only [key 0 (by omega), key 1 (by omega), key 2 (by omega), key 3 (by omega)]

theorem flat_split {β : Type} (f : Nat → List β) {i N : Nat} (h : i < N) : ∃ T, (List.range N).flatMap f = (List.range i).flatMap f ++ f i ++ T ∧ (List.range (i + 1)).flatMap f = (List.range i).flatMap f ++ f i := by
  obtain ⟨k, rfl⟩ : ∃ k, N = (i + 1) + k := ⟨N - (i + 1), by omega⟩
  refine ⟨((List.range k).map (i + 1 + ·)).flatMap f, ?_, ?_⟩
  · rw [List.range_add, List.flatMap_append, List.range_succ, List.flatMap_append]; simp
  · rw [List.range_succ, List.flatMap_append]; simp

theorem Blk.setAt {W : World} {b : Nat} {cs : Array Value} {t : TypeId} (h : Blk W b cs t) (i : Nat) (v : Value) : Blk (W.setCell ⟨b, i, none⟩ v) b (cs.setIfInBounds i v) t := by
  obtain ⟨hlt, hk⟩ := Array.getElem?_eq_some_iff.1 (show W.heap[b]? = _ from h)
  show (W.heap.modify b _)[b]? = _
  rw [Array.getElem?_eq_getElem (by rw [Array.size_modify]; exact hlt), Array.getElem_modify_self, hk]
  rfl

/-- What the search for courses stands on. -/
structure CS (ball : List Rg) (a : Option Addr) (c l bB N0 : Nat) (W : World) (v : List Int) : Prop where
  b : Boxed W bB 51 (.slice a ball.length c)
  r : RgsAt W a ball
  y : Boxed W N0 160 (.func (.yield l) #[] #[])
  k : Blk W (N0 + 1) (v.map (Value.int .i64)).toArray 111
  f : Boxed W (N0 + 2) 126 (.func (.func 114) #[] #[.pointer (some ⟨bB, 0, none⟩), .pointer (some ⟨N0, 0, none⟩), .pointer (some ⟨N0 + 1, 0, none⟩), .pointer (some ⟨N0 + 2, 0, none⟩)])
theorem CS.far {ball : List Rg} {a : Option Addr} {c l bB N0 : Nat} {W W' : World} {v : List Int} {p : Nat → Prop} (h : CS ball a c l bB N0 W v) (ha : Alt p W W') (h1 : ¬ p bB) (h2 : ∀ g o, a = some ⟨g, o, none⟩ → ¬ p g) (h3 : ∀ k, Rng N0 3 k → ¬ p k) : CS ball a c l bB N0 W' v :=
  ⟨Boxed.alt h.b ha h1, h.r.alt ha h2, Boxed.alt h.y ha (h3 _ (by unfold Rng; omega)), Blk.alt h.k ha (h3 _ (by unfold Rng; omega)), Boxed.alt h.f ha (h3 _ (by unfold Rng; omega))⟩
theorem CS.put {ball : List Rg} {a : Option Addr} {c l bB N0 : Nat} {W : World} {v : List Int} (h : CS ball a c l bB N0 W v) (i : Nat) (x : Int) (hb : bB < N0) (hg : ∀ g o, a = some ⟨g, o, none⟩ → g < N0) :
    CS ball a c l bB N0 (W.setCell ⟨N0 + 1, i, none⟩ (.int .i64 x)) (v.set i x) := by
  have A : Alt (fun k => k = N0 + 1) W (W.setCell ⟨N0 + 1, i, none⟩ (.int .i64 x)) := (Alt.refl (fun k => k = N0 + 1) W).setCell (q := ⟨N0 + 1, i, none⟩) rfl _
  refine ⟨Boxed.alt h.b A (by omega), h.r.alt A (fun g o e => by have := hg g o e; omega), Boxed.alt h.y A (by omega), ?_, Boxed.alt h.f A (by omega)⟩
  have := Blk.setAt h.k i (.int .i64 x)
  rwa [List.setIfInBounds_toArray, ← List.map_set] at this

set_option maxRecDepth 100000 in
set_option maxHeartbeats 8000000 in
theorem from_any (ball : List Rg) (a : Option Addr) (c l bB N0 : Nat) (hbB : bB < N0) (hga : ∀ g o, a = some ⟨g, o, none⟩ → g < N0) (hn : ball.length ≤ 4) (hw : ∀ x ∈ ball, wrongG x = false)
    (all : List (List Int)) (J Jx : List (List Int) → World → Prop) (hJ : ∀ pre A B, J pre A → Alt (Rng N0 3) A B → J pre B)
    (hY : ∀ pre x post A, all = pre ++ x :: post → N0 + 3 ≤ A.heap.size → J pre A → YieldAt Fence.wide 0 Tryd.prog l #[(toCs x).val] A fun e B =>
      (e = .returned (.bool true) ∧ J (pre ++ [x]) B ∧ Alt (fun k => ¬ ((k = bB ∨ ∃ o, a = some ⟨k, o, none⟩) ∨ Rng N0 3 k)) A B) ∨ (e = .returned (.bool false) ∧ Jx (pre ++ [x]) B)) :
    ∀ (m row : Nat) (p : List Int) (D R : List (List Int)) (v : List Int) (W : World), row + m = ball.length → p.length = row → v.length = 4 → v.take row = p → v.drop ball.length = List.replicate (4 - ball.length) 0 →
      all = D ++ (choices (ball.drop row)).map (fun q => p ++ q) ++ R → N0 + 3 ≤ W.heap.size → CS ball a c l bB N0 W v → J D W →
      CallsIn Fence.wide 0 Tryd.prog 114 #[.int .i64 row, .pointer (some ⟨bB, 0, none⟩), .pointer (some ⟨N0, 0, none⟩), .pointer (some ⟨N0 + 1, 0, none⟩), .pointer (some ⟨N0 + 2, 0, none⟩)] W fun e B =>
        (e = .returned (.bool true) ∧ J (D ++ (choices (ball.drop row)).map (fun q => p ++ q)) B ∧ N0 + 3 ≤ B.heap.size ∧ ∃ v', CS ball a c l bB N0 B v' ∧ v'.length = 4 ∧ v'.take row = p ∧ v'.drop ball.length = List.replicate (4 - ball.length) 0) ∨
        (e = .returned (.bool false) ∧ ∃ pre x post, all = pre ++ x :: post ∧ Jx (pre ++ [x]) B) := by
  intro m
  induction m with
  | zero =>
    intro row p D R v W hrow hp hv hvt hvd hall hz h hJD
    have hrow' : row = ball.length := by omega
    subst hrow'
    rw [List.drop_length] at hall ⊢
    simp only [choices, List.map_cons, List.map_nil, List.append_nil] at hall ⊢
    have hval := toCs_of hv hn hvt hvd
    obtain ⟨fn, tmps, assign, body, hy, hR⟩ := hY D p R W (by rw [hall]; simp) hz hJD
    rw [hval] at hy
    have k0 : W.cell? ⟨N0 + 1, 0, none⟩ = some (.int .i64 (v.getD 0 0)) := h.k.cell 0 (by obtain ⟨v0, v1, v2, v3, rfl⟩ : ∃ v0 v1 v2 v3, v = [v0, v1, v2, v3] := (by match v, hv with | [v0, v1, v2, v3], _ => exact ⟨_, _, _, _, rfl⟩); rfl)
    have k1 : W.cell? ⟨N0 + 1, 1, none⟩ = some (.int .i64 (v.getD 1 0)) := h.k.cell 1 (by obtain ⟨v0, v1, v2, v3, rfl⟩ : ∃ v0 v1 v2 v3, v = [v0, v1, v2, v3] := (by match v, hv with | [v0, v1, v2, v3], _ => exact ⟨_, _, _, _, rfl⟩); rfl)
    have k2 : W.cell? ⟨N0 + 1, 2, none⟩ = some (.int .i64 (v.getD 2 0)) := h.k.cell 2 (by obtain ⟨v0, v1, v2, v3, rfl⟩ : ∃ v0 v1 v2 v3, v = [v0, v1, v2, v3] := (by match v, hv with | [v0, v1, v2, v3], _ => exact ⟨_, _, _, _, rfl⟩); rfl)
    have k3 : W.cell? ⟨N0 + 1, 3, none⟩ = some (.int .i64 (v.getD 3 0)) := h.k.cell 3 (by obtain ⟨v0, v1, v2, v3, rfl⟩ : ∃ v0 v1 v2 v3, v = [v0, v1, v2, v3] := (by match v, hv with | [v0, v1, v2, v3], _ => exact ⟨_, _, _, _, rfl⟩); rfl)
    generalize v.getD 0 0 = v0 at *
    generalize v.getD 1 0 = v1 at *
    generalize v.getD 2 0 = v2 at *
    generalize v.getD 3 0 = v3 at *
    have cb := h.b.cell
    have cy := h.y.cell
    have H := Lib.hid h
    have HV := Lib.hid hv
    have HT := Lib.hid hvt
    have HD := Lib.hid hvd
    have HA := Lib.hid hall
    clear h hv hvt hvd hall hval hw hrow hY hp
    refine callsIn_of_wp Tryd.func114 rfl trivial ?_ rfl
    simp only [Tryd.ntmps114, List.size_toArray, List.length_cons, List.length_nil, Nat.reduceAdd, Nat.reduceSub, Array.replicate_succ, Array.replicate_zero, List.push_toArray, List.append_toArray, List.nil_append, List.cons_append]
    gi_wp2
    refine ⟨rfl, hR.mono ?_⟩
    rintro e B (⟨rfl, hJB, hk⟩ | ⟨rfl, hx⟩)
    · have HK := Lib.hid (show _ from H.out.far hk (by simp) (fun g o e h => h (.inl (.inr ⟨o, e⟩))) (fun k hr h => h (.inr hr)))
      have HZ := Lib.hid (Nat.le_trans hz hk.size)
      clear cb cy k0 k1 k2 k3 hk hy hR
      gi_wp2
      refine bodyPost_ret (results_tmp rfl _ _ _) rfl ?_
      exact .inl ⟨rfl, hJB, HZ.out, v, HK.out, HV.out, HT.out, HD.out⟩
    · have HX := Lib.hid hx
      clear cb cy k0 k1 k2 k3 hy hR hx
      gi_wp2
      refine bodyPost_ret (results_tmp rfl _ _ _) rfl ?_
      exact .inr ⟨rfl, D, p, R, by rw [HA.out]; simp, HX.out⟩
  | succ m ih =>
    intro row p D R v W hrow hp hv hvt hvd hall hz h hJD
    have hlt : row < ball.length := by omega
    obtain ⟨b, hb⟩ : ∃ b, ball[row]? = some b := ⟨ball[row]'hlt, List.getElem?_eq_getElem _⟩
    have hdr : ball.drop row = b :: ball.drop (row + 1) := by
      rw [List.drop_eq_getElem_cons hlt]; congr 1; rw [List.getElem?_eq_getElem hlt] at hb; exact Option.some.inj hb
    have hwb := hw b (List.mem_of_getElem? hb)
    unfold wrongG at hwb
    simp only [Bool.or_eq_false_iff, decide_eq_false_iff_not, Int.not_lt] at hwb
    obtain ⟨w1, w2, w3, w4⟩ := hwb
    obtain ⟨bs, hbs⟩ : ∃ bs, bs = ball.drop (row + 1) := ⟨_, rfl⟩
    rw [hdr, ← hbs] at hall ⊢
    obtain ⟨F, hF⟩ : ∃ F : Nat → List (List Int), F = fun (j : Nat) => (choices bs).map fun q => p ++ (b.lo + (j : Int)) :: q := ⟨_, rfl⟩
    have hch : (choices (b :: bs)).map (fun q => p ++ q) = (List.range (spanN b)).flatMap F := by
      rw [hF]; simp only [choices, List.map_flatMap, List.map_map]; rfl
    rw [hch] at hall ⊢
    have HI : Hid (∀ (i : Nat), i < spanN b → ∀ (v : List Int) (W : World), (v.length = 4 ∧ v.take row = p ∧ v.drop ball.length = List.replicate (4 - ball.length) 0) → N0 + 3 ≤ W.heap.size → CS ball a c l bB N0 W v → J (D ++ (List.range i).flatMap F) W →
        CallsIn Fence.wide 0 Tryd.prog 114 #[.int .i64 ((row : Int) + 1), .pointer (some ⟨bB, 0, none⟩), .pointer (some ⟨N0, 0, none⟩), .pointer (some ⟨N0 + 1, 0, none⟩), .pointer (some ⟨N0 + 2, 0, none⟩)] (W.setCell ⟨N0 + 1, row, none⟩ (.int .i64 (b.lo + (i : Int)))) fun e B =>
        (e = .returned (.bool true) ∧ Hid (J (D ++ (List.range (i + 1)).flatMap F) B) ∧ Hid (N0 + 3 ≤ B.heap.size) ∧ ∃ v', Hid (CS ball a c l bB N0 B v') ∧ Hid (v'.length = 4 ∧ v'.take row = p ∧ v'.drop ball.length = List.replicate (4 - ball.length) 0)) ∨
        (e = .returned (.bool false) ∧ Hid (∃ pre x post, all = pre ++ x :: post ∧ Jx (pre ++ [x]) B))) := Lib.hid (by
      intro i hi v W hv hz h hJD
      obtain ⟨hv, hvt, hvd⟩ := hv
      obtain ⟨T, t1, t2⟩ := flat_split F hi
      have e : F i = (choices (ball.drop (row + 1))).map (fun q => (p ++ [b.lo + (i : Int)]) ++ q) := by rw [hF, ← hbs]; simp
      have h1 := ih (row + 1) (p ++ [b.lo + (i : Int)]) (D ++ (List.range i).flatMap F) (T ++ R) (v.set row (b.lo + (i : Int))) (W.setCell ⟨N0 + 1, row, none⟩ (.int .i64 (b.lo + (i : Int)))) (by omega) (by simp [hp]) (by simpa using hv)
        (by rw [List.take_add_one, List.getElem?_set_self (by omega), List.take_set_of_le (Nat.le_refl _), hvt]; rfl)
        (by rw [List.drop_set_of_lt (by omega)]; exact hvd)
        (by rw [hall, t1, ← e]; simp) (by simpa using hz) (h.put row _ hbB hga) (hJ _ _ _ hJD ((Alt.refl _ W).setCell (q := ⟨N0 + 1, row, none⟩) (by unfold Rng; simp) _))
      rw [← e, List.append_assoc, ← t2] at h1
      refine h1.mono ?_
      rintro e B (⟨rfl, a1, a2, v', a3, a4, a5, a6⟩ | ⟨rfl, a1⟩)
      · refine .inl ⟨rfl, Lib.hid a1, Lib.hid a2, v', Lib.hid a3, Lib.hid ⟨a4, ?_, a6⟩⟩
        have := congrArg (List.take row) a5
        rw [List.take_take, Nat.min_eq_left (by omega)] at this
        rw [this, List.take_left' hp]
      · exact .inr ⟨rfl, Lib.hid a1⟩)
    have HIDX := Lib.hid hb
    have J0 := Lib.hid hJD
    have S0 := Lib.hid h
    have V0 : Hid (v.length = 4 ∧ v.take row = p ∧ v.drop ball.length = List.replicate (4 - ball.length) 0) := Lib.hid ⟨hv, hvt, hvd⟩
    have Z0 := Lib.hid hz
    have HSP : Hid ((spanN b : Int) = b.hi + 1 - b.lo) := Lib.hid (by unfold spanN; omega)
    obtain ⟨SP, hSP⟩ : ∃ SP, SP = spanN b := ⟨_, rfl⟩
    rw [← hSP] at HSP HI ⊢
    obtain ⟨g, o, ha, k1, k2⟩ := h.r row b hb
    subst ha
    have cb := h.b.cell
    have hz0 : (0 : Int) ≤ (row : Int) := by omega
    have hz1 : (row : Int) < (ball.length : Int) := by omega
    have hz4 : (row : Int) < 4 := by omega
    have hne : ((row : Int) == (ball.length : Int)) = false := by simp; omega
    clear ih hF hch hall hbs hdr hb hJD h hv hvt hvd hz hSP hw hY hp hJ hlt hrow
    refine callsIn_of_wp Tryd.func114 rfl trivial ?_ rfl
    simp only [Tryd.ntmps114, List.size_toArray, List.length_cons, List.length_nil, Nat.reduceAdd, Nat.reduceSub, Array.replicate_succ, Array.replicate_zero, List.push_toArray, List.append_toArray, List.nil_append, List.cons_append]
    gi_wp2
    clear cb k1 k2
    gi_loopw [7] (fun s wr => ∃ (i : Nat) (v : List Int), i ≤ SP ∧ s = .int .i64 (b.lo + (i : Int)) ∧ Hid (J (D ++ (List.range i).flatMap F) wr) ∧ Hid (CS ball (some ⟨g, o, none⟩) c l bB N0 wr v) ∧ Hid (v.length = 4 ∧ v.take row = p ∧ v.drop ball.length = List.replicate (4 - ball.length) 0) ∧ Hid (N0 + 3 ≤ wr.heap.size)) (fun s wr => (b.hi + 1 - intOf s).toNat)
    case atStart => exact ⟨0, v, by omega, by simp, by simpa using J0, S0, V0, Z0⟩
    case round =>
      obtain ⟨i, v, hi, rfl, hJi, hS, hV, hZ⟩ := hrel
      clear J0 S0 V0 Z0
      have cb := hS.out.b.cell
      obtain ⟨g', o', hgo, k1, k2⟩ := hS.out.r row b HIDX.out
      cases hgo
      by_cases hlt : i < SP
      · have hle : b.lo + (i : Int) ≤ b.hi := by have := HSP.out; omega
        have HC := Lib.hid (HI.out i hlt v wr hV.out hZ.out hS.out hJi.out)
        have cf := hS.out.f.cell
        have ck : wr.cell? ⟨N0 + 1, row, none⟩ = some (.int .i64 (v.getD row 0)) := hS.out.k.cell row (by
          have := hV.out.1
          rw [List.getElem?_toArray, List.getElem?_map, List.getD_eq_getElem?_getD, List.getElem?_eq_getElem (by omega)]; rfl)
        have fk : wr.frozen? ⟨N0 + 1, row, none⟩ = false := hS.out.k.fr row
        clear hS hV hZ hJi
        gi_wp2
        refine ⟨trivial, rfl, ?_⟩
        refine HC.out.mono ?_
        rintro e B (⟨rfl, j1, z1, v', s1, v1⟩ | ⟨rfl, x1⟩)
        · clear ck fk cf k1 k2 cb
          gi_wp2
          go_roundw
          case rel => exact ⟨i + 1, v', by omega, by go_num, j1, s1, v1, z1⟩
          case measure => simp [intOf]; omega
        · clear ck fk cf k1 k2 cb
          gi_wp2
          refine bodyPost_ret (results_tmp rfl _ _ _) rfl ?_
          exact .inr ⟨rfl, x1.out⟩
      · have hle : ¬ b.lo + (i : Int) ≤ b.hi := by have := HSP.out; omega
        have hiS : i = SP := by omega
        subst hiS
        gi_wp2
        refine bodyPost_ret (results_tmp rfl _ _ _) rfl ?_
        exact .inl ⟨rfl, hJi.out, hZ.out, v, hS.out, hV.out.1, hV.out.2.1, hV.out.2.2⟩

end Go.Proofs.YtaloffdkadhhnaaDoor

namespace Go.Proofs.YtaloffdkadhhnaaDoor
open Go.RowKit Go.Shelf

attribute [local go_sem] Oper.semAt_some

theorem eg113 : ∀ args w, (callFunc 113 args).run Tryd.prog w = .ok (.enter 113 args) w := enters_of Tryd.func113 (by kernel_rfl) rfl

set_option maxHeartbeats 1000000 in
theorem courses_any (a : Option Addr) (n c : Nat) (w : World) :
    Calls Tryd.prog 99 #[.slice a n c] w fun e w' => e = .returned (.func (.func 113) #[] #[.pointer (some ⟨w.heap.size, 0, none⟩)]) ∧ w' = w.alloc (.cells #[.slice a n c] 51) := by
  go_enter Tryd.func99, Tryd.ntmps99
  go_wp2_with fail
  go_ret
  exact ⟨rfl, rfl⟩

set_option maxRecDepth 100000 in
set_option maxHeartbeats 4000000 in
theorem course_iter (ball : List Rg) (a : Option Addr) (c bB : Nat) (w : World) (hB : Boxed w bB 51 (.slice a ball.length c)) (hR : RgsAt w a ball) (hga : ∀ g o, a = some ⟨g, o, none⟩ → g < w.heap.size) (hn : ball.length ≤ 4) (hw : ∀ x ∈ ball, wrongG x = false) :
    Iter Tryd.prog 113 #[.pointer (some ⟨bB, 0, none⟩)] (fun x : List Int => #[(toCs x).val]) (choices ball) 3 (fun k => k = bB ∨ ∃ o, a = some ⟨k, o, none⟩) w := by
  intro l J Jx W hW hJ hJx hY h0
  have hBW := Boxed.alt hB hW (by simp)
  have hRW := hR.alt hW (fun g o e h => h (.inr ⟨o, e⟩))
  have hz := hW.size
  have hbB := hBW.lt
  obtain ⟨W3, hW3⟩ : ∃ W3, Hid (W3 = ((W.alloc (.cells #[.func (.yield l) #[] #[]] 160)).alloc (.cells #[.int .i64 0, .int .i64 0, .int .i64 0, .int .i64 0] 111)).alloc (.cells #[.func (.func 114) #[] #[.pointer (some ⟨bB, 0, none⟩), .pointer (some ⟨W.heap.size, 0, none⟩), .pointer (some ⟨W.heap.size + 1, 0, none⟩), .pointer (some ⟨W.heap.size + 1 + 1, 0, none⟩)]] 126)) := ⟨_, Lib.hid rfl⟩
  have X3 : ∀ p, Alt p W W3 := fun p => by rw [hW3.out]; exact (((Alt.refl _ _).alloc _).alloc _).alloc _
  have bY : Boxed W3 W.heap.size 160 (.func (.yield l) #[] #[]) := by
    rw [hW3.out]
    exact Boxed.alt (p := fun _ => False) (Boxed.new W 160 _) (((Alt.refl _ _).alloc _).alloc _) id
  have bK : Blk W3 (W.heap.size + 1) #[.int .i64 0, .int .i64 0, .int .i64 0, .int .i64 0] 111 := by
    rw [hW3.out]
    have := Blk.alt (p := fun _ => False) (Blk.new (W.alloc (.cells #[.func (.yield l) #[] #[]] 160)) #[.int .i64 0, .int .i64 0, .int .i64 0, .int .i64 0] 111) ((Alt.refl _ _).alloc (.cells #[.func (.func 114) #[] #[.pointer (some ⟨bB, 0, none⟩), .pointer (some ⟨W.heap.size, 0, none⟩), .pointer (some ⟨W.heap.size + 1, 0, none⟩), .pointer (some ⟨W.heap.size + 1 + 1, 0, none⟩)]] 126)) id
    rwa [World.size_alloc] at this
  have bF : Boxed W3 (W.heap.size + 2) 126 (.func (.func 114) #[] #[.pointer (some ⟨bB, 0, none⟩), .pointer (some ⟨W.heap.size, 0, none⟩), .pointer (some ⟨W.heap.size + 1, 0, none⟩), .pointer (some ⟨W.heap.size + 2, 0, none⟩)]) := by
    rw [hW3.out]
    have := Boxed.new ((W.alloc (.cells #[.func (.yield l) #[] #[]] 160)).alloc (.cells #[.int .i64 0, .int .i64 0, .int .i64 0, .int .i64 0] 111)) 126 (.func (.func 114) #[] #[.pointer (some ⟨bB, 0, none⟩), .pointer (some ⟨W.heap.size, 0, none⟩), .pointer (some ⟨W.heap.size + 1, 0, none⟩), .pointer (some ⟨W.heap.size + 1 + 1, 0, none⟩)])
    rwa [World.size_alloc, World.size_alloc] at this
  have z3 : W.heap.size + 3 ≤ W3.heap.size := by rw [hW3.out]; simp
  have FA : CallsIn Fence.wide 0 Tryd.prog 114 #[.int .i64 0, .pointer (some ⟨bB, 0, none⟩), .pointer (some ⟨W.heap.size, 0, none⟩), .pointer (some ⟨W.heap.size + 1, 0, none⟩), .pointer (some ⟨W.heap.size + 2, 0, none⟩)] W3 _ :=
    from_any ball a c l bB W.heap.size hbB (fun g o e => Nat.lt_of_lt_of_le (hga g o e) hz) hn hw (choices ball) J Jx hJ hY ball.length 0 [] [] [] [0, 0, 0, 0] W3 (by omega) rfl rfl rfl
      (by match ball.length, hn with | 0, _ => rfl | 1, _ => rfl | 2, _ => rfl | 3, _ => rfl | 4, _ => rfl | n + 5, h => omega) (by simp) z3
      ⟨Boxed.alt hBW (X3 (fun _ => False)) id, hRW.alt (X3 (fun _ => False)) (fun _ _ _ => id), bY, bK, bF⟩ (hJ _ _ _ h0 (X3 _))
  have FX := Lib.hid (FA.mono (R' := fun e B => (∃ v, e = .returned v) ∧ (J (choices ball) B ∨ ∃ pre x post, choices ball = pre ++ x :: post ∧ Jx (pre ++ [x]) B)) (by
    rintro e B (⟨rfl, hJ, _⟩ | ⟨rfl, hx⟩)
    · exact ⟨⟨_, rfl⟩, .inl (by simpa using hJ)⟩
    · exact ⟨⟨_, rfl⟩, .inr hx⟩))
  clear FA hB hR hga hn hw hW hJ hJx hY h0 hBW hRW hz hbB X3 bY bK bF z3
  refine callsIn_of_wp Tryd.func113 rfl trivial ?_ rfl
  simp only [Tryd.ntmps113, List.size_toArray, List.length_cons, List.length_nil, Nat.reduceAdd, Nat.reduceSub, Array.replicate_succ, Array.replicate_zero, List.push_toArray, List.append_toArray, List.nil_append, List.cons_append]
  gi_wp2
  have hWo := hW3.out
  rw [← hWo]
  clear hWo
  refine ⟨trivial, rfl, ?_⟩
  refine FX.out.mono ?_
  rintro e B ⟨⟨v, rfl⟩, h⟩
  gi_wp2
  go_end0
  exact ⟨⟨_, rfl⟩, h⟩

end Go.Proofs.YtaloffdkadhhnaaDoor

namespace Go.Proofs.YtaloffdkadhhnaaDoor
open Go.RowKit Go.Maps

set_option maxRecDepth 100000 in
theorem laidOut : laidOutB Tryd.prog = true := by kernel_rfl
theorem row151 : (151 : TypeId) < Tryd.prog.types.size := of_decide_eq_true (by kernel_rfl)
set_option maxRecDepth 100000 in
theorem wide151 : (match Tryd.prog.underlying 151 with | some (.array _ _) | some (.struct _) => true | _ => false) = true := by rw [Tryd.underlying151]
set_option maxRecDepth 100000 in
theorem law151 : Keyed Tryd.prog 151 := Keyed.of_law (deep_law_laid laidOut (m := 4) (by omega) row151 (by kernel_rfl) wide151)
theorem deep151 : Tryd.prog.keyTypeAt (Tryd.prog.types.size + 1) 151 = true := by kernel_rfl
theorem cells151 : Tryd.prog.cellsOf 151 = 2 := by kernel_rfl
theorem cells100 : Tryd.prog.cellsOf 100 = 1 := by kernel_rfl

def blowV (S T : Nat) : Value := .agg #[.int .u16 (S : Nat), .int .u16 (T : Nat)]
def litsB (S T : Nat) : List Lit := [.int .u16 (S : Nat), .int .u16 (T : Nat)]
def kB (S T : Nat) : Lit := .string (keyBytes (litsB S T))

theorem wf_u {n : Nat} (h : n < 65536) : (Lit.int .u16 (n : Int)).wf = true := by
  unfold Lit.wf
  simp [IntKind.bits, IntKind.signed, IntKind.min, IntKind.max]
  omega

theorem keyLits151 (S T : Nat) (hS : S < 65536) (hT : T < 65536) (d : Nat) : Tryd.prog.keyLits (d + 3) 151 (blowV S T).cells.toList = some (litsB S T) := by
  have h1 := wf_u hS
  have h2 := wf_u hT
  simp [Program.keyLits, Tryd.underlying151, Tryd.underlying100, cells151, cells100, blowV, Value.cells, litsB, h1, h2]

theorem key151 (S T : Nat) (hS : S < 65536) (hT : T < 65536) : keyOf Tryd.prog 151 (blowV S T) = some (kB S T) := by
  have e : Tryd.prog.underlying 151 = _ := Tryd.underlying151
  unfold keyOf
  rw [e]
  have hk : Tryd.prog.keyType 151 = true := deep151
  have hf : (blowV S T).formed Tryd.prog 151 = true := by simp [Value.formed, blowV, Tryd.underlying151, cells151]
  obtain ⟨n, hn⟩ : ∃ n, Tryd.prog.types.size = n + 2 := ⟨Tryd.prog.types.size - 2, by have := (show 151 < Tryd.prog.types.size from row151); omega⟩
  simp only [hk, hf, Bool.and_self, if_true, hn]
  rw [keyLits151 S T hS hT n]
  rfl

theorem kB_inj {S T S' T' : Nat} (hS : S < 65536) (hT : T < 65536) (hS' : S' < 65536) (hT' : T' < 65536) (e : kB S T = kB S' T') : S = S' ∧ T = T' := by
  have h1 := key151 S T hS hT
  rw [e] at h1
  have h2 := law151.inj h1 (key151 S' T' hS' hT')
  simp only [blowV, Value.agg.injEq, Array.mk.injEq, List.cons.injEq, Value.int.injEq, true_and, and_true] at h2
  omega

/-- How an element reads. -/
def bread : Value → Option (DataW Unit × List MemPlace)
  | .int .u16 a => some (.lit (.int .u16 a), [])
  | _ => none
def bdat (N : Nat) : DataW Unit := .lit (.int .u16 (N : Nat))
theorem bread_val (N : Nat) : bread (.int .u16 (N : Nat)) = some (bdat N, []) := rfl
theorem bread_inv {v : Value} {N : Nat} {ps : List MemPlace} (h : bread v = some (bdat N, ps)) : v = .int .u16 (N : Nat) := by
  unfold bread at h
  split at h
  · simp only [bdat, Option.some.injEq, Prod.mk.injEq, DataW.lit.injEq, Lit.int.injEq, true_and] at h
    rw [h.1]
  · cases h
theorem zero100 (w : World) : (zeroValue 100).run Tryd.prog w = .ok (.int .u16 (0 : Nat)) w := by kernel_rfl

/-- What the memory holds is so: for the pins St, what f leaves of each blow. -/
structure GoodB (St : Nat) (f : Nat → Nat) (D : DataW Unit) : Prop where
  tidy : Tidy D
  els : ∀ T, T < 65536 → Maps.has D (kB St T) = true → ∀ z, D.atKey (kB St T) z = bdat (f T)

theorem goodB_empty (St : Nat) (f : Nat → Nat) : GoodB St f (.map []) := ⟨tidy_empty, fun T _ h => (by cases h)⟩
theorem GoodB.put {St : Nat} {f : Nat → Nat} {D : DataW Unit} {T : Nat} (hS : St < 65536) (hT : T < 65536) (h : GoodB St f D) : GoodB St f (D.put (kB St T) (bdat (f T))) where
  tidy := h.tidy.put (law151.key (key151 St T hS hT)) _
  els T' hT' hh z := by
    by_cases e : kB St T' = kB St T
    · rw [e, atKey_put_same h.tidy.isMap (law151.key (key151 St T hS hT)), (kB_inj hS hT' hS hT e).2]
    · rw [atKey_put_other e]
      rw [has_put_other e] at hh
      exact h.els T' hT' hh z

end Go.Proofs.YtaloffdkadhhnaaDoor

namespace Go.Proofs.YtaloffdkadhhnaaDoor
open Go.RowKit Go.Shelf Go.Maps

attribute [local go_sem] Oper.semAt_some

theorem owns_alt {W W' : World} {b n : Nat} {D : DataW Unit} {p : Nat → Prop} (h : W.ownsMap Tryd.prog 151 bread b n D) (ha : Alt p W W') (hp : ¬ p b) : W'.ownsMap Tryd.prog 151 bread b n D := by
  obtain ⟨es, clock, hb, F, hs, hD⟩ := h
  exact ⟨es, clock, ha.obj hb hp, F, hs, hD⟩

/-- What leaves stands on. -/
structure LV (r : Rk) (St k : Nat) (cap : Array Value) (K : World → Prop) (cb : Lk → Bool) (l bK bF bS N0 n : Nat) (W : World) : Prop where
  y : Boxed W N0 137 (.func (.yield l) #[] #[])
  m : Boxed W (N0 + 2) 146 (.map (some (N0 + 1)))
  mem : ∃ D, W.ownsMap Tryd.prog 151 bread (N0 + 1) n D ∧ GoodB St (leftN r.ls cb St) D
  kb : Blk W bK (rCells r) 32
  f : Boxed W bF 109 (.func (.func k) #[] cap)
  s : Boxed W bS 100 (.int .u16 (St : Nat))
  fit : r.Fit W
  kw : K W
theorem LV.far {r : Rk} {St k : Nat} {cap : Array Value} {K : World → Prop} {cb : Lk → Bool} {l bK bF bS N0 n : Nat} {W W' : World} {p : Nat → Prop} (h : LV r St k cap K cb l bK bF bS N0 n W) (ha : Alt p W W')
    (h0 : ∀ i, N0 ≤ i → i < N0 + 3 → ¬ p i) (hk : ¬ p bK) (hf : ¬ p bF) (hs : ¬ p bS) (hl : ∀ g o, r.la = some ⟨g, o, none⟩ → ¬ p g) (ht : ¬ p 0) (hw : K W') : LV r St k cap K cb l bK bF bS N0 n W' := by
  obtain ⟨D, hD, hg⟩ := h.mem
  exact ⟨Boxed.alt h.y ha (h0 _ (by omega) (by omega)), Boxed.alt h.m ha (h0 _ (by omega) (by omega)), ⟨D, owns_alt hD ha (h0 _ (by omega) (by omega)), hg⟩, Blk.alt h.kb ha hk, Boxed.alt h.f ha hf, Boxed.alt h.s ha hs,
    ⟨h.fit.ok, h.fit.ls.alt ha hl, fun g o e => Nat.lt_of_lt_of_le (h.fit.la g o e) ha.size, h.fit.lk, h.fit.ln, h.fit.tab.alt ha ht⟩, hw⟩

theorem LV.up {r : Rk} {St k : Nat} {cap : Array Value} {K : World → Prop} {cb : Lk → Bool} {l bK bF bS N0 n : Nat} {W : World} (h : LV r St k cap K cb l bK bF bS N0 n W) : LV r St k cap K cb l bK bF bS N0 (n + 1) W := by
  obtain ⟨D, hD, hg⟩ := h.mem
  exact ⟨h.y, h.m, ⟨D, hD.mono (Nat.le_succ _), hg⟩, h.kb, h.f, h.s, h.fit, h.kw⟩
theorem LV.put {r : Rk} {St k : Nat} {cap : Array Value} {K : World → Prop} {cb : Lk → Bool} {l bK bF bS N0 n : Nat} {W W' : World} {D : DataW Unit} (h : LV r St k cap K cb l bK bF bS N0 n W) (ha : Alt (fun i => i = N0 + 1) W W')
    (hb : bK < N0 ∧ bF < N0 ∧ bS < N0) (hl : ∀ g o, r.la = some ⟨g, o, none⟩ → g < N0) (ht : 0 < N0) (hw : K W') (hD : W'.ownsMap Tryd.prog 151 bread (N0 + 1) (n + 1) D) (hg : GoodB St (leftN r.ls cb St) D) : LV r St k cap K cb l bK bF bS N0 (n + 1) W' :=
  ⟨Boxed.alt h.y ha (by omega), Boxed.alt h.m ha (by omega), ⟨D, hD, hg⟩, Blk.alt h.kb ha (by omega), Boxed.alt h.f ha (by omega), Boxed.alt h.s ha (by omega),
    ⟨h.fit.ok, h.fit.ls.alt ha (fun g o e => by have := hl g o e; omega), fun g o e => Nat.lt_of_lt_of_le (h.fit.la g o e) ha.size, h.fit.lk, h.fit.ln, h.fit.tab.alt ha (by omega)⟩, hw⟩

def RdL (r : Rk) (a : Option Addr) (RK : Nat → Prop) (bG bK bF bS : Nat) (k : Nat) : Prop :=
  k = bG ∨ k = bK ∨ k = bF ∨ k = bS ∨ (∃ o, a = some ⟨k, o, none⟩) ∨ (∃ o, r.la = some ⟨k, o, none⟩) ∨ k = 0 ∨ RK k

theorem choices_len : ∀ (ball : List Rg), (∀ x ∈ ball, wrongG x = false) → (choices ball).length ≤ 9 ^ ball.length
  | [], _ => by simp [choices]
  | b :: bs, h => by
    have h1 := choices_len bs (fun x hx => h x (by simp [hx]))
    have hw := h b (by simp)
    unfold wrongG at hw
    simp only [Bool.or_eq_false_iff, decide_eq_false_iff_not, Int.not_lt] at hw
    have h9 : spanN b ≤ 9 := by unfold spanN; omega
    have key : ∀ m, ((List.range m).flatMap fun (j : Nat) => (choices bs).map fun q => (b.lo + (j : Int)) :: q).length = m * (choices bs).length := fun m => by
      induction m with
      | zero => simp
      | succ m ih => rw [List.range_succ, List.flatMap_append, List.length_append, ih]; simp [Nat.succ_mul]
    show ((List.range (spanN b)).flatMap _).length ≤ _
    rw [key, List.length_cons, Nat.pow_succ, Nat.mul_comm]
    exact Nat.mul_le_mul h1 h9

theorem toCs_ok : ∀ (ball : List Rg) (x : List Int), (∀ b ∈ ball, wrongG b = false) → x ∈ choices ball → ∀ i, 0 ≤ x.getD i 0 ∧ x.getD i 0 ≤ 60
  | [], x, _, hx, i => by simp [choices] at hx; subst hx; simp
  | b :: bs, x, h, hx, i => by
    have hw := h b (by simp)
    unfold wrongG at hw
    simp only [Bool.or_eq_false_iff, decide_eq_false_iff_not, Int.not_lt] at hw
    unfold choices at hx
    obtain ⟨j, hj, hx⟩ := List.mem_flatMap.1 hx
    obtain ⟨q, hq, rfl⟩ := List.mem_map.1 hx
    have hj' := List.mem_range.1 hj
    unfold spanN at hj'
    cases i with
    | zero => simp; omega
    | succ i => simpa using toCs_ok bs q (fun b hb => h b (by simp [hb])) hq i

theorem choice_ok {ball : List Rg} {x : List Int} (h : ∀ b ∈ ball, wrongG b = false) (hx : x ∈ choices ball) : (toCs x).Ok := by
  have := toCs_ok ball x h hx
  have a0 := this 0; have a1 := this 1; have a2 := this 2; have a3 := this 3
  unfold toCs
  constructor <;> simp only <;> omega

structure AF (A1 : World) (St T : Nat) (w5 : World) (b9 : Nat) : Prop where
  lo : Below A1.heap.size A1 w5
  blk : Blk w5 b9 #[.int .u16 (St : Nat), .int .u16 (T : Nat)] 151
  ge : A1.heap.size ≤ b9
theorem blk_up {A1 w4 : World} {cs : Array Value} {t : TypeId} (h : Below (World.drew (A1.alloc (.cells cs t))).heap.size (World.drew (A1.alloc (.cells cs t))) w4) : Blk w4 A1.heap.size cs t :=
  Blk.alt (p := fun _ => False) (W := World.drew (A1.alloc (.cells cs t))) (Blk.new A1 cs t) (Alt.of_below h (fun k hk e => by omega)) id
theorem AF.mk1 {A1 w4 : World} {St T : Nat} (h : Below A1.heap.size A1 w4) : AF A1 St T (w4.alloc (.cells #[.int .u16 (St : Nat), .int .u16 (T : Nat)] 151)) w4.heap.size := ⟨below_go h (below_al w4 _), Blk.new _ _ _, h.size⟩
theorem AF.mk2 {A1 w4 : World} {St T : Nat} {x y : Value} (h : Below A1.heap.size A1 w4) (hk : Blk w4 A1.heap.size #[x, y] 151) : AF A1 St T ((w4.setCell ⟨A1.heap.size, 0, none⟩ (.int .u16 (St : Nat))).setCell ⟨A1.heap.size, 1, none⟩ (.int .u16 (T : Nat))) A1.heap.size :=
  ⟨((((Alt.of_below (p := fun k => A1.heap.size ≤ k) h (fun k _ e => e)).setCell (q := ⟨A1.heap.size, 0, none⟩) (Nat.le_refl _) _).setCell (q := ⟨A1.heap.size, 1, none⟩) (Nat.le_refl _) _).below (Nat.le_refl _) fun k e => e), Blk.set2 hk _ _, Nat.le_refl _⟩

set_option maxRecDepth 100000 in
set_option maxHeartbeats 8000000 in
theorem leaves_iter (r : Rk) (St : Nat) (ball : List Rg) (a : Option Addr) (c k : Nat) (cap : Array Value) (K : World → Prop) (RK : Nat → Prop) (cb : Lk → Bool) (bG bK bF bS : Nat) (w : World)
    (hc : Carry k cap K cb w.heap.size) (hKR : ∀ A B, K A → Alt (fun k => ¬ RK k) A B → K B) (hRK : ∀ k, RK k → k < w.heap.size)
    (hG : Boxed w bG 51 (.slice a ball.length c)) (hR : RgsAt w a ball) (hga : ∀ g o, a = some ⟨g, o, none⟩ → g < w.heap.size) (hn : ball.length ≤ 4) (hw : ∀ x ∈ ball, wrongG x = false)
    (hKb : Blk w bK (rCells r) 32) (hF : Boxed w bF 109 (.func (.func k) #[] cap)) (hS : Boxed w bS 100 (.int .u16 (St : Nat))) (hfit : r.Fit w) (hSt : St < 65536) (hp : ∀ x ∈ els St, x < pinsN r.rows) (hK0 : K w) :
    IterA Tryd.prog 98 #[.pointer (some ⟨bG, 0, none⟩), .pointer (some ⟨bK, 0, none⟩), .pointer (some ⟨bF, 0, none⟩), .pointer (some ⟨bS, 0, none⟩)] (fun x : Nat => #[Value.int .u16 (x : Nat)]) ((choices ball).map fun x => hitN r (toCs x) cb St) 9 (RdL r a RK bG bK bF bS) w := by
  intro l J Jx W hW hJ hJx hY h0
  obtain ⟨f, hf⟩ : ∃ f : List Int → Nat, Hid (f = fun x => hitN r (toCs x) cb St) := ⟨_, Lib.hid rfl⟩
  rw [← hf.out] at hY
  rw [← hf.out]
  have hz := hW.size
  have hGW := Boxed.alt hG hW (by unfold RdL; simp)
  have hRW := hR.alt hW (fun g o e h => h (by unfold RdL; exact .inr (.inr (.inr (.inr (.inl ⟨o, e⟩))))))
  have hKW := Blk.alt hKb hW (by unfold RdL; simp)
  have hFW := Boxed.alt hF hW (by unfold RdL; simp)
  have hSW := Boxed.alt hS hW (by unfold RdL; simp)
  have hfW : r.Fit W := ⟨hfit.ok, hfit.ls.alt hW (fun g o e h => h (by unfold RdL; exact .inr (.inr (.inr (.inr (.inr (.inl ⟨o, e⟩))))))), fun g o e => Nat.lt_of_lt_of_le (hfit.la g o e) hz, hfit.lk, hfit.ln, hfit.tab.alt hW (by unfold RdL; simp)⟩
  have hkW : K W := hKR _ _ hK0 (hW.mono fun k _ h e => h (by unfold RdL; exact .inr (.inr (.inr (.inr (.inr (.inr (.inr e))))))))
  have hgW : ∀ g o, a = some ⟨g, o, none⟩ → g < W.heap.size := fun g o e => Nat.lt_of_lt_of_le (hga g o e) hz
  have hRKW : ∀ k, RK k → k < W.heap.size := fun k h => Nat.lt_of_lt_of_le (hRK k h) hz
  have lG := hGW.lt
  have lK := hKW.lt
  have lF := hFW.lt
  have lS := hSW.lt
  have lT := tab_pos hfW.tab
  have hlen := choices_len ball hw
  have h94 : 9 ^ ball.length ≤ 6561 := by
    match ball.length, hn with
    | 0, _ => decide
    | 1, _ => decide
    | 2, _ => decide
    | 3, _ => decide
    | 4, _ => decide
    | n + 5, h => omega
  have hlW : ∀ g o, r.la = some ⟨g, o, none⟩ → g < W.heap.size := hfW.la
  have hst : ∀ (A B : World) (n : Nat), LV r St k cap K cb l bK bF bS W.heap.size n A → Alt (fun k => W.heap.size + 4 ≤ k) A B → LV r St k cap K cb l bK bF bS W.heap.size n B := fun A B n h hAB =>
    h.far hAB (fun i h1 h2 => by omega) (by omega) (by omega) (by omega) (fun g o e => by have := hlW g o e; omega) (by omega) (hKR _ _ h.kw (hAB.mono fun k _ e h => by have := hRKW k h; omega))
  obtain ⟨W4, hW4⟩ : ∃ W4, Hid (W4 = (((W.alloc (.cells #[.func (.yield l) #[] #[]] 137)).alloc (.map #[] 0)).alloc (.cells #[.map (some (W.heap.size + 1))] 146)).alloc (.cells #[.slice a ball.length c] 51)) := ⟨_, Lib.hid rfl⟩
  have X4 : ∀ p, Alt p W W4 := fun p => by rw [hW4.out]; exact ((((Alt.refl _ _).alloc _).alloc _).alloc _).alloc _
  have z4 : W4.heap.size = W.heap.size + 4 := by rw [hW4.out]; simp
  have L4 : LV r St k cap K cb l bK bF bS W.heap.size 0 W4 := by
    have hy : Boxed W4 W.heap.size 137 (.func (.yield l) #[] #[]) := by
      rw [hW4.out]; exact Boxed.alt (p := fun _ => False) (Boxed.new W 137 _) ((((Alt.refl _ _).alloc _).alloc _).alloc _) id
    have hm : Boxed W4 (W.heap.size + 2) 146 (.map (some (W.heap.size + 1))) := by
      rw [hW4.out]
      have := Boxed.alt (p := fun _ => False) (Boxed.new ((W.alloc (.cells #[.func (.yield l) #[] #[]] 137)).alloc (.map #[] 0)) 146 (.map (some (W.heap.size + 1)))) ((Alt.refl _ _).alloc (.cells #[.slice a ball.length c] 51)) id
      rwa [World.size_alloc, World.size_alloc] at this
    have ho : W4.ownsMap Tryd.prog 151 bread (W.heap.size + 1) 0 (.map []) := by
      rw [hW4.out]
      have := World.ownsMap_made (W.alloc (.cells #[.func (.yield l) #[] #[]] 137)) Tryd.prog 151 bread
      rw [World.size_alloc] at this
      exact owns_alt (p := fun _ => False) this (((Alt.refl _ _).alloc _).alloc _) id
    exact ⟨hy, hm, ⟨_, ho, goodB_empty _ _⟩, Blk.alt hKW (X4 fun _ => False) id, Boxed.alt hFW (X4 fun _ => False) id, Boxed.alt hSW (X4 fun _ => False) id,
      ⟨hfW.ok, hfW.ls.alt (X4 fun _ => False) (fun _ _ _ => id), fun g o e => by have := hfW.la g o e; omega, hfW.lk, hfW.ln, hfW.tab.alt (X4 fun _ => False) id⟩, hKR _ _ hkW (X4 _)⟩
  have CI := course_iter ball a c (W.heap.size + 3) W4 (by
      rw [hW4.out]
      have := Boxed.new (((W.alloc (.cells #[.func (.yield l) #[] #[]] 137)).alloc (.map #[] 0)).alloc (.cells #[.map (some (W.heap.size + 1))] 146)) 51 (.slice a ball.length c)
      rwa [World.size_alloc, World.size_alloc, World.size_alloc] at this) (hRW.alt (X4 fun _ => False) (fun _ _ _ => id)) (fun g o e => by have := hgW g o e; omega) hn hw
  have J4 := hJ _ _ _ h0 (X4 _)
  have CO := Lib.hid (fun W => callsIn_wide (n := 0).2 (courses_any a ball.length c W))
  have hmm := @run_makeMap Tryd.prog
  have cG : (((W.alloc (.cells #[.func (.yield l) #[] #[]] 137)).alloc (.map #[] 0)).alloc (.cells #[.map (some (W.heap.size + 1))] 146)).cell? ⟨bG, 0, none⟩ = some (.slice a ball.length c) :=
    (Boxed.alt (p := fun _ => False) hGW ((((Alt.refl _ _).alloc _).alloc _).alloc _) id).cell
  have hc4 := hc.up (n1 := W.heap.size) hz
  clear hG hR hga hKb hF hS hfit hK0 hRK hW h0 hGW hRW hKW hFW hSW hkW hc hfW X4 hz
  have HW4 := hW4
  have HCI := Lib.hid CI
  have HL4 := Lib.hid L4
  have HJ4 := Lib.hid J4
  have HY := Lib.hid hY
  clear hW4 CI L4 J4 hY
  refine callsIn_of_wp_marks Tryd.func98 rfl trivial ?_ rfl
  simp only [Tryd.ntmps98, List.size_toArray, List.length_cons, List.length_nil, Nat.reduceAdd, Nat.reduceSub, Array.replicate_succ, Array.replicate_zero, List.push_toArray, List.append_toArray, List.nil_append, List.cons_append]
  gi_wp2
  refine ⟨trivial, rfl, ?_⟩
  refine (CO.out _).mono ?_
  rintro e w1 ⟨rfl, rfl⟩
  gi_wp2
  have hWo := HW4.out
  rw [← hWo]
  clear hWo CO hmm cG
  have hRd4 : ∀ k, RdL r a RK bG bK bF bS k → k < W.heap.size := fun k h => by
    unfold RdL at h
    rcases h with rfl | rfl | rfl | rfl | ⟨o, e⟩ | ⟨o, e⟩ | rfl | h
    · exact lG
    · exact lK
    · exact lF
    · exact lS
    · exact hgW _ _ e
    · exact hlW _ _ e
    · exact lT
    · exact hRKW _ h
  have HRd := Lib.hid hRd4
  refine wp_iter (gf := 113) (lb := #[.pointer (some ⟨W.heap.size + 1 + 1 + 1, 0, none⟩)]) rfl eg113 HCI.out (fun k h => ?rd) (fun _ => rfl)
    (fun k => k = W.heap.size + 1 ∨ ¬ (RdL r a RK bG bK bF bS k ∨ Rng W.heap.size 9 k)) (fun k h => ?hM)
    (fun pre A => J (pre.map f) A ∧ LV r St k cap K cb l bK bF bS W.heap.size pre.length A)
    (fun pre x a1 A => (J (pre.map f) A ∧ LV r St k cap K cb l bK bF bS W.heap.size pre.length A) ∧ ∃ b7, W.heap.size + 9 ≤ b7 ∧ Blk A b7 #[.int .i64 (toCs x).b0, .int .i64 (toCs x).b1, .int .i64 (toCs x).b2, .int .i64 (toCs x).b3] 111 ∧
      a1 = { tmps := #[.func (.yield l) #[] #[], .pointer (some ⟨bG, 0, none⟩), .pointer (some ⟨bK, 0, none⟩), .pointer (some ⟨bF, 0, none⟩), .pointer (some ⟨bS, 0, none⟩), .pointer (some ⟨W.heap.size, 0, none⟩), .pointer (some ⟨W.heap.size + 1 + 1, 0, none⟩), .pointer (some ⟨b7, 0, none⟩), undef, undef, undef, undef, .map (some (W.heap.size + 1)), .slice a ball.length c, .func (.func 113) #[] #[.pointer (some ⟨W.heap.size + 1 + 1 + 1, 0, none⟩)], .agg #[.int .i64 (toCs x).b0, .int .i64 (toCs x).b1, .int .i64 (toCs x).b2, .int .i64 (toCs x).b3], undef, undef, undef, undef, undef, undef, undef, undef, undef, undef, undef, undef, undef, undef, undef, undef, undef, undef, undef, undef, undef, undef, undef, undef, undef, undef, undef, undef, undef], defers := [] })
    (fun cd pre A => cd = Code.ret ∧ Jx (pre.map f) A)
    (fun pre A B h hAB => ?stI) (fun pre x a A B h hAB => ?stM) (fun cd pre A B h hAB => ?stX) ⟨by simpa using HJ4.out, HL4.out⟩ ?assign ?body ?done ?stop
  case rd =>
    rcases h with rfl | ⟨o, e⟩
    · omega
    · have := hgW _ _ e; omega
  case hM =>
    rcases h with rfl | h
    · refine ⟨fun h => ?_, fun h => by unfold Rng at h; omega⟩
      rcases h with h | ⟨o, e⟩
      · omega
      · have := hgW _ _ e; omega
    · refine ⟨fun h2 => ?_, fun h2 => h (.inr (by unfold Rng at *; omega))⟩
      rcases h2 with rfl | ⟨o, e⟩
      · exact h (.inr (by unfold Rng; omega))
      · exact h (.inl (by unfold RdL; exact .inr (.inr (.inr (.inr (.inl ⟨o, e⟩))))))
  case stI => exact ⟨hJ _ _ _ h.1 (hAB.mono fun k _ e => by unfold Rng at *; omega), hst _ _ _ h.2 (hAB.mono fun k _ e => by unfold Rng at e; omega)⟩
  case stM =>
    obtain ⟨h, b7, hb7, k7, e⟩ := h
    exact ⟨⟨hJ _ _ _ h.1 (hAB.mono fun k _ e => by unfold Rng at *; omega), hst _ _ _ h.2 (hAB.mono fun k _ e => by unfold Rng at e; omega)⟩, b7, hb7, Blk.alt k7 hAB (fun e => by unfold Rng at e; omega), e⟩
  case stX => exact ⟨h.1, hJx _ _ _ h.2 (hAB.mono fun k _ e => by unfold Rng at *; omega)⟩
  case assign =>
    intro l2 pre x post A hx hz2 hl2 hr h
    have HX := Lib.hid (show W.heap.size + 9 ≤ A.heap.size by omega)
    have HH := Lib.hid h
    unfold Cs.val
    clear hx hz2 hl2 hr h hRd4
    gi_wp2
    exact ⟨(Alt.refl _ _).alloc _, ⟨hJ _ _ _ HH.out.1 ((Alt.refl _ _).alloc _), hst _ _ _ HH.out.2 ((Alt.refl _ _).alloc _)⟩, A.heap.size, HX.out, Blk.new _ _ _, rfl⟩
  case body =>
    rintro l2 pre x post a1 A hx hzA hl2 hr ⟨⟨hj, hlv⟩, b7, hb7, k7, rfl⟩
    have hmem : x ∈ choices ball := by rw [hx]; simp
    have oc := choice_ok hw hmem
    have hln : pre.length < 6561 := by have := congrArg List.length hx; simp at this; omega
    have hfx : f x = leftN r.ls cb St (touchN r (toCs x) St) := by rw [hf.out]; rfl
    have HM : (choices ball).map f = pre.map f ++ f x :: post.map f := by rw [hx]; simp
    have YY := Lib.hid (fun A' hz hj => HY.out (pre.map f) (f x) (post.map f) A' HM hz hj)
    have HPM := Lib.hid (show (pre ++ [x]).map f = pre.map f ++ [f x] by simp)
    have HPL := Lib.hid (show (pre ++ [x]).length = pre.length + 1 by simp)
    have TO := Lib.hid (fun W' (hL : LV r St k cap K cb l bK bF bS W.heap.size pre.length W') => callsIn_wide (n := 0).2 (touched_any r (toCs x) k cap St W' hL.fit.ok oc hSt hp hL.fit.tab))
    have LB := Lib.hid (fun W' (hz : W.heap.size ≤ W'.heap.size) (hL : LV r St k cap K cb l bK bF bS W.heap.size pre.length W') => callsIn_wide (n := 0).2 (leftBy_any r (toCs x) k cap St (touchN r (toCs x) St) K cb W' (hc4.up hz).st hL.kw hc4.ek hc4.cf hL.fit.la hL.fit.lk hL.fit.ln hL.fit.ls hSt (touchN_lt r _ St) hL.fit.tab))
    have hT16 := touchN_lt r (toCs x) St
    have HZA := Lib.hid (show W.heap.size + 9 ≤ A.heap.size by omega)
    clear hx HM hmem oc hr hl2 hw hp HY hRd4 hzA
    generalize f x = N at *
    generalize touchN r (toCs x) St = T at *
    rw [← hfx] at LB
    have HNT := Lib.hid hfx
    clear hfx
    unfold sVal sCells at TO LB
    generalize (toCs x).b0 = x0 at *
    generalize (toCs x).b1 = x1 at *
    generalize (toCs x).b2 = x2 at *
    generalize (toCs x).b3 = x3 at *
    have HJ := Lib.hid hj
    have HLV := Lib.hid hlv
    have s0 := k7.cell 0 (show _ = some (Value.int .i64 x0) from rfl)
    have s1 := k7.cell 1 (show _ = some (Value.int .i64 x1) from rfl)
    have s2 := k7.cell 2 (show _ = some (Value.int .i64 x2) from rfl)
    have s3 := k7.cell 3 (show _ = some (Value.int .i64 x3) from rfl)
    have r0 : A.cell? ⟨bK, 0, none⟩ = some (.int .i64 r.rows) := hlv.kb.cell 0 rfl
    have r1 : A.cell? ⟨bK, 1, none⟩ = some (.int .i64 r.mid) := hlv.kb.cell 1 rfl
    have r2 : A.cell? ⟨bK, 2, none⟩ = some (.int .i64 r.gap) := hlv.kb.cell 2 rfl
    have r3 : A.cell? ⟨bK, 3, none⟩ = some (.int .i64 r.reach) := hlv.kb.cell 3 rfl
    have r4 : A.cell? ⟨bK, 4, none⟩ = some (.slice r.la r.ls.length r.lc) := hlv.kb.cell 4 rfl
    have cf := hlv.f.cell
    have cs := hlv.s.cell
    obtain ⟨A1, hA1⟩ : ∃ A1, Hid (A1 = A.alloc (.cells #[.int .i64 r.rows, .int .i64 r.mid, .int .i64 r.gap, .int .i64 r.reach, .slice r.la r.ls.length r.lc, .int .i64 x0, .int .i64 x1, .int .i64 x2, .int .i64 x3, .func (.func k) #[] cap, .int .u16 (St : Nat)] 115)) := ⟨_, Lib.hid rfl⟩
    have XA1 : ∀ p, Alt p A A1 := fun p => by rw [hA1.out]; exact (Alt.refl _ _).alloc _
    have S1 : Hid (Blk A1 A.heap.size #[.int .i64 r.rows, .int .i64 r.mid, .int .i64 r.gap, .int .i64 r.reach, .slice r.la r.ls.length r.lc, .int .i64 x0, .int .i64 x1, .int .i64 x2, .int .i64 x3, .func (.func k) #[] cap, .int .u16 (St : Nat)] 115) := Lib.hid (by rw [hA1.out]; exact Blk.new _ _ _)
    have ZA1 := Lib.hid (show A1.heap.size = A.heap.size + 1 by rw [hA1.out]; simp)
    have J1 := Lib.hid (hJ _ _ _ hj (XA1 _))
    have LV1 := Lib.hid (hst _ _ _ hlv (XA1 _))
    have AA1 : Hid (Alt (fun k => k = W.heap.size + 1 ∨ ¬ (RdL r a RK bG bK bF bS k ∨ Rng W.heap.size 9 k)) A A1) := Lib.hid (XA1 _)
    clear hj hlv k7 XA1
    gi_wp2
    have hAo := hA1.out
    rw [← hAo]
    clear hAo hA1 s0 s1 s2 s3 r0 r1 r2 r3 r4 cf cs
    gi_cut [9] from 22 (fun s9 wx => ∃ b9, s9 = .pointer (some ⟨b9, 0, none⟩) ∧ Hid (AF A1 St T wx b9))
    case first =>
      have TOL := Lib.hid (fun W' (hb : Below A1.heap.size A1 W') => CallsIn.inRound l2 (TO.out W' (hst _ _ _ LV1.out (Alt.of_below hb (fun k hk e => by have := ZA1.out; have := HZA.out; omega)))))
      have hmx : Tryd.prog.follows .mixedOrders = true := by kernel_rfl
      have s0 : A1.cell? ⟨A.heap.size, 0, none⟩ = some (.int .i64 r.rows) := S1.out.cell 0 rfl
      have s1 : A1.cell? ⟨A.heap.size, 1, none⟩ = some (.int .i64 r.mid) := S1.out.cell 1 rfl
      have s2 : A1.cell? ⟨A.heap.size, 2, none⟩ = some (.int .i64 r.gap) := S1.out.cell 2 rfl
      have s3 : A1.cell? ⟨A.heap.size, 3, none⟩ = some (.int .i64 r.reach) := S1.out.cell 3 rfl
      have s4 : A1.cell? ⟨A.heap.size, 4, none⟩ = some (.slice r.la r.ls.length r.lc) := S1.out.cell 4 rfl
      have s5 : A1.cell? ⟨A.heap.size, 5, none⟩ = some (.int .i64 x0) := S1.out.cell 5 rfl
      have s6 : A1.cell? ⟨A.heap.size, 6, none⟩ = some (.int .i64 x1) := S1.out.cell 6 rfl
      have s7 : A1.cell? ⟨A.heap.size, 7, none⟩ = some (.int .i64 x2) := S1.out.cell 7 rfl
      have s8 : A1.cell? ⟨A.heap.size, 8, none⟩ = some (.int .i64 x3) := S1.out.cell 8 rfl
      have s9 : A1.cell? ⟨A.heap.size, 9, none⟩ = some (.func (.func k) #[] cap) := S1.out.cell 9 rfl
      have s10 : A1.cell? ⟨A.heap.size, 10, none⟩ = some (.int .u16 (St : Nat)) := S1.out.cell 10 rfl
      have cs := LV1.out.s.cell
      have e0 : (A1.alloc (.cells #[.int .u16 0, .int .u16 0] 151)).cell? ⟨A.heap.size, 0, none⟩ = some (.int .i64 r.rows) := cell_lo (below_al A1 _) s0
      have e1 : (A1.alloc (.cells #[.int .u16 0, .int .u16 0] 151)).cell? ⟨A.heap.size, 1, none⟩ = some (.int .i64 r.mid) := cell_lo (below_al A1 _) s1
      have e2 : (A1.alloc (.cells #[.int .u16 0, .int .u16 0] 151)).cell? ⟨A.heap.size, 2, none⟩ = some (.int .i64 r.gap) := cell_lo (below_al A1 _) s2
      have e3 : (A1.alloc (.cells #[.int .u16 0, .int .u16 0] 151)).cell? ⟨A.heap.size, 3, none⟩ = some (.int .i64 r.reach) := cell_lo (below_al A1 _) s3
      have e4 : (A1.alloc (.cells #[.int .u16 0, .int .u16 0] 151)).cell? ⟨A.heap.size, 4, none⟩ = some (.slice r.la r.ls.length r.lc) := cell_lo (below_al A1 _) s4
      have e5 : (A1.alloc (.cells #[.int .u16 0, .int .u16 0] 151)).cell? ⟨A.heap.size, 5, none⟩ = some (.int .i64 x0) := cell_lo (below_al A1 _) s5
      have e6 : (A1.alloc (.cells #[.int .u16 0, .int .u16 0] 151)).cell? ⟨A.heap.size, 6, none⟩ = some (.int .i64 x1) := cell_lo (below_al A1 _) s6
      have e7 : (A1.alloc (.cells #[.int .u16 0, .int .u16 0] 151)).cell? ⟨A.heap.size, 7, none⟩ = some (.int .i64 x2) := cell_lo (below_al A1 _) s7
      have e8 : (A1.alloc (.cells #[.int .u16 0, .int .u16 0] 151)).cell? ⟨A.heap.size, 8, none⟩ = some (.int .i64 x3) := cell_lo (below_al A1 _) s8
      have e9 : (A1.alloc (.cells #[.int .u16 0, .int .u16 0] 151)).cell? ⟨A.heap.size, 9, none⟩ = some (.func (.func k) #[] cap) := cell_lo (below_al A1 _) s9
      have e10 : (A1.alloc (.cells #[.int .u16 0, .int .u16 0] 151)).cell? ⟨A.heap.size, 10, none⟩ = some (.int .u16 (St : Nat)) := cell_lo (below_al A1 _) s10
      have es : (A1.alloc (.cells #[.int .u16 0, .int .u16 0] 151)).cell? ⟨bS, 0, none⟩ = some (.int .u16 (St : Nat)) := cell_lo (below_al A1 _) cs
      clear TO hf HCI HL4 HJ4 HW4 hlen h94 HLV HJ
      gi_region_with_o (first
        | ((refine ⟨trivial, rfl, ?_⟩); (with_reducible refine (TOL.out (World.drew A1) (Below.refl _ _).drew).mono ?_); rintro e w4 ⟨rfl, hb4⟩; have B4 : Hid (Below A1.heap.size A1 w4) := Lib.hid (below_go (Below.refl _ A1).drew hb4); have cs4 := cell_lo B4.out cs; have cs5 : (w4.alloc (.cells #[.int .u16 0, .int .u16 0] 151)).cell? ⟨bS, 0, none⟩ = some (.int .u16 (St : Nat)) := cell_lo (below_al w4 _) cs4; clear hb4)
        | ((refine ⟨trivial, rfl, ?_⟩); (with_reducible refine (TOL.out (World.drew (World.alloc A1 (.cells #[.int .u16 0, .int .u16 0] 151))) ((Below.refl _ _).alloc (Nat.le_refl _) _).drew).mono ?_); rintro e w4 ⟨rfl, hb4⟩; have B4 : Hid (Below A1.heap.size A1 w4) := Lib.hid (below_go ((Below.refl _ A1).alloc (Nat.le_refl _) _).drew hb4); have cs4 := cell_lo B4.out cs; have K4 : Hid (Blk w4 A1.heap.size #[.int .u16 0, .int .u16 0] 151) := Lib.hid (blk_up hb4); have u0 : w4.cell? ⟨A1.heap.size, 0, none⟩ = some (.int .u16 0) := K4.out.cell 0 rfl; have u1 : w4.cell? ⟨A1.heap.size, 1, none⟩ = some (.int .u16 0) := K4.out.cell 1 rfl; have f0 := K4.out.fr 0; have f1 := K4.out.fr 1; clear hb4))
      all_goals gi_wp2
      all_goals gi_meet
      all_goals first | exact ⟨_, rfl, Lib.hid (AF.mk1 B4.out)⟩ | exact ⟨_, rfl, Lib.hid (AF.mk2 B4.out K4.out)⟩
    case rest =>
      obtain ⟨b9, rfl, hAF⟩ := hcut
      clear TO
      have XC : ∀ p : Nat → Prop, (∀ k, A1.heap.size ≤ k → p k) → Alt p A1 wc := fun p h => Alt.of_below hAF.out.lo (fun k _ e => h k e)
      have LVC := Lib.hid (hst _ _ _ LV1.out (XC (fun k => W.heap.size + 4 ≤ k) (fun k e => by have := ZA1.out; have := HZA.out; omega)))
      have JC := Lib.hid (hJ _ _ _ J1.out (Alt.of_below hAF.out.lo (fun k hk e => by omega)))
      have AC := Lib.hid (AA1.out.trans (Alt.of_below hAF.out.lo (fun k hk e => by omega)))
      have ZC := Lib.hid (show W.heap.size + 9 ≤ wc.heap.size by have := hAF.out.lo.size; have := ZA1.out; have := HZA.out; omega)
      have SC := Lib.hid (Blk.alt S1.out (XC (fun k => A1.heap.size ≤ k) (fun k e => e)) (by have := ZA1.out; omega))
      have hsy : ∀ (A B : World) (n : Nat), LV r St k cap K cb l bK bF bS W.heap.size n A → Alt (fun k => ¬ (RdL r a RK bG bK bF bS k ∨ Rng W.heap.size 9 k)) A B → LV r St k cap K cb l bK bF bS W.heap.size n B := fun A B n h hAB =>
        h.far hAB (fun i h1 h2 e => e (.inr (by unfold Rng; omega))) (fun e => e (.inl (by unfold RdL; simp))) (fun e => e (.inl (by unfold RdL; simp))) (fun e => e (.inl (by unfold RdL; simp)))
          (fun g o h e => e (.inl (by unfold RdL; exact .inr (.inr (.inr (.inr (.inr (.inl ⟨o, h⟩)))))))) (fun e => e (.inl (by unfold RdL; simp))) (hKR _ _ h.kw (hAB.mono fun k _ h e => h (.inl (by unfold RdL; simp [e]))))
      obtain ⟨D, hown, hgood⟩ := LVC.out.mem
      have hkey := key151 St T hSt hT16
      obtain ⟨v1, ps, hrun, hv⟩ := World.ownsMap.look_ok hown law151 Tryd.underlying146 (zero100 wc) (bread_val 0) hkey
      have cm : wc.cell? ⟨W.heap.size + 1 + 1, 0, none⟩ = some (.map (some (W.heap.size + 1))) := LVC.out.m.cell
      have k90 : wc.cell? ⟨b9, 0, none⟩ = some (.int .u16 (St : Nat)) := hAF.out.blk.cell 0 rfl
      have k91 : wc.cell? ⟨b9, 1, none⟩ = some (.int .u16 (T : Nat)) := hAF.out.blk.cell 1 rfl
      have HG := Lib.hid hgood
      have HK := Lib.hid hkey
      unfold blowV at hrun
      clear hkey XC S1 LV1 J1 AA1 ZA1 hf HCI HL4 HJ4 HW4 HLV HJ
      cases hh : Maps.has D (kB St T)
      · rw [hh] at hrun
        clear hv hh hgood hown
        have q0 : wc.cell? ⟨A.heap.size, 0, none⟩ = some (.int .i64 r.rows) := SC.out.cell 0 rfl
        have q1 : wc.cell? ⟨A.heap.size, 1, none⟩ = some (.int .i64 r.mid) := SC.out.cell 1 rfl
        have q2 : wc.cell? ⟨A.heap.size, 2, none⟩ = some (.int .i64 r.gap) := SC.out.cell 2 rfl
        have q3 : wc.cell? ⟨A.heap.size, 3, none⟩ = some (.int .i64 r.reach) := SC.out.cell 3 rfl
        have q4 : wc.cell? ⟨A.heap.size, 4, none⟩ = some (.slice r.la r.ls.length r.lc) := SC.out.cell 4 rfl
        have q5 : wc.cell? ⟨A.heap.size, 5, none⟩ = some (.int .i64 x0) := SC.out.cell 5 rfl
        have q6 : wc.cell? ⟨A.heap.size, 6, none⟩ = some (.int .i64 x1) := SC.out.cell 6 rfl
        have q7 : wc.cell? ⟨A.heap.size, 7, none⟩ = some (.int .i64 x2) := SC.out.cell 7 rfl
        have q8 : wc.cell? ⟨A.heap.size, 8, none⟩ = some (.int .i64 x3) := SC.out.cell 8 rfl
        have q9 : wc.cell? ⟨A.heap.size, 9, none⟩ = some (.func (.func k) #[] cap) := SC.out.cell 9 rfl
        have q10 : wc.cell? ⟨A.heap.size, 10, none⟩ = some (.int .u16 (St : Nat)) := SC.out.cell 10 rfl
        have LBC := Lib.hid (CallsIn.inRound l2 (LB.out wc (by have := ZC.out; omega) LVC.out))
        have BLK := Lib.hid hAF.out.blk
        clear LB
        gi_wp2
        refine ⟨trivial, rfl, ?_⟩
        refine LBC.out.mono ?_
        rintro e w6 ⟨rfl, hb6⟩
        have LV6 := Lib.hid (hst _ _ _ LVC.out (Alt.of_below hb6 (fun k hk e => by have := ZC.out; omega)))
        have J6 := Lib.hid (hJ _ _ _ JC.out (Alt.of_below hb6 (fun k hk e => by omega)))
        have A6 := Lib.hid (AC.out.trans (Alt.of_below hb6 (fun k hk e => by omega)))
        have Z6 := Lib.hid (Nat.le_trans ZC.out hb6.size)
        have B6 := Lib.hid (Blk.alt BLK.out (Alt.of_below (p := fun _ => False) hb6 (fun k hk e => by omega)) id)
        obtain ⟨D6, hown6, hgood6⟩ := LV6.out.mem
        obtain ⟨w7, hrun7, hown7, hgr7⟩ := World.ownsMap.update hown6 law151 Tryd.underlying146 (by unfold maxLen; omega) HK.out (bread_val N)
        unfold blowV at hrun7
        have cm6 : w6.cell? ⟨W.heap.size + 1 + 1, 0, none⟩ = some (.map (some (W.heap.size + 1))) := LV6.out.m.cell
        have k60 : w6.cell? ⟨b9, 0, none⟩ = some (.int .u16 (St : Nat)) := B6.out.cell 0 rfl
        have k61 : w6.cell? ⟨b9, 1, none⟩ = some (.int .u16 (T : Nat)) := B6.out.cell 1 rfl
        have g7 := (Alt.refl (fun k => k = W.heap.size + 1) w6).grown hgr7 (fun k h => (Option.some.inj h).symm)
        have LV7 := Lib.hid (LV.put LV6.out g7 ⟨lK, lF, lS⟩ hlW lT (hKR _ _ LV6.out.kw (g7.mono fun k _ e h => by have := hRKW k h; omega)) hown7 (by rw [HNT.out]; exact hgood6.put hSt hT16))
        have J7 := Lib.hid (hJ _ _ _ J6.out (g7.mono fun k _ e => by unfold Rng; omega))
        have A7 := Lib.hid (A6.out.trans (g7.mono fun k _ e => .inl e))
        have Z7 := Lib.hid (Nat.le_trans Z6.out g7.size)
        clear hrun k90 k91 cm q0 q1 q2 q3 q4 q5 q6 q7 q8 q9 q10 g7 hgr7 hown7 hown6 hgood6 hb6 LBC
        have cy : w7.cell? ⟨W.heap.size, 0, none⟩ = some (.func (.yield l) #[] #[]) := LV7.out.y.cell
        obtain ⟨fn, tmps, assign, body, hy, hR⟩ := YY.out w7 Z7.out J7.out
        clear hst hJ hJx YY
        gi_wp2
        refine ⟨rfl, hR.mono ?_⟩
        rintro e w8 ⟨h8, a8⟩
        have A8 := Lib.hid (A7.out.trans (a8.mono fun k _ h => .inr h))
        have LV8 := Lib.hid (hsy _ _ _ LV7.out a8)
        clear a8 cy hy hR
        rcases h8 with ⟨rfl, j8⟩ | ⟨rfl, j8⟩
        · gi_wp2
          exact ⟨A8.out, by rw [HPM.out]; exact j8, by rw [HPL.out]; exact LV8.out⟩
        · gi_wp2
          exact ⟨A8.out, rfl, by rw [HPM.out]; exact j8⟩
      · rw [hh] at hrun
        have hv1 : v1 = .int .u16 (N : Nat) := bread_inv (ps := ps) (by rw [hv, hgood.els T hT16 hh, ← HNT.out])
        subst hv1
        have LVZ := Lib.hid LVC.out.up
        clear hv hh hgood hown LB LVC HG
        have cy : wc.cell? ⟨W.heap.size, 0, none⟩ = some (.func (.yield l) #[] #[]) := LVZ.out.y.cell
        obtain ⟨fn, tmps, assign, body, hy, hR⟩ := YY.out wc ZC.out JC.out
        clear hst hJ hJx YY
        gi_wp2
        refine ⟨rfl, hR.mono ?_⟩
        rintro e w8 ⟨h8, a8⟩
        have A8 := Lib.hid (AC.out.trans (a8.mono fun k _ h => .inr h))
        have LV8 := Lib.hid (hsy _ _ _ LVZ.out a8)
        clear a8 cy hy hR
        rcases h8 with ⟨rfl, j8⟩ | ⟨rfl, j8⟩
        · gi_wp2
          exact ⟨A8.out, by rw [HPM.out]; exact j8, by rw [HPL.out]; exact LV8.out⟩
        · gi_wp2
          exact ⟨A8.out, rfl, by rw [HPM.out]; exact j8⟩
  case done =>
    rintro B ⟨h1, h2⟩ hzB hK'
    have H1 := Lib.hid (hJ _ _ _ h1 (Alt.put (p := Rng W.heap.size 9) (l := W4.heap.size) (by unfold Rng; omega) (.deferred none)))
    clear hRd4 z4
    gi_wp2
    show bodyPostM Fence.wide 0 Tryd.prog Tryd.f98 _ Exit.ret _ _
    exact leave_ret hK' (results_none rfl _ _ _) ⟨⟨_, rfl⟩, .inl H1.out⟩
  case stop =>
    rintro cd pre x post B hx ⟨rfl, h⟩ hzB hK'
    have H1 := Lib.hid (hJx _ _ _ h (Alt.put (p := Rng W.heap.size 9) (l := W4.heap.size) (by unfold Rng; omega) (.deferred none)))
    have HX : Hid (∃ p y q, (choices ball).map f = p ++ y :: q ∧ Jx (p ++ [y]) (B.putObj W4.heap.size (.deferred none))) := Lib.hid ⟨pre.map f, f x, post.map f, by rw [hx]; simp, by simpa using H1.out⟩
    clear hRd4 z4 hx
    gi_wp2
    exact leave_ret hK' (results_none rfl _ _ _) ⟨⟨_, rfl⟩, .inr HX.out⟩

end Go.Proofs.YtaloffdkadhhnaaDoor

namespace Go.Proofs.YtaloffdkadhhnaaDoor
open Go.RowKit Go.Shelf Go.Maps

attribute [local go_sem] Oper.semAt_some

theorem eg98 : ∀ args w, (callFunc 98 args).run Tryd.prog w = .ok (.enter 98 args) w := enters_of Tryd.func98 (by kernel_rfl) rfl

/-- The world behind a call of leaves. -/
def lvW (r : Rk) (St : Nat) (a : Option Addr) (n c k : Nat) (cap : Array Value) (w : World) : World :=
  (((w.alloc (.cells (rCells r) 32)).alloc (.cells #[.int .u16 (St : Nat)] 100)).alloc (.cells #[.slice a n c] 51)).alloc (.cells #[.func (.func k) #[] cap] 109)
theorem lvW_size {r : Rk} {St : Nat} {a : Option Addr} {n c k : Nat} {cap : Array Value} {w : World} : (lvW r St a n c k cap w).heap.size = w.heap.size + 4 := by unfold lvW; simp
theorem lvW_alt {r : Rk} {St : Nat} {a : Option Addr} {n c k : Nat} {cap : Array Value} {w : World} (p : Nat → Prop) : Alt p w (lvW r St a n c k cap w) := by unfold lvW; exact ((((Alt.refl _ _).alloc _).alloc _).alloc _).alloc _

set_option maxHeartbeats 1000000 in
theorem leaves_any (r : Rk) (St : Nat) (a : Option Addr) (n c k : Nat) (cap : Array Value) (w : World) :
    Calls Tryd.prog 70 #[r.val, .int .u16 (St : Nat), .slice a n c, .func (.func k) #[] cap] w fun e w' =>
      e = .returned (.func (.func 98) #[] #[.pointer (some ⟨w.heap.size + 1 + 1, 0, none⟩), .pointer (some ⟨w.heap.size, 0, none⟩), .pointer (some ⟨w.heap.size + 1 + 1 + 1, 0, none⟩), .pointer (some ⟨w.heap.size + 1, 0, none⟩)]) ∧ w' = lvW r St a n c k cap w := by
  unfold Rk.val lvW rCells
  go_enter Tryd.func70, Tryd.ntmps70
  go_wp2_with fail
  go_ret
  exact ⟨rfl, rfl⟩

theorem leaves_use (r : Rk) (St : Nat) (ball : List Rg) (a : Option Addr) (c k : Nat) (cb : Lk → Bool) (w : World) (hc : Carry k #[] (fun _ => True) cb w.heap.size) (hR : RgsAt w a ball) (hga : ∀ g o, a = some ⟨g, o, none⟩ → g < w.heap.size) (hn : ball.length ≤ 4) (hw : ∀ x ∈ ball, wrongG x = false)
    (hfit : r.Fit w) (hSt : St < 65536) (hp : ∀ x ∈ els St, x < pinsN r.rows) :
    IterA Tryd.prog 98 #[.pointer (some ⟨w.heap.size + 1 + 1, 0, none⟩), .pointer (some ⟨w.heap.size, 0, none⟩), .pointer (some ⟨w.heap.size + 1 + 1 + 1, 0, none⟩), .pointer (some ⟨w.heap.size + 1, 0, none⟩)] (fun x : Nat => #[Value.int .u16 (x : Nat)])
      ((choices ball).map fun x => hitN r (toCs x) cb St) 9 (RdL r a (fun _ => False) (w.heap.size + 2) w.heap.size (w.heap.size + 3) (w.heap.size + 1)) (lvW r St a ball.length c k #[] w) := by
  have X : ∀ p, Alt p w (lvW r St a ball.length c k #[] w) := lvW_alt
  have z := @lvW_size r St a ball.length c k #[] w
  refine leaves_iter r St ball a c k #[] (fun _ => True) (fun _ => False) cb (w.heap.size + 2) w.heap.size (w.heap.size + 3) (w.heap.size + 1) _ (hc.up (by omega)) (fun _ _ _ _ => trivial) (fun _ h => h.elim)
    ?_ (hR.alt (X fun _ => False) (fun _ _ _ => id)) (fun g o e => by have := hga g o e; omega) hn hw ?_ ?_ ?_ (hfit.lo ((X fun k => w.heap.size ≤ k).below (Nat.le_refl _) fun _ h => h)) hSt hp trivial
  · unfold lvW
    have := Boxed.alt (p := fun _ => False) (Boxed.new ((w.alloc (.cells (rCells r) 32)).alloc (.cells #[.int .u16 (St : Nat)] 100)) 51 (.slice a ball.length c)) ((Alt.refl _ _).alloc (.cells #[.func (.func k) #[] #[]] 109)) id
    rwa [World.size_alloc, World.size_alloc] at this
  · unfold lvW
    exact Blk.alt (p := fun _ => False) (Blk.new w _ _) ((((Alt.refl _ _).alloc _).alloc _).alloc _) id
  · unfold lvW
    have := Boxed.new (((w.alloc (.cells (rCells r) 32)).alloc (.cells #[.int .u16 (St : Nat)] 100)).alloc (.cells #[.slice a ball.length c] 51)) 109 (.func (.func k) #[] #[])
    rwa [World.size_alloc, World.size_alloc, World.size_alloc] at this
  · unfold lvW
    have := Boxed.alt (p := fun _ => False) (Boxed.new (w.alloc (.cells (rCells r) 32)) 100 (.int .u16 (St : Nat))) (((Alt.refl _ _).alloc (.cells #[.slice a ball.length c] 51)).alloc (.cells #[.func (.func k) #[] #[]] 109)) id
    rwa [World.size_alloc] at this

end Go.Proofs.YtaloffdkadhhnaaDoor
