/- The contracts of the reference's Has and Left, and of the law's within. The contracts of the reference's IsBall, and of the law's thrownAt, ready and Ball. The contract of the program's isTruth. The contracts of the program's carrying and Hit. The contract of the program's Hit. -/
import Derived.Test.YtaloffdkadhhnaaDoorGj
import Derived.Laws.CopyOwn
import Derived.Laws.EntriesVeiled
set_option linter.unusedVariables false
set_option linter.unusedSimpArgs false

namespace Go.Proofs.YtaloffdkadhhnaaDoor
open Go.RowKit

attribute [local go_sem] Oper.semAt_some

def hasI (xs : List Int) (x : Int) : Bool := xs.any fun y => y == x
theorem hasI_iff {xs : List Int} {x : Int} : hasI xs x = true ↔ x ∈ xs := by unfold hasI; simp
theorem hasI_snoc (xs : List Int) (y x : Int) : hasI (xs ++ [y]) x = (hasI xs x || (y == x)) := by unfold hasI; simp

theorem take_next {α : Type} {xs : List α} {i : Nat} {x : α} (h : xs[i]? = some x) : xs.take (i + 1) = xs.take i ++ [x] := by rw [List.take_add_one, h]; rfl

set_option maxRecDepth 100000 in
set_option maxHeartbeats 2000000 in
theorem has_any (xs : List Int) (x : Int) (a : Option Addr) (c : Nat) (w : World) (hX : IntsAt w a xs) (hn : xs.length ≤ 1000) :
    Calls Tryd.prog 39 #[.slice a xs.length c, .int .i64 x] w fun e w' => e = .returned (.bool (hasI xs x)) ∧ w = w' := by
  have HX := Lib.hid hX
  clear hX
  go_enter Tryd.func39, Tryd.ntmps39
  go_wp2_with fail
  go_loopg [5] xs.length (fun g s5 wx => ∃ (i : Nat), i ≤ xs.length ∧ g = xs.length - i ∧ s5 = .int .i64 (i : Int) ∧ Hid (hasI (xs.take i) x = false) ∧ w = wx)
  case atStart => exact ⟨0, by omega, by omega, rfl, Lib.hid rfl, rfl⟩
  case round =>
    obtain ⟨i, hi, rfl, rfl, hA, rfl⟩ := hrel
    by_cases hlt : i < xs.length
    · obtain ⟨y, hy⟩ : ∃ y, xs[i]? = some y := ⟨xs[i]'hlt, List.getElem?_eq_getElem _⟩
      obtain ⟨g, o, rfl, k1⟩ := HX.out _ _ hy
      have hz0 : (0 : Int) ≤ (i : Int) := by omega
      have hz1 : (i : Int) < (xs.length : Int) := by omega
      have HT := Lib.hid (show hasI (xs.take (i + 1)) x = (hasI (xs.take i) x || (y == x)) by rw [take_next hy, hasI_snoc])
      by_cases he : y = x
      · have HV := Lib.hid (show hasI xs x = true from hasI_iff.2 (by rw [← he]; exact List.mem_of_getElem? hy))
        have hq : (y == x) = true := by simpa using he
        clear he hy
        go_wp2_with fail
        go_returns
        exact ⟨by rw [HV.out]; first | done | rfl, rfl⟩
      · have hq : (y == x) = false := by simpa using he
        have HN := Lib.hid (show hasI (xs.take (i + 1)) x = false by rw [HT.out, hA.out, hq]; rfl)
        clear he hy HT hA
        go_wp2_with fail
        go_roundg (xs.length - (i + 1))
        case measure => omega
        case rel => exact ⟨i + 1, by omega, rfl, by simp, HN, rfl⟩
    · have hz1 : ¬ (i : Int) < (xs.length : Int) := by omega
      have HV := Lib.hid (show hasI xs x = false by have := hA.out; rwa [List.take_of_length_le (by omega)] at this)
      clear hA hlt
      go_wp2_with fail
      go_returns
      exact ⟨by rw [HV.out]; first | done | rfl, rfl⟩

def withinI (xs ys : List Int) : Bool := xs.all fun x => hasI ys x

set_option maxRecDepth 100000 in
set_option maxHeartbeats 2000000 in
theorem within2_any (xs ys : List Int) (a b : Option Addr) (c d : Nat) (w : World) (hX : IntsAt w a xs) (hY : IntsAt w b ys) (hn : xs.length ≤ 1000) (hm : ys.length ≤ 1000) :
    Calls Tryd.prog 50 #[.slice a xs.length c, .slice b ys.length d] w fun e w' => e = .returned (.bool (withinI xs ys)) ∧ w = w' := by
  have HX := Lib.hid hX
  have HH := Lib.hid (fun x => has_any ys x b d w hY hm)
  clear hX hY
  go_enter Tryd.func50, Tryd.ntmps50
  go_wp2_with fail
  go_loopg [5] xs.length (fun g s5 wx => ∃ (i : Nat), i ≤ xs.length ∧ g = xs.length - i ∧ s5 = .int .i64 (i : Int) ∧ Hid (withinI (xs.take i) ys = true) ∧ w = wx)
  case atStart => exact ⟨0, by omega, by omega, rfl, Lib.hid rfl, rfl⟩
  case round =>
    obtain ⟨i, hi, rfl, rfl, hA, rfl⟩ := hrel
    by_cases hlt : i < xs.length
    · obtain ⟨y, hy⟩ : ∃ y, xs[i]? = some y := ⟨xs[i]'hlt, List.getElem?_eq_getElem _⟩
      obtain ⟨g, o, rfl, k1⟩ := HX.out _ _ hy
      have hz0 : (0 : Int) ≤ (i : Int) := by omega
      have hz1 : (i : Int) < (xs.length : Int) := by omega
      have HT := Lib.hid (show withinI (xs.take (i + 1)) ys = (withinI (xs.take i) ys && hasI ys y) by rw [take_next hy]; unfold withinI; simp)
      have HHy := Lib.hid (HH.out y)
      cases he : hasI ys y
      · have HV := Lib.hid (show withinI xs ys = false by
          unfold withinI
          rw [List.all_eq_false]
          exact ⟨y, List.mem_of_getElem? hy, by rw [he]; simp⟩)
        rw [he] at HHy
        clear he hy
        go_wp2_with fail
        refine HHy.out.mono ?_
        rintro e w1 ⟨rfl, rfl⟩
        go_wp2_with fail
        go_returns
        exact ⟨by rw [HV.out]; first | done | rfl, rfl⟩
      · have HN := Lib.hid (show withinI (xs.take (i + 1)) ys = true by rw [HT.out, hA.out, he]; rfl)
        rw [he] at HHy
        clear he hy HT hA
        go_wp2_with fail
        refine HHy.out.mono ?_
        rintro e w1 ⟨rfl, rfl⟩
        go_wp2_with fail
        go_roundg (xs.length - (i + 1))
        case measure => omega
        case rel => exact ⟨i + 1, by omega, rfl, by simp, HN, rfl⟩
    · have hz1 : ¬ (i : Int) < (xs.length : Int) := by omega
      have HV := Lib.hid (show withinI xs ys = true by have := hA.out; rwa [List.take_of_length_le (by omega)] at this)
      clear hA hlt
      go_wp2_with fail
      go_returns
      exact ⟨by rw [HV.out]; first | done | rfl, rfl⟩

/-- Those of a list that are not in another one. -/
def leftL (xs ys : List Int) : List Int := xs.filter fun x => !hasI ys x
theorem leftL_snoc (xs ys : List Int) (x : Int) : leftL (xs ++ [x]) ys = leftL xs ys ++ if hasI ys x then [] else [x] := by
  unfold leftL
  rw [List.filter_append]
  cases h : hasI ys x <;> simp [List.filter, h]
theorem leftL_len (xs ys : List Int) : (leftL xs ys).length ≤ xs.length := List.length_filter_le _ _

/-- A list of the call's own, while it grows. -/
structure OwnI (w W : World) (v : Value) (zs : List Int) : Prop where
  ow : W.ownsRow w.heap.size 3 1 v zs.length (zs.map (Value.int .i64))
  bl : Below w.heap.size w W
theorem OwnI.nil (w : World) : OwnI w w (.slice none 0 0) [] := ⟨⟨rfl, .inl ⟨rfl, rfl⟩⟩, Below.refl _ _⟩
theorem below_row {w w' : World} (hB : Below w.heap.size w w') : w.grownBy w' none := ⟨hB.os, hB.tape, hB.output, hB.size, fun k hk _ => hB.block k hk⟩
theorem OwnI.lo {w W W' : World} {v : Value} {zs : List Int} (h : OwnI w W v zs) (hb : Below W.heap.size W W') : OwnI w W' v zs :=
  ⟨h.ow.kept (below_row hb) (by cases hk : v.ownBlock with | none => exact .inl rfl | some k => exact .inr (fun e => by cases e)), below_go h.bl hb⟩
theorem OwnI.push {w W W1 : World} {v v' : Value} {zs : List Int} {x : Int} {o : Obj} (h : OwnI w W v zs) (hg : (W.alloc o).grownBy W1 v.ownBlock)
    (ho : W1.ownsRow w.heap.size 3 1 v' (zs.length + 1) (zs.map (Value.int .i64) ++ [Value.int .i64 x])) : OwnI w W1 v' (zs ++ [x]) :=
  ⟨by simpa using ho, (below_al2 h.bl o).grown hg (below_al2 h.bl o).size (fun k e => own_base h.ow e)⟩
theorem OwnI.out {w W : World} {v : Value} {zs : List Int} (h : OwnI w W v zs) : ∃ a c, v = .slice a zs.length c ∧ IntsAt W a zs ∧ (a = none → zs = [] ∧ c = 0) := by
  obtain ⟨a, c, e⟩ := own_len h.ow
  subst e
  refine ⟨a, c, rfl, (own_intsAt h.ow).1, ?_⟩
  rintro rfl
  rcases h.ow.2 with ⟨h1, h2⟩ | ⟨g, cap, cur, h1, _⟩
  · simp only [Value.slice.injEq] at h1
    exact ⟨List.eq_nil_of_length_eq_zero h2, h1.2.2⟩
  · simp at h1

/-- A list that a function returns. -/
def RetI (zs : List Int) (w : World) (e : Ending) (w' : World) : Prop := ∃ a c, e = .returned (.slice a zs.length c) ∧ IntsAt w' a zs ∧ (a = none → zs = [] ∧ c = 0) ∧ Below w.heap.size w w'

set_option maxRecDepth 100000 in
set_option maxHeartbeats 2000000 in
theorem left2_any (xs ys : List Int) (a b : Option Addr) (c d : Nat) (w : World) (hX : IntsAt w a xs) (hY : IntsAt w b ys) (hn : xs.length ≤ 1000) (hm : ys.length ≤ 1000) :
    Calls Tryd.prog 32 #[.slice a xs.length c, .slice b ys.length d] w (RetI (leftL xs ys) w) := by
  have HX := Lib.hid hX
  have HH := Lib.hid (fun x W (hb : Below w.heap.size w W) => has_any ys x b d W (hY.lo hb) hm)
  obtain ⟨i3, hi3, hy0, hy1, hy2⟩ := info_parts info3
  have O0 := Lib.hid (OwnI.nil w)
  clear hX hY
  go_enter Tryd.func32, Tryd.ntmps32
  go_wp2_with fail
  go_loopg [5, 6] xs.length (fun g s5 s6 wx => ∃ (i : Nat), i ≤ xs.length ∧ g = xs.length - i ∧ s6 = .int .i64 (i : Int) ∧ Hid (OwnI w wx s5 (leftL (xs.take i) ys)))
  case atStart => exact ⟨0, by omega, by omega, rfl, O0⟩
  case round =>
    obtain ⟨i, hi, rfl, rfl, hO⟩ := hrel
    clear O0
    by_cases hlt : i < xs.length
    · obtain ⟨y, hy⟩ : ∃ y, xs[i]? = some y := ⟨xs[i]'hlt, List.getElem?_eq_getElem _⟩
      obtain ⟨g, o, rfl, k1⟩ := HX.out _ _ hy
      have hz0 : (0 : Int) ≤ (i : Int) := by omega
      have hz1 : (i : Int) < (xs.length : Int) := by omega
      have k2 : wr.cell? ⟨g, o + i, none⟩ = some (.int .i64 y) := cell_lo hO.out.bl k1
      have HT := Lib.hid (show leftL (xs.take (i + 1)) ys = leftL (xs.take i) ys ++ if hasI ys y then [] else [y] by rw [take_next hy, leftL_snoc])
      have HHy := Lib.hid (HH.out y wr hO.out.bl)
      have HLn := Lib.hid (show (leftL (xs.take i) ys).length ≤ i from Nat.le_trans (leftL_len _ _) (by rw [List.length_take]; omega))
      have HSZ := Lib.hid hO.out.bl.size
      generalize hzs : leftL (xs.take i) ys = zs at *
      clear hzs hy k1
      cases he : hasI ys y
      · have HN := Lib.hid (show leftL (xs.take (i + 1)) ys = zs ++ [y] by rw [HT.out, he]; rfl)
        rw [he] at HHy
        clear he HT
        go_wp2_with fail
        refine HHy.out.mono ?_
        rintro e w1 ⟨rfl, rfl⟩
        go_wp2_with (at_builtin; go_must (refine wpList_append_lies _ rfl _ _ 25 rfl w.heap.size 3 i3 (.int .i64 0) 1 8 Tryd.underlying25 hi3 hy0 hy1 hy2 rfl (by decide) _ zs.length (zs.map (Value.int .i64)) rfl (hO.out.ow.alloc _) ⟨wr.heap.size, 0, none⟩ 1 1 [.int .i64 y] rfl rfl (World.news_of_block (cs := #[.int .i64 y]) (t := 3) (fr := (0, 0)) (heap_alloc_new wr _)) (by simp [Value.oneCell']) (by omega) (by have := HLn.out; unfold maxLen; omega) (by have := HLn.out; omega) (by have := HSZ.out; simp; omega) (wr.heap.size + 1) (by simp) ?_); intro gA capA w1 hown hgrow hat hlt1; have OP := Lib.hid (hO.out.push hgrow hown); clear hown hgrow hat hlt1)
        go_roundg (xs.length - (i + 1))
        case measure => omega
        case rel => exact ⟨i + 1, by omega, rfl, by simp, by rw [HN.out]; exact OP⟩
      · have HN := Lib.hid (show leftL (xs.take (i + 1)) ys = zs by rw [HT.out, he]; simp)
        rw [he] at HHy
        clear he HT
        go_wp2_with fail
        refine HHy.out.mono ?_
        rintro e w1 ⟨rfl, rfl⟩
        go_wp2_with fail
        go_roundg (xs.length - (i + 1))
        case measure => omega
        case rel => exact ⟨i + 1, by omega, rfl, by simp, by rw [HN.out]; exact hO⟩
    · have hz1 : ¬ (i : Int) < (xs.length : Int) := by omega
      have hO2 := hO.out
      rw [List.take_of_length_le (by omega)] at hO2
      obtain ⟨aL, cL, rfl, hI, hN⟩ := hO2.out
      have HI := Lib.hid hI
      have HN := Lib.hid hN
      have HB := Lib.hid hO2.bl
      clear hO hO2 hI hN hlt
      go_wp2_with fail
      go_returns
      exact ⟨aL, cL, rfl, HI.out, HN.out, HB.out⟩

end Go.Proofs.YtaloffdkadhhnaaDoor

namespace Go.Proofs.YtaloffdkadhhnaaDoor
open Go.RowKit

attribute [local go_sem] Oper.semAt_some

theorem wrongG_in (b : Rg) : wrongG b = (!(inB b.lo 0 b.hi) || (decide (60 < b.hi) || decide (8 < b.hi - b.lo))) := by
  unfold wrongG inB
  rw [Bool.eq_iff_iff]
  simp
  omega

theorem anyG_snoc {L : List Rg} {i : Nat} {b : Rg} (h : L[i]? = some b) : (L.take (i + 1)).any wrongG = ((L.take i).any wrongG || wrongG b) := by rw [take_next h]; simp

theorem St.dN {r : Rk} {w W : World} (h : St r w W) (n : Nat) : St r w (W.drewN n) := h.go (dN_below W n)

set_option maxRecDepth 100000 in
set_option maxHeartbeats 4000000 in
theorem refBall_any (r : Rk) (ball : List Rg) (a : Option Addr) (c : Nat) (w : World) (hG : RgsAt w a ball) (hn : ball.length ≤ 1000) :
    Calls Tryd.prog 67 #[r.val, .slice a ball.length c] w fun e w' => e = .returned (.bool (isBallB r ball)) ∧ Below w.heap.size w w' := by
  have HG := Lib.hid hG
  have HR := Lib.hid (show isBallB r ball = (((ball.length : Int) == r.rows) && !(ball.any wrongG)) from rfl)
  have S0 := Lib.hid (St.start r w)
  have HIN := Lib.hid (fun x lo hi W => refIn_any x lo hi W)
  generalize isBallB r ball = RES at *
  unfold rCells at S0
  unfold Rk.val
  clear hG
  go_enter Tryd.func67, Tryd.ntmps67
  go_wp2_with fail
  go_loopg [5] ball.length (fun g s5 wx => ∃ (i : Nat), i ≤ ball.length ∧ g = ball.length - i ∧ s5 = .int .i64 (i : Int) ∧ Hid ((ball.take i).any wrongG = false) ∧ Hid (St r w wx))
  case atStart => exact ⟨0, by omega, by omega, rfl, Lib.hid (by simp), S0⟩
  case round =>
    obtain ⟨i, hi, rfl, rfl, hA, hS⟩ := hrel
    clear S0
    by_cases hlt : i < ball.length
    · obtain ⟨b, hb⟩ : ∃ b, ball[i]? = some b := ⟨ball[i]'hlt, List.getElem?_eq_getElem _⟩
      obtain ⟨g, o, rfl, k1, k2⟩ := HG.out _ _ hb
      have hz0 : (0 : Int) ≤ (i : Int) := by omega
      have hz1 : (i : Int) < (ball.length : Int) := by omega
      have c1 : wr.cell? ⟨g, o + i * 2, none⟩ = some (.int .i64 b.lo) := cell_lo hS.out.bl k1
      have c2 : wr.cell? ⟨g, o + i * 2 + 1, none⟩ = some (.int .i64 b.hi) := cell_lo hS.out.bl k2
      have HT := Lib.hid (anyG_snoc hb)
      have HLA : Hid (wrongG b = true → RES = false) := Lib.hid (fun h => by
        rw [HR.out, show ball.any wrongG = true from List.any_eq_true.2 ⟨b, List.mem_of_getElem? hb, h⟩]; simp)
      have HW := Lib.hid (wrongG_in b)
      have HI := Lib.hid (fun W => HIN.out b.lo 0 b.hi W)
      obtain ⟨lo, hi2⟩ := b
      simp only at *
      clear hb k1 k2 HIN
      cases hq : inB lo 0 hi2
      · have HV := Lib.hid (HLA.out (by rw [HW.out, hq]; rfl))
        rw [hq] at HI
        clear hq HT HLA HW hA
        go_wp2_with fail
        go_quiet ((go_at_call 42; exact Calls.quiet_of_same ((HI.out _).mono fun _ _ h => ⟨h.1, h.2.symm⟩)))
        go_wp2_with fail
        go_returns
        exact ⟨by rw [HV.out]; first | done | rfl, (hS.out.dN _).bl⟩
      · have hbd := inB_iff.1 hq
        rw [hq] at HI
        by_cases h60 : 60 < hi2
        · have HV := Lib.hid (HLA.out (by rw [HW.out, decide_eq_true h60]; simp))
          clear hq HT HLA HW hA hbd
          go_wp2_with fail
          go_quiet ((go_at_call 42; exact Calls.quiet_of_same ((HI.out _).mono fun _ _ h => ⟨h.1, h.2.symm⟩)))
          go_wp2_with fail
          go_returns
          exact ⟨by rw [HV.out]; first | done | rfl, (hS.out.dN _).bl⟩
        · have hb1 := hbd.1
          have hb2 := hbd.2
          have h61 : hi2 ≤ 60 := by omega
          have e60 : decide (60 < hi2) = false := decide_eq_false h60
          have ew : IntKind.i64.wrap (hi2 - lo) = hi2 - lo := IntWalk.i64_in _ (by omega)
          by_cases h8 : 8 < hi2 - lo
          · have HV := Lib.hid (HLA.out (by rw [HW.out, decide_eq_true h8]; simp))
            have e8 : decide (8 < hi2 - lo) = true := decide_eq_true h8
            clear hq HT HLA HW hA hbd h60
            go_wp2_with fail
            go_quiet ((go_at_call 42; exact Calls.quiet_of_same ((HI.out _).mono fun _ _ h => ⟨h.1, h.2.symm⟩)))
            go_wp2_with fail
            go_returns
            exact ⟨by rw [HV.out]; first | done | rfl, (hS.out.dN _).bl⟩
          · have HN := Lib.hid (show (ball.take (i + 1)).any wrongG = false by rw [HT.out, hA.out, HW.out, hq, decide_eq_false h60, decide_eq_false h8]; rfl)
            have e8 : decide (8 < hi2 - lo) = false := decide_eq_false h8
            clear hq HT HLA HW hA hbd h60 h8
            go_wp2_with fail
            go_quiet ((go_at_call 42; exact Calls.quiet_of_same ((HI.out _).mono fun _ _ h => ⟨h.1, h.2.symm⟩)))
            clear ew
            go_wp2_with fail
            go_roundg (ball.length - (i + 1))
            case measure => omega
            case rel => exact ⟨i + 1, by omega, rfl, by simp, HN, Lib.hid (hS.out.dN _)⟩
    · have hz1 : ¬ (i : Int) < (ball.length : Int) := by omega
      have HV := Lib.hid (show RES = ((ball.length : Int) == r.rows) by
        have := hA.out
        rw [List.take_of_length_le (by omega)] at this
        rw [HR.out, this]; simp)
      obtain ⟨r0, r1, r2, r3, r4⟩ := hS.out.c
      have HB := Lib.hid hS.out.bl
      clear hA hlt hS
      go_wp2_with fail
      go_returns
      exact ⟨by rw [HV.out]; first | done | rfl, HB.out⟩

set_option maxRecDepth 100000 in
set_option maxHeartbeats 4000000 in
theorem thrown2_any (r : Rk) (xs : List Int) (a : Option Addr) (c : Nat) (ball : List Rg) (a2 : Option Addr) (c2 : Nat) (w : World) (hL : LinksAt w r.la r.ls) (hn : r.ls.length ≤ 1000) (hX : IntsAt w a xs) (hm : xs.length ≤ 1000) (hG : RgsAt w a2 ball) (hk : ball.length ≤ 1000) :
    Calls Tryd.prog 29 #[r.val, .slice a xs.length c, .slice a2 ball.length c2] w fun e w' => e = .returned (.int .i64 (balE r xs ball)) ∧ Below w.heap.size w w' := by
  have PI := Lib.hid (fun W (hb : Below w.heap.size w W) => pinned_any r xs a c W (hL.lo hb) hn (hX.lo hb) hm)
  have BA := Lib.hid (fun W (hb : Below w.heap.size w W) => refBall_any r ball a2 c2 W (hG.lower hb) hk)
  have HE : Hid (balE r xs ball = if chkE r xs = 0 then (if isBallB r ball then 0 else 2) else chkE r xs) := Lib.hid rfl
  have S0 := Lib.hid (St.start r w)
  generalize balE r xs ball = E at *
  generalize isBallB r ball = IB at *
  unfold rCells at S0
  clear hL hX hG
  by_cases h0 : chkE r xs = 0
  · rw [h0] at PI
    have HV := Lib.hid (show E = if IB then 0 else 2 by rw [HE.out, if_pos h0])
    clear h0 HE
    unfold Rk.val at *
    go_enter Tryd.func29, Tryd.ntmps29
    go_wp2_with fail
    refine (PI.out _ S0.out.bl).mono ?_
    rintro e w1 ⟨rfl, hb⟩
    have S1 := Lib.hid (S0.out.go hb)
    obtain ⟨r0, r1, r2, r3, r4⟩ := S1.out.c
    clear hb S0
    go_wp2_with fail
    refine (BA.out _ S1.out.bl).mono ?_
    rintro e w2 ⟨rfl, hb⟩
    have S2 := Lib.hid (S1.out.go hb)
    clear hb S1 r0 r1 r2 r3 r4
    cases IB
    · go_wp2_with fail
      go_returns
      exact ⟨by rw [HV.out]; rfl, S2.out.bl⟩
    · go_wp2_with fail
      go_returns
      exact ⟨by rw [HV.out]; rfl, S2.out.bl⟩
  · have HV := Lib.hid (show E = chkE r xs by rw [HE.out, if_neg h0])
    have hE' : (chkE r xs == 0) = false := by simpa using h0
    generalize chkE r xs = F at *
    clear h0 HE
    unfold Rk.val at *
    go_enter Tryd.func29, Tryd.ntmps29
    go_wp2_with fail
    refine (PI.out _ S0.out.bl).mono ?_
    rintro e w1 ⟨rfl, hb⟩
    have S1 := Lib.hid (S0.out.go hb)
    clear hb S0
    go_wp2_with fail
    go_returns
    exact ⟨by rw [HV.out]; first | done | rfl, S1.out.bl⟩

/-- May a statement play this rack, with these pins, and this ball? -/
def readyB (r : Rk) (xs : List Int) (ball : List Rg) : Bool := thinB r xs.length ball.length && (balE r xs ball == 0)
theorem thin_bd {r : Rk} {n m : Nat} (h : thinB r n m = true) : r.ls.length ≤ 16 ∧ n ≤ 15 ∧ m ≤ 8 := by unfold thinB at h; simpa using h

set_option maxRecDepth 100000 in
set_option maxHeartbeats 4000000 in
theorem ready_any (r : Rk) (xs : List Int) (a : Option Addr) (c : Nat) (ball : List Rg) (a2 : Option Addr) (c2 : Nat) (w : World) (hL : LinksAt w r.la r.ls) (hX : IntsAt w a xs) (hG : RgsAt w a2 ball) :
    Calls Tryd.prog 48 #[r.val, .slice a xs.length c, .slice a2 ball.length c2] w fun e w' => e = .returned (.bool (readyB r xs ball)) ∧ Below w.heap.size w w' := by
  have TH := Lib.hid (fun W => thin_any r a a2 xs.length c ball.length c2 W)
  have HV : Hid (readyB r xs ball = (thinB r xs.length ball.length && (balE r xs ball == 0))) := Lib.hid rfl
  have S0 := Lib.hid (St.start r w)
  generalize readyB r xs ball = R at *
  unfold rCells at S0
  by_cases ht : thinB r xs.length ball.length = true
  · obtain ⟨b1, b2, b3⟩ := thin_bd ht
    have TR := Lib.hid (fun W (hb : Below w.heap.size w W) => thrown2_any r xs a c ball a2 c2 W (hL.lo hb) (by omega) (hX.lo hb) (by omega) (hG.lower hb) (by omega))
    rw [ht] at TH HV
    clear ht hL hX hG
    generalize balE r xs ball = E at *
    unfold Rk.val at *
    go_enter Tryd.func48, Tryd.ntmps48
    go_wp2_with fail
    refine (TH.out _).mono ?_
    rintro e w1 ⟨rfl, hb⟩
    have S1 := Lib.hid (S0.out.go hb)
    obtain ⟨r0, r1, r2, r3, r4⟩ := S1.out.c
    clear hb S0
    go_wp2_with fail
    refine (TR.out _ S1.out.bl).mono ?_
    rintro e w2 ⟨rfl, hb⟩
    have S2 := Lib.hid (S1.out.go hb)
    clear hb S1 r0 r1 r2 r3 r4
    go_wp2_with fail
    go_returns
    exact ⟨by rw [HV.out]; rfl, S2.out.bl⟩
  · have ht' : thinB r xs.length ball.length = false := by simpa using ht
    rw [ht'] at TH HV
    clear ht ht' hL hX hG
    unfold Rk.val at *
    go_enter Tryd.func48, Tryd.ntmps48
    go_wp2_with fail
    refine (TH.out _).mono ?_
    rintro e w1 ⟨rfl, hb⟩
    have S1 := Lib.hid (S0.out.go hb)
    clear hb S0
    go_wp2_with fail
    go_returns
    exact ⟨by rw [HV.out]; rfl, S1.out.bl⟩

theorem info63 : (Tryd.prog.info? 63).map (fun i => (i.zero, i.size, i.bytes)) = some (some (.agg #[.int .i64 0, .int .i64 0]), 2, 16) := by kernel_rfl
theorem rgCells_snoc (L : List Rg) (b : Rg) : rgCells (L ++ [b]) = rgCells L ++ [.int .i64 b.lo, .int .i64 b.hi] := by unfold rgCells; simp

/-- A list of ranges of the call's own, while it grows. -/
structure OwnG (w W : World) (v : Value) (zs : List Rg) : Prop where
  ow : W.ownsRow w.heap.size 63 2 v zs.length (rgCells zs)
  bl : Below w.heap.size w W
theorem OwnG.nil (w : World) : OwnG w w (.slice none 0 0) [] := ⟨⟨rfl, .inl ⟨rfl, rfl⟩⟩, Below.refl _ _⟩
theorem OwnG.lo {w W W' : World} {v : Value} {zs : List Rg} (h : OwnG w W v zs) (hb : Below W.heap.size W W') : OwnG w W' v zs :=
  ⟨h.ow.kept (below_row hb) (by cases hk : v.ownBlock with | none => exact .inl rfl | some k => exact .inr (fun e => by cases e)), below_go h.bl hb⟩
theorem OwnG.push {w W W1 : World} {v v' : Value} {zs : List Rg} {b : Rg} {o : Obj} (h : OwnG w W v zs) (hg : (W.alloc o).drew.grownBy W1 v.ownBlock)
    (ho : W1.ownsRow w.heap.size 63 2 v' (zs.length + 1) (rgCells zs ++ [.int .i64 b.lo, .int .i64 b.hi])) : OwnG w W1 v' (zs ++ [b]) :=
  ⟨by rw [rgCells_snoc]; simpa using ho, (show Below w.heap.size w (W.alloc o).drew from Below.drew (below_al2 h.bl o)).grown hg (below_al2 h.bl o).size (fun k e => own_base h.ow e)⟩
theorem OwnG.out {w W : World} {v : Value} {zs : List Rg} (h : OwnG w W v zs) : ∃ a c, v = .slice a zs.length c ∧ RgsAt W a zs ∧ (∀ g o, a = some ⟨g, o, none⟩ → g < W.heap.size) := by
  have h := h.ow
  by_cases h0 : 0 < zs.length
  · obtain ⟨g, cap, rfl, hb, hl⟩ := h.form h0
    refine ⟨some ⟨g, 0, none⟩, cap, rfl, ?_, fun g' o e => by cases e; exact hl⟩
    intro i b hi
    obtain ⟨k1, k2⟩ := rgCells_at zs i b hi
    have hc : ∀ j u, (rgCells zs)[j]? = some u → W.cell? ⟨g, j, none⟩ = some u := fun j u hj => (h.cellAt j (by have := (List.getElem?_eq_some_iff.1 hj).1; have := h.1; omega)).trans hj
    exact ⟨g, 0, rfl, by rw [Nat.zero_add]; exact hc _ _ k1, by rw [Nat.zero_add]; exact hc _ _ k2⟩
  · have : zs = [] := List.eq_nil_of_length_eq_zero (by omega)
    subst this
    rcases h.2 with ⟨rfl, _⟩ | ⟨g, cap, cur, rfl, hb, hg, _⟩
    · exact ⟨none, 0, rfl, fun i l h => by simp at h, fun g o e => by cases e⟩
    · exact ⟨some ⟨g, 0, none⟩, cap, rfl, fun i l h => by simp at h, fun g' o e => by cases e; exact (Array.getElem?_eq_some_iff.1 hg).1⟩

/-- A ball that the law has made anew. -/
def NewBall (ball : List Rg) (w : World) (e : Ending) (w' : World) : Prop := ∃ a c, e = .returned (.slice a ball.length c) ∧ RgsAt w' a ball ∧ (∀ g o, a = some ⟨g, o, none⟩ → g < w'.heap.size) ∧ Below w.heap.size w w'

set_option maxRecDepth 100000 in
set_option maxHeartbeats 4000000 in
theorem lawBall_any (ball : List Rg) (a : Option Addr) (c : Nat) (w : World) (hG : RgsAt w a ball) (hn : ball.length ≤ 1000) :
    Calls Tryd.prog 28 #[.slice a ball.length c] w (NewBall ball w) := by
  have HG := Lib.hid hG
  obtain ⟨i63, hi3, hy0, hy1, hy2⟩ := info_parts info63
  have O0 := Lib.hid (OwnG.nil w)
  clear hG
  go_enter Tryd.func28, Tryd.ntmps28
  go_wp2_with fail
  go_loopg [3, 4] ball.length (fun g s3 s4 wx => ∃ (i : Nat) (v : Value), i ≤ ball.length ∧ g = ball.length - i ∧ s4 = .int .i64 (i : Int) ∧ s3 = v ∧ Hid (OwnG w wx v (ball.take i)))
  case atStart => exact ⟨0, _, by omega, by omega, rfl, rfl, O0⟩
  case round =>
    obtain ⟨i, v, hi, rfl, rfl, hv, hO⟩ := hrel
    have hv2 := hv.symm
    clear hv O0
    subst hv2
    by_cases hlt : i < ball.length
    · obtain ⟨b, hb⟩ : ∃ b, ball[i]? = some b := ⟨ball[i]'hlt, List.getElem?_eq_getElem _⟩
      obtain ⟨g, o, rfl, k1, k2⟩ := HG.out _ _ hb
      have hz0 : (0 : Int) ≤ (i : Int) := by omega
      have hz1 : (i : Int) < (ball.length : Int) := by omega
      have c1 : wr.cell? ⟨g, o + i * 2, none⟩ = some (.int .i64 b.lo) := cell_lo hO.out.bl k1
      have c2 : wr.cell? ⟨g, o + i * 2 + 1, none⟩ = some (.int .i64 b.hi) := cell_lo hO.out.bl k2
      have HN := Lib.hid (show ball.take (i + 1) = ball.take i ++ [b] from take_next hb)
      have HLn := Lib.hid (show (ball.take i).length = i by rw [List.length_take]; omega)
      have HSZ := Lib.hid hO.out.bl.size
      have HNC : Hid (2 * 1000 ≤ maxLen) := Lib.hid (by unfold maxLen; omega)
      have hgl : g < w.heap.size := cell_lt k1
      have HAL := Lib.hid (show ∀ k, v.ownBlock = some k → w.heap.size ≤ k from fun k e => own_base hO.out.ow e)
      have SP := Lib.hid (show ∀ W, Alt (fun k => w.heap.size ≤ k) wr W → (W.cell? ⟨g, o + i * 2, none⟩ = some (.int .i64 b.lo) ∧ W.cell? ⟨g, o + i * 2 + 1, none⟩ = some (.int .i64 b.hi)) from fun W hA =>
        ⟨alt_cell hA c1 (by omega), alt_cell hA c2 (by omega)⟩)
      obtain ⟨lo, hi2⟩ := b
      simp only at *
      clear hb k1 k2 hgl
      go_wp2_with fail
      first
      | (go_region_held3 (fun W => W.cell? ⟨g, o + i * 2, none⟩ = some (.int .i64 lo) ∧ W.cell? ⟨g, o + i * 2 + 1, none⟩ = some (.int .i64 hi2))
          (with_reducible first | exact SP.out _ ((Alt.refl _ wr).drew) | exact SP.out _ (((Alt.refl _ wr).alloc _).drew) | exact SP.out _ ((((Alt.refl _ wr).alloc _).drew).grown hgrow HAL.out))
          (((with_reducible refine append_here ?_); go_must (refine step_append_lies _ (by rfl) _ _ _ (by rfl) w.heap.size 63 i63 _ 2 16 Tryd.underlying51 hi3 hy0 hy1 hy2 rfl (by omega) v (ball.take i).length (rgCells (ball.take i)) (by rfl) ((hO.out.ow.alloc _).drew) ⟨wr.heap.size, 0, none⟩ 1 1 [.int .i64 lo, .int .i64 hi2] (by rfl) (by rfl) (World.news_of_block (cs := #[.int .i64 lo, .int .i64 hi2]) (t := 63) (fr := (0, 0)) (heap_alloc_new wr _)) (by simp [Value.oneCell']) (by omega) (by have := HNC.out; have := HLn.out; omega) (by have := HLn.out; omega) (by have := HSZ.out; simp; omega) (wr.heap.size + 1) (by simp) ?_); intro gA capA w1 hown1 hgrow hat hlt1)))
      | fail "region"
      have OP := Lib.hid (hO.out.push (b := ⟨lo, hi2⟩) hgrow hown1)
      clear hown1 hgrow hat hlt1 c1 c2 hO SP
      go_wp2_with fail
      go_roundg (ball.length - (i + 1))
      case measure => omega
      case rel => exact ⟨i + 1, _, by omega, rfl, by simp, rfl, by rw [HN.out]; have h := OP; rw [HLn.out] at h; exact h⟩
    · have hz1 : ¬ (i : Int) < (ball.length : Int) := by omega
      have hO2 := hO.out
      rw [List.take_of_length_le (by omega)] at hO2
      obtain ⟨aL, cL, rfl, hI, hN⟩ := hO2.out
      have HI := Lib.hid hI
      have HN := Lib.hid hN
      have HB := Lib.hid hO2.bl
      clear hO hO2 hI hN hlt
      go_wp2_with fail
      go_returns
      exact ⟨aL, cL, rfl, HI.out, HN.out, HB.out⟩

end Go.Proofs.YtaloffdkadhhnaaDoor

namespace Go.Proofs.YtaloffdkadhhnaaDoor
open Go.RowKit

attribute [local go_sem] Oper.semAt_some

/-- Truth values that lie in a slice. -/
def BoolsAt (w : World) (a : Option Addr) (xs : List Bool) : Prop := ∀ i v, xs[i]? = some v → ∃ g o, a = some ⟨g, o, none⟩ ∧ w.cell? ⟨g, o + i, none⟩ = some (.bool v)
theorem BoolsAt.lo {w W : World} {a : Option Addr} {xs : List Bool} (h : BoolsAt w a xs) (hb : Below w.heap.size w W) : BoolsAt W a xs := by
  intro i v hv
  obtain ⟨g, o, e, h1⟩ := h i v hv
  exact ⟨g, o, e, cell_lo hb h1⟩

/-- The boards of the first n rows are in the ranges. -/
def rowsB (ball : List Rg) (bs : List Int) (n : Nat) : Bool := (List.range n).all fun i => inB (bs.getD i 0) (ball.getD i ⟨0, 0⟩).lo (ball.getD i ⟨0, 0⟩).hi
theorem rowsB_succ (ball : List Rg) (bs : List Int) (n : Nat) : rowsB ball bs (n + 1) = (rowsB ball bs n && inB (bs.getD n 0) (ball.getD n ⟨0, 0⟩).lo (ball.getD n ⟨0, 0⟩).hi) := by
  unfold rowsB; rw [List.range_succ, List.all_append]; simp
/-- The first n links that surely carry do so. -/
def carsB (ls : List Lk) (cs : List Bool) (n : Nat) : Bool := (List.range n).all fun i => !((ls.getD i ⟨0, 0, false⟩).sr && !(cs.getD i false))
theorem carsB_succ (ls : List Lk) (cs : List Bool) (n : Nat) : carsB ls cs (n + 1) = (carsB ls cs n && !((ls.getD n ⟨0, 0, false⟩).sr && !(cs.getD n false))) := by
  unfold carsB; rw [List.range_succ, List.all_append]; simp
def truthB (r : Rk) (ball : List Rg) (bs : List Int) (cs : List Bool) : Bool :=
  ((bs.length : Int) == r.rows) && ((cs.length == r.ls.length) && (rowsB ball bs bs.length && carsB r.ls cs r.ls.length))
theorem rowsB_le {ball : List Rg} {bs : List Int} {n i : Nat} (h : i < n) (hf : inB (bs.getD i 0) (ball.getD i ⟨0, 0⟩).lo (ball.getD i ⟨0, 0⟩).hi = false) : rowsB ball bs n = false := by
  unfold rowsB; rw [List.all_eq_false]; exact ⟨i, List.mem_range.2 h, by rw [hf]; simp⟩
theorem carsB_le {ls : List Lk} {cs : List Bool} {n i : Nat} (h : i < n) (hf : (!((ls.getD i ⟨0, 0, false⟩).sr && !(cs.getD i false))) = false) : carsB ls cs n = false := by
  unfold carsB; rw [List.all_eq_false]; exact ⟨i, List.mem_range.2 h, by rw [hf]; simp⟩

/-- Where a function of the program over a rack stands. -/
structure Sp (r : Rk) (w W : World) : Prop where
  bl : Below w.heap.size w W
  bK : Blk W w.heap.size (rCells r) 32
theorem Sp.start (r : Rk) (w : World) : Sp r w (w.alloc (.cells (rCells r) 32)) := ⟨below_al _ _, Blk.new _ _ _⟩
theorem Sp.go {r : Rk} {w W W' : World} (h : Sp r w W) (hb : Below W.heap.size W W') : Sp r w W' :=
  ⟨below_go h.bl hb, Blk.alt h.bK (Alt.of_below (p := fun k => W.heap.size ≤ k) hb (fun k _ e => e)) (by have := h.bK.lt; omega)⟩
theorem Sp.c {r : Rk} {w W : World} (h : Sp r w W) :
    W.cell? ⟨w.heap.size, 0, none⟩ = some (.int .i64 r.rows) ∧ W.cell? ⟨w.heap.size, 1, none⟩ = some (.int .i64 r.mid) ∧ W.cell? ⟨w.heap.size, 2, none⟩ = some (.int .i64 r.gap) ∧
    W.cell? ⟨w.heap.size, 3, none⟩ = some (.int .i64 r.reach) ∧ W.cell? ⟨w.heap.size, 4, none⟩ = some (.slice r.la r.ls.length r.lc) :=
  ⟨h.bK.cell 0 rfl, h.bK.cell 1 rfl, h.bK.cell 2 rfl, h.bK.cell 3 rfl, h.bK.cell 4 rfl⟩

theorem getD_of {α : Type} {xs : List α} {i : Nat} {x d : α} (h : xs[i]? = some x) : xs.getD i d = x := by rw [List.getD_eq_getElem?_getD, h]; rfl

set_option maxRecDepth 100000 in
set_option maxHeartbeats 8000000 in
theorem isTruth_any (r : Rk) (ball : List Rg) (a1 : Option Addr) (c1 : Nat) (bs : List Int) (a2 : Option Addr) (c2 : Nat) (cs : List Bool) (a3 : Option Addr) (c3 : Nat) (w : World) (ok : r.Ok) (hbl : (ball.length : Int) = r.rows)
    (hL : LinksAt w r.la r.ls) (hn : r.ls.length ≤ 1000) (hG : RgsAt w a1 ball) (hI : IntsAt w a2 bs) (hB : BoolsAt w a3 cs) (hm : bs.length ≤ 1000) (hk : cs.length ≤ 1000) :
    Calls Tryd.prog 62 #[r.val, .slice a1 ball.length c1, .slice a2 bs.length c2, .slice a3 cs.length c3] w fun e w' => e = .returned (.bool (truthB r ball bs cs)) ∧ Below w.heap.size w w' := by
  have HL := Lib.hid hL; have HG := Lib.hid hG; have HI := Lib.hid hI; have HB := Lib.hid hB
  have HR := Lib.hid (show truthB r ball bs cs = (((bs.length : Int) == r.rows) && ((cs.length == r.ls.length) && (rowsB ball bs bs.length && carsB r.ls cs r.ls.length))) from rfl)
  have S0 := Lib.hid (Sp.start r w)
  have HW := Lib.hid (fun x lo hi W => within_any x lo hi W)
  have hr1 := ok.r1
  have hr2 := ok.r2
  generalize truthB r ball bs cs = RES at *
  obtain ⟨rows, mid, gap, reach, la, lc, ls⟩ := r
  simp only at *
  unfold rCells at S0
  unfold Rk.val
  clear hL hG hI hB ok
  by_cases h1 : (bs.length : Int) = rows
  · have e1 : ((bs.length : Int) == rows) = true := by simpa using h1
    by_cases h2 : cs.length = ls.length
    · have HBL := Lib.hid hbl
      have HV := Lib.hid (show RES = (rowsB ball bs bs.length && carsB ls cs ls.length) by rw [HR.out, e1, h2]; simp)
      have HH1 := Lib.hid h1
      have HH2 := Lib.hid h2
      have e1' : ((bs.length : Int) != rows) = false := by simpa using h1
      have e2' : ((cs.length : Int) != (ls.length : Int)) = false := by simp [h2]
      clear h1 h2 e1 HR hbl
      go_enter Tryd.func62, Tryd.ntmps62
      go_wp2_with fail
      go_loopg [9, 27] bs.length (fun g s9 s27 wx => ∃ (i : Nat), i ≤ bs.length ∧ g = bs.length - i ∧ s27 = .int .i64 (i : Int) ∧ Hid (rowsB ball bs i = true) ∧ Hid (Sp ⟨rows, mid, gap, reach, la, lc, ls⟩ w wx))
      case atStart => exact ⟨0, by omega, by omega, rfl, Lib.hid rfl, S0⟩
      case round =>
        obtain ⟨i, hi, rfl, rfl, hA, hS⟩ := hrel
        clear S0
        have hle := HH1.out
        by_cases hlt : i < bs.length
        · have hz0 : (0 : Int) ≤ (i : Int) := by omega
          have hz1 : (i : Int) < rows := by omega
          have hz2 : (i : Int) < (bs.length : Int) := by omega
          have hz3 : (i : Int) < (ball.length : Int) := by have := HBL.out; omega
          obtain ⟨x, hx⟩ : ∃ x, bs[i]? = some x := ⟨bs[i]'hlt, List.getElem?_eq_getElem _⟩
          obtain ⟨b, hb⟩ : ∃ b, ball[i]? = some b := ⟨ball[i]'(by omega), List.getElem?_eq_getElem _⟩
          obtain ⟨g, o, rfl, k1⟩ := HI.out _ _ hx
          obtain ⟨gb, ob, rfl, k2, k3⟩ := HG.out _ _ hb
          have q1 : wr.cell? ⟨g, o + i, none⟩ = some (.int .i64 x) := cell_lo hS.out.bl k1
          have q2 : wr.cell? ⟨gb, ob + i * 2, none⟩ = some (.int .i64 b.lo) := cell_lo hS.out.bl k2
          have q3 : wr.cell? ⟨gb, ob + i * 2 + 1, none⟩ = some (.int .i64 b.hi) := cell_lo hS.out.bl k3
          have HT := Lib.hid (show rowsB ball bs (i + 1) = (rowsB ball bs i && inB x b.lo b.hi) by rw [rowsB_succ, getD_of hx, getD_of hb])
          have HF : Hid (inB x b.lo b.hi = false → RES = false) := Lib.hid (fun h => by
            rw [HV.out, rowsB_le hlt (by rw [getD_of hx, getD_of hb]; exact h)]; rfl)
          have HWx := Lib.hid (fun W => HW.out x b.lo b.hi W)
          obtain ⟨lo, hi2⟩ := b
          simp only at *
          clear hx hb k1 k2 k3 hle
          cases hq : inB x lo hi2
          · have HV2 := Lib.hid (HF.out hq)
            rw [hq] at HWx
            clear hq HT HF hA
            go_wp2_with fail
            go_quiet ((go_at_call 87; exact Calls.quiet_of_same ((HWx.out _).mono fun _ _ h => ⟨h.1, h.2.symm⟩)))
            go_wp2_with fail
            go_returns
            exact ⟨by rw [HV2.out]; first | done | rfl, (hS.out.go (dN_below _ _)).bl⟩
          · have HN := Lib.hid (show rowsB ball bs (i + 1) = true by rw [HT.out, hA.out, hq]; rfl)
            rw [hq] at HWx
            clear hq HT HF hA
            go_wp2_with fail
            go_quiet ((go_at_call 87; exact Calls.quiet_of_same ((HWx.out _).mono fun _ _ h => ⟨h.1, h.2.symm⟩)))
            go_wp2_with fail
            go_roundg (bs.length - (i + 1))
            case measure => omega
            case rel => exact ⟨i + 1, by omega, rfl, by simp, HN, Lib.hid (hS.out.go (dN_below _ _))⟩
        · have hz1 : ¬ (i : Int) < rows := by omega
          obtain rfl : i = bs.length := by omega
          obtain ⟨r0, r1, r2, r3, r4⟩ := hS.out.c
          have HV2 := Lib.hid (show RES = carsB ls cs ls.length by rw [HV.out, hA.out]; rfl)
          have S1 := hS
          clear hA hlt hle HV HW HI HG hS
          go_wp2_with fail
          go_loopg [10, 11, 50] ls.length (fun g s10 s11 s50 wx => ∃ (j : Nat), j ≤ ls.length ∧ g = ls.length - j ∧ s50 = .int .i64 (j : Int) ∧ Hid (carsB ls cs j = true) ∧ Hid (Sp ⟨rows, mid, gap, reach, la, lc, ls⟩ w wx))
          case atStart => exact ⟨0, by omega, by omega, rfl, Lib.hid rfl, S1⟩
          case round =>
            obtain ⟨j, hj, rfl, rfl, hC, hS⟩ := hrel
            clear S1 r0 r1 r2 r3 r4
            have hle := HH2.out
            by_cases hlt : j < ls.length
            · have hz0 : (0 : Int) ≤ (j : Int) := by omega
              have hz1 : (j : Int) < (ls.length : Int) := by omega
              have hz2 : (j : Int) < (cs.length : Int) := by omega
              obtain ⟨l, hl⟩ : ∃ l, ls[j]? = some l := ⟨ls[j]'hlt, List.getElem?_eq_getElem _⟩
              obtain ⟨b, hb⟩ : ∃ b, cs[j]? = some b := ⟨cs[j]'(by omega), List.getElem?_eq_getElem _⟩
              obtain ⟨g, o, rfl, k1, k2, k3⟩ := HL.out _ _ hl
              obtain ⟨gb, ob, rfl, k4⟩ := HB.out _ _ hb
              have q1 : wr.cell? ⟨g, o + j * 3, none⟩ = some (.int .i64 l.fr) := cell_lo hS.out.bl k1
              have q2 : wr.cell? ⟨g, o + j * 3 + 1, none⟩ = some (.int .i64 l.to) := cell_lo hS.out.bl k2
              have q3 : wr.cell? ⟨g, o + j * 3 + 2, none⟩ = some (.bool l.sr) := cell_lo hS.out.bl k3
              have q4 : wr.cell? ⟨gb, ob + j, none⟩ = some (.bool b) := cell_lo hS.out.bl k4
              have hgb : gb < wr.heap.size := cell_lt q4
              have HT := Lib.hid (show carsB ls cs (j + 1) = (carsB ls cs j && !(l.sr && !b)) by rw [carsB_succ, getD_of hl, getD_of hb])
              have HF : Hid ((!(l.sr && !b)) = false → RES = false) := Lib.hid (fun h => by
                rw [HV2.out, carsB_le hlt (by rw [getD_of hl, getD_of hb]; exact h)])
              have S2 := Lib.hid (hS.out.go (below_al wr (.cells #[.int .i64 l.fr, .int .i64 l.to, .bool l.sr] 86)))
              obtain ⟨fr, to, sr⟩ := l
              simp only at *
              clear hl hb k1 k2 k3 k4 hle hS
              cases sr
              · have HN := Lib.hid (show carsB ls cs (j + 1) = true by rw [HT.out, hC.out]; rfl)
                clear HT HF hC
                go_wp2_with fail
                go_roundg (ls.length - (j + 1))
                case measure => omega
                case rel => exact ⟨j + 1, by omega, rfl, by simp, HN, S2⟩
              · cases b
                · have HV3 := Lib.hid (HF.out rfl)
                  clear HT HF hC
                  go_wp2_with fail
                  go_returns
                  exact ⟨by rw [HV3.out]; first | done | rfl, S2.out.bl⟩
                · have HN := Lib.hid (show carsB ls cs (j + 1) = true by rw [HT.out, hC.out]; rfl)
                  clear HT HF hC
                  go_wp2_with fail
                  go_roundg (ls.length - (j + 1))
                  case measure => omega
                  case rel => exact ⟨j + 1, by omega, rfl, by simp, HN, S2⟩
            · have hz1 : ¬ (j : Int) < (ls.length : Int) := by omega
              have HV3 := Lib.hid (show RES = true by
                rw [HV2.out]
                have := hC.out
                rwa [show j = ls.length by omega] at this)
              clear hC hlt hle
              go_wp2_with fail
              go_returns
              exact ⟨by rw [HV3.out]; first | done | rfl, hS.out.bl⟩
    · have HV := Lib.hid (show RES = false by rw [HR.out, show (cs.length == ls.length) = false by simpa using h2]; simp)
      have e1' : ((bs.length : Int) != rows) = false := by simpa using h1
      have e2' : ((cs.length : Int) != (ls.length : Int)) = true := by simp; omega
      clear h1 h2 e1 HR hbl
      go_enter Tryd.func62, Tryd.ntmps62
      go_wp2_with fail
      go_returns
      exact ⟨by rw [HV.out]; first | done | rfl, S0.out.bl⟩
  · have HV := Lib.hid (show RES = false by rw [HR.out, show ((bs.length : Int) == rows) = false by simpa using h1]; simp)
    have e1' : ((bs.length : Int) != rows) = true := by simpa using h1
    clear h1 HR hbl
    go_enter Tryd.func62, Tryd.ntmps62
    go_wp2_with fail
    go_returns
    exact ⟨by rw [HV.out]; first | done | rfl, S0.out.bl⟩

end Go.Proofs.YtaloffdkadhhnaaDoor

namespace Go.Proofs.YtaloffdkadhhnaaDoor
open Go.RowKit

attribute [local go_sem] Oper.semAt_some

/-- The links that carry. -/
def pickL (Z : List (Lk × Bool)) : List Lk := Z.filterMap fun p => if p.2 = true then some p.1 else none
theorem pickL_snoc (Z : List (Lk × Bool)) (p : Lk × Bool) : pickL (Z ++ [p]) = pickL Z ++ if p.2 = true then [p.1] else [] := by
  unfold pickL
  rw [List.filterMap_append]
  obtain ⟨l, b⟩ := p
  cases b <;> simp [List.filterMap]
theorem pickL_len (Z : List (Lk × Bool)) : (pickL Z).length ≤ Z.length := List.length_filterMap_le _ _
theorem pickL_mem {Z : List (Lk × Bool)} {l : Lk} : l ∈ pickL Z ↔ (l, true) ∈ Z := by
  unfold pickL
  rw [List.mem_filterMap]
  constructor
  · rintro ⟨⟨l', b⟩, h1, h2⟩
    cases b
    · simp at h2
    · simp at h2; subst h2; exact h1
  · intro h; exact ⟨(l, true), h, by simp⟩

/-- A list of links of the call's own, while it grows. -/
structure OwnL (w W : World) (v : Value) (zs : List Lk) : Prop where
  ow : W.ownsRow w.heap.size 86 3 v zs.length (lkCells zs)
  bl : Below w.heap.size w W
theorem OwnL.nil (w : World) : OwnL w w (.slice none 0 0) [] := ⟨⟨rfl, .inl ⟨rfl, rfl⟩⟩, Below.refl _ _⟩
theorem OwnL.lo {w W W' : World} {v : Value} {zs : List Lk} (h : OwnL w W v zs) (hb : Below W.heap.size W W') : OwnL w W' v zs :=
  ⟨h.ow.kept (below_row hb) (by cases hk : v.ownBlock with | none => exact .inl rfl | some k => exact .inr (fun e => by cases e)), below_go h.bl hb⟩
theorem OwnL.push {w W W1 : World} {v v' : Value} {zs : List Lk} {b : Lk} {o : Obj} (h : OwnL w W v zs) (hg : (W.alloc o).grownBy W1 v.ownBlock)
    (ho : W1.ownsRow w.heap.size 86 3 v' (zs.length + 1) (lkCells zs ++ [.int .i64 b.fr, .int .i64 b.to, .bool b.sr])) : OwnL w W1 v' (zs ++ [b]) :=
  ⟨by rw [lkCells_snoc]; simpa using ho, (below_al2 h.bl o).grown hg (below_al2 h.bl o).size (fun k e => own_base h.ow e)⟩

/-- Links that a function returns. -/
def RetL (zs : List Lk) (w : World) (e : Ending) (w' : World) : Prop := ∃ a c, e = .returned (.slice a zs.length c) ∧ LinksAt w' a zs ∧ (∀ g o, a = some ⟨g, o, none⟩ → g < w'.heap.size) ∧ (∀ g o, a = some ⟨g, o, none⟩ → w.heap.size ≤ g) ∧ Below w.heap.size w w'

set_option maxRecDepth 100000 in
set_option maxHeartbeats 4000000 in
theorem carrying_any (ls : List Lk) (a : Option Addr) (c : Nat) (cs : List Bool) (a2 : Option Addr) (c2 : Nat) (w : World) (hL : LinksAt w a ls) (hB : BoolsAt w a2 cs) (hn : ls.length ≤ 1000) (hk : cs.length = ls.length) :
    Calls Tryd.prog 63 #[.slice a ls.length c, .slice a2 cs.length c2] w (RetL (pickL (ls.zip cs)) w) := by
  have HL := Lib.hid hL; have HB := Lib.hid hB
  obtain ⟨i0, hi0, hy0, hy1, hy2⟩ := info_parts info86
  have O0 := Lib.hid (OwnL.nil w)
  have HK := Lib.hid hk
  clear hL hB hk
  go_enter Tryd.func63, Tryd.ntmps63
  go_wp2_with fail
  go_loopg [5, 6, 7, 10] ls.length (fun g s5 s6 s7 s10 wx => ∃ (i : Nat), i ≤ ls.length ∧ g = ls.length - i ∧ s10 = .int .i64 (i : Int) ∧ Hid (OwnL w wx s5 (pickL ((ls.zip cs).take i))))
  case atStart => exact ⟨0, by omega, by omega, rfl, O0⟩
  case round =>
    obtain ⟨i, hi, rfl, rfl, hO⟩ := hrel
    clear O0
    by_cases hlt : i < ls.length
    · have hz0 : (0 : Int) ≤ (i : Int) := by omega
      have hz1 : (i : Int) < (ls.length : Int) := by omega
      have hz2 : (i : Int) < (cs.length : Int) := by have := HK.out; omega
      obtain ⟨l, hl⟩ : ∃ l, ls[i]? = some l := ⟨ls[i]'hlt, List.getElem?_eq_getElem _⟩
      obtain ⟨b, hb⟩ : ∃ b, cs[i]? = some b := ⟨cs[i]'(by have := HK.out; omega), List.getElem?_eq_getElem _⟩
      obtain ⟨g, o, rfl, k1, k2, k3⟩ := HL.out _ _ hl
      obtain ⟨gb, ob, rfl, k4⟩ := HB.out _ _ hb
      have q1 : wr.cell? ⟨g, o + i * 3, none⟩ = some (.int .i64 l.fr) := cell_lo hO.out.bl k1
      have q2 : wr.cell? ⟨g, o + i * 3 + 1, none⟩ = some (.int .i64 l.to) := cell_lo hO.out.bl k2
      have q3 : wr.cell? ⟨g, o + i * 3 + 2, none⟩ = some (.bool l.sr) := cell_lo hO.out.bl k3
      have q4 : wr.cell? ⟨gb, ob + i, none⟩ = some (.bool b) := cell_lo hO.out.bl k4
      have hgb : gb < wr.heap.size := cell_lt q4
      have hZ : (ls.zip cs)[i]? = some (l, b) := by rw [List.getElem?_zip_eq_some]; exact ⟨hl, hb⟩
      have HT := Lib.hid (show pickL ((ls.zip cs).take (i + 1)) = pickL ((ls.zip cs).take i) ++ if b = true then [l] else [] by rw [take_next hZ, pickL_snoc])
      have HLn := Lib.hid (show (pickL ((ls.zip cs).take i)).length ≤ i from Nat.le_trans (pickL_len _) (by rw [List.length_take]; omega))
      have O1 := Lib.hid (hO.out.lo (below_al wr (.cells #[.int .i64 l.fr, .int .i64 l.to, .bool l.sr] 86)))
      have HSZ := Lib.hid hO.out.bl.size
      generalize hzs : pickL ((ls.zip cs).take i) = zs at *
      obtain ⟨fr, to, sr⟩ := l
      simp only at *
      clear hzs hl hb k1 k2 k3 k4 hZ hO
      cases b
      · have HN := Lib.hid (show pickL ((ls.zip cs).take (i + 1)) = zs by rw [HT.out]; simp)
        clear HT
        go_wp2_with fail
        go_roundg (ls.length - (i + 1))
        case measure => omega
        case rel => exact ⟨i + 1, by omega, rfl, by simp, by rw [HN.out]; exact O1⟩
      · have HN := Lib.hid (show pickL ((ls.zip cs).take (i + 1)) = zs ++ [⟨fr, to, sr⟩] by rw [HT.out]; rfl)
        clear HT
        go_wp2_with (at_builtin; go_must (refine wpList_append_lies _ rfl _ _ 30 rfl w.heap.size 86 i0 (.agg #[.int .i64 0, .int .i64 0, .bool false]) 3 24 Tryd.underlying30 hi0 hy0 hy1 hy2 rfl (by decide) _ zs.length (lkCells zs) rfl (O1.out.ow.alloc _) ⟨wr.heap.size + 1, 0, none⟩ 1 1 [.int .i64 fr, .int .i64 to, .bool sr] rfl rfl (by have h9 := World.news_of_block (cs := #[.int .i64 fr, .int .i64 to, .bool sr]) (t := 86) (fr := (0, 0)) (heap_alloc_new (wr.alloc (.cells #[.int .i64 fr, .int .i64 to, .bool sr] 86)) (.cells #[.int .i64 fr, .int .i64 to, .bool sr] 86)); rwa [World.size_alloc] at h9) (by simp [Value.oneCell']) (by omega) (by have := HLn.out; unfold maxLen; omega) (by have := HLn.out; omega) (by have := HSZ.out; simp; omega) (wr.heap.size + 1 + 1) (by simp) ?_); intro gA capA w1 hown hgrow hat hlt1; have OP := Lib.hid (O1.out.push (b := ⟨fr, to, sr⟩) hgrow hown); clear hown hgrow hat hlt1)
        go_roundg (ls.length - (i + 1))
        case measure => omega
        case rel => exact ⟨i + 1, by omega, rfl, by simp, by rw [HN.out]; exact OP⟩
    · have hz1 : ¬ (i : Int) < (ls.length : Int) := by omega
      have hO2 := hO.out
      rw [List.take_of_length_le (by rw [List.length_zip]; omega)] at hO2
      obtain ⟨aL, cL, rfl, hI, hN⟩ := own_links hO2.ow
      have HI := Lib.hid hI
      have HN := Lib.hid (fun g o e => (hN g o e).2)
      have HM := Lib.hid (fun g o e => (hN g o e).1)
      have HB2 := Lib.hid hO2.bl
      clear hO hO2 hI hN hlt
      go_wp2_with fail
      go_returns
      exact ⟨aL, cL, rfl, HI.out, HN.out, HM.out, HB2.out⟩

end Go.Proofs.YtaloffdkadhhnaaDoor

namespace Go.Proofs.YtaloffdkadhhnaaDoor
open Go.RowKit

attribute [local go_sem] Oper.semAt_some

/-- The rack of just the links that carry. -/
def Rk.car (r : Rk) (cs : List Bool) : Rk := { r with la := none, lc := 0, ls := pickL (r.ls.zip cs) }
def hitE (r : Rk) (xs : List Int) (ball : List Rg) (bs : List Int) (cs : List Bool) : Int := if balE r xs ball = 0 then (if truthB r ball bs cs then 0 else 2) else balE r xs ball
def hitB (r : Rk) (bs : List Int) (cs : List Bool) (St : Nat) : Nat := hitN (r.car cs) (toCs bs) (fun _ => true) St
def hitL (r : Rk) (xs : List Int) (ball : List Rg) (bs : List Int) (cs : List Bool) : List Int := if hitE r xs ball bs cs = 0 then els (hitB r bs cs (setN xs)) else []

/-- What Hit returns. -/
def HitP (r : Rk) (xs : List Int) (ball : List Rg) (bs : List Int) (cs : List Bool) (w : World) (e : Ending) (w' : World) : Prop :=
  ∃ a c, e = .returned (.tuple #[.slice a (hitL r xs ball bs cs).length c, .int .i64 (hitE r xs ball bs cs)]) ∧ IntsAt w' a (hitL r xs ball bs cs) ∧ Below w.heap.size w w' ∧ (a = none → hitL r xs ball bs cs = [] ∧ c = 0)

theorem own_none {W : World} {base : Nat} {a : Option Addr} {n c : Nat} {xs : List Int} (h : W.ownsRow base 3 1 (.slice a n c) n (xs.map (Value.int .i64))) (ha : a = none) : xs = [] ∧ c = 0 := by
  subst ha
  have hn := (own_intsAt h).2
  rcases h.2 with ⟨e1, h0⟩ | ⟨g, cap, cur, e1, _⟩
  · cases e1
    exact ⟨List.length_eq_zero_iff.1 hn.symm, rfl⟩
  · cases e1

theorem truth_len {r : Rk} {ball : List Rg} {bs : List Int} {cs : List Bool} (h : truthB r ball bs cs = true) : (bs.length : Int) = r.rows ∧ cs.length = r.ls.length ∧ rowsB ball bs bs.length = true ∧ carsB r.ls cs r.ls.length = true := by
  unfold truthB at h
  simpa [Bool.and_eq_true] using h
theorem ball_rg {ball : List Rg} (h : ∀ b ∈ ball, wrongG b = false) (i : Nat) : 0 ≤ (ball.getD i ⟨0, 0⟩).lo ∧ (ball.getD i ⟨0, 0⟩).hi ≤ 60 := by
  rw [List.getD_eq_getElem?_getD]
  cases hb : ball[i]? with
  | none => exact ⟨Int.le_refl _, by decide⟩
  | some b =>
    have := h b (List.mem_of_getElem? hb)
    unfold wrongG at this
    simp at this
    exact ⟨by simpa using this.1, by simpa using this.2.1⟩
theorem rows_in {ball : List Rg} {bs : List Int} (hb : ∀ b ∈ ball, wrongG b = false) (h : rowsB ball bs bs.length = true) (i : Nat) : 0 ≤ bs.getD i 0 ∧ bs.getD i 0 ≤ 60 := by
  by_cases hi : i < bs.length
  · unfold rowsB at h
    rw [List.all_eq_true] at h
    have h1 := inB_iff.1 (h i (List.mem_range.2 hi))
    have h2 := ball_rg hb i
    omega
  · rw [List.getD_eq_getElem?_getD, List.getElem?_eq_none (by omega)]
    exact ⟨Int.le_refl _, by decide⟩

/-- Here a 'copy' comes up. -/
theorem copy_here {P : Program} {ops : Array Oper} {d : Option Tmp} {s x : Operand} {t t' ty : TypeId} {p : String} {af : Array Edge} {rest : List Oper} {a : Act} {w : World} {Q : Exit → Act → World → Prop}
    (h : wpList P ops Q ({ dst := d, op := .call { callee := .builtin .copy, args := #[s, x], argTypes := #[t, t'] }, type := ty, pos := p, after := af, guard := none } :: rest) a w) :
    wpList P ops Q ({ dst := d, op := .call { callee := .builtin .copy, args := #[s, x], argTypes := #[t, t'] }, type := ty, pos := p, after := af, guard := none } :: rest) a w := h

/-- The boards copied into a truth. -/
theorem copied (bs : List Int) (fv : Value) (h : bs.length ≤ 4) :
    (bs.map (Value.int .i64)) ++ ([Value.int .i64 0, .int .i64 0, .int .i64 0, .int .i64 0, fv].drop bs.length) = [.int .i64 (bs.getD 0 0), .int .i64 (bs.getD 1 0), .int .i64 (bs.getD 2 0), .int .i64 (bs.getD 3 0), fv] := by
  match bs, h with
  | [], _ => rfl
  | [a], _ => rfl
  | [a, b], _ => rfl
  | [a, b, c], _ => rfl
  | [a, b, c, d], _ => rfl

set_option maxRecDepth 100000 in
set_option maxHeartbeats 8000000 in
theorem Hit_any (r : Rk) (xs : List Int) (a : Option Addr) (c : Nat) (ball : List Rg) (a2 : Option Addr) (c2 : Nat) (bs : List Int) (a3 : Option Addr) (c3 : Nat) (cs : List Bool) (a4 : Option Addr) (c4 : Nat) (w : World)
    (hL : LinksAt w r.la r.ls) (hn : r.ls.length ≤ 1000) (hla : ∀ g o, r.la = some ⟨g, o, none⟩ → g < w.heap.size) (hX : IntsAt w a xs) (hm : xs.length ≤ 1000) (hG : RgsAt w a2 ball) (hg : ball.length ≤ 1000)
    (hI : IntsAt w a3 bs) (hbs : bs.length ≤ 1000) (hB : BoolsAt w a4 cs) (hcs : cs.length ≤ 1000) (hT : TabOK w) :
    Calls Tryd.prog 27 #[r.val, .slice a xs.length c, .slice a2 ball.length c2, .slice a3 bs.length c3, .slice a4 cs.length c4] w (HitP r xs ball bs cs w) := by
  have CB := Lib.hid (fun W (hb : Below w.heap.size w W) => checkBall_any r xs a c ball a2 c2 W (hL.lo hb) hn (hX.lo hb) hm (hG.lower hb) hg)
  have HP : Hid (∀ e w', (∃ a c, e = .returned (.tuple #[.slice a (hitL r xs ball bs cs).length c, .int .i64 (hitE r xs ball bs cs)]) ∧ IntsAt w' a (hitL r xs ball bs cs) ∧ Below w.heap.size w w' ∧ (a = none → hitL r xs ball bs cs = [] ∧ c = 0)) → HitP r xs ball bs cs w e w') := Lib.hid (fun e w' h => h)
  have HE : Hid (hitE r xs ball bs cs = if balE r xs ball = 0 then (if truthB r ball bs cs then 0 else 2) else balE r xs ball) := Lib.hid rfl
  have HL0 : Hid (hitL r xs ball bs cs = if hitE r xs ball bs cs = 0 then els (hitB r bs cs (setN xs)) else []) := Lib.hid rfl
  have S0 := Lib.hid (Sp.start r w)
  unfold rCells at S0
  by_cases h0 : balE r xs ball = 0
  · obtain ⟨hck, hb4, hbw⟩ := bal_ok h0
    have hf := (chk_ok hck).1
    have hok := (faultN_ok hf).1
    have hbl : (ball.length : Int) = r.rows := by
      unfold balE at h0
      rw [if_pos hck] at h0
      split at h0
      · rename_i hib; unfold isBallB at hib; simp at hib; exact hib.1
      · cases h0
    have TB := Lib.hid (fun W (hb : Below w.heap.size w W) => isTruth_any r ball a2 c2 bs a3 c3 cs a4 c4 W hok hbl (hL.lo hb) hn (hG.lower hb) (hI.lo hb) (fun i v hv => by obtain ⟨g, o, e, h1⟩ := hB i v hv; exact ⟨g, o, e, cell_lo hb h1⟩) hbs hcs)
    have hNc : balN r xs ball = setN xs := by unfold balN; rw [if_pos h0]
    rw [hNc, h0] at CB
    by_cases ht : truthB r ball bs cs = true
    · obtain ⟨t1, t2, t3, t4⟩ := truth_len ht
      have hs := chk_set hck
      have HEV := Lib.hid (show hitE r xs ball bs cs = 0 by rw [HE.out, if_pos h0, ht]; rfl)
      have HLV := Lib.hid (show hitL r xs ball bs cs = els (hitB r bs cs (setN xs)) by rw [HL0.out, if_pos HEV.out])
      have CA := Lib.hid (fun W (hb : Below w.heap.size w W) => carrying_any r.ls r.la r.lc cs a4 c4 W (hL.lo hb) (fun i v hv => by obtain ⟨g, o, e, h1⟩ := hB i v hv; exact ⟨g, o, e, cell_lo hb h1⟩) hn t2)
      have hlk : LinksOk (pickL (r.ls.zip cs)) := fun l hl => linksOk_of hf l (List.of_mem_zip (pickL_mem.1 hl)).1
      have hpl : (pickL (r.ls.zip cs)).length ≤ 1000 := Nat.le_trans (pickL_len _) (by rw [List.length_zip]; omega)
      have hcok : (toCs bs).Ok := by
        have a0 := rows_in hbw t3 0; have a1 := rows_in hbw t3 1; have a2 := rows_in hbw t3 2; have a3 := rows_in hbw t3 3
        unfold toCs
        constructor <;> simp only <;> omega
      have LF := Lib.hid (fun W a' c' (hb : Below w.heap.size w W) (h1 : LinksAt W a' (pickL (r.ls.zip cs))) (h2 : ∀ g o, a' = some ⟨g, o, none⟩ → g < W.heap.size) =>
        left_any { r.car cs with la := a', lc := c' } (toCs bs) 64 #[] (setN xs) (fun _ => True) (fun _ => true) W (carry_may _) trivial ⟨⟨hok.r1, hok.r2, hok.m1, hok.m2, hok.g1, hok.g2, hok.c1, hok.c2⟩, h1, h2, hlk, hpl, hT.lo hb⟩ hcok hs.1 hs.2.1)
      have hlt : hitB r bs cs (setN xs) < 65536 := Sub.lt (leftN_le _ _ _ _) hs.1
      have LI := Lib.hid (fun W (hb : Below w.heap.size w W) => list_any (hitB r bs cs (setN xs)) W hlt (hT.lo hb))
      have HPOS : Hid (0 < bs.length) := Lib.hid (by have := hok.r1; omega)
      have HLEN : Hid (bs.length ≤ 4) := Lib.hid (by have := hok.r2; omega)
      have HI := Lib.hid hI
      have HCP : Hid (∀ fv, (bs.map (Value.int .i64)) ++ ([Value.int .i64 0, .int .i64 0, .int .i64 0, .int .i64 0, fv].drop bs.length) = [.int .i64 (toCs bs).b0, .int .i64 (toCs bs).b1, .int .i64 (toCs bs).b2, .int .i64 (toCs bs).b3, fv]) := Lib.hid (fun fv => copied bs fv HLEN.out)
      rw [ht] at TB
      have HHB : ∀ a' c', hitN { r.car cs with la := a', lc := c' } (toCs bs) (fun _ => true) (setN xs) = hitB r bs cs (setN xs) := fun _ _ => rfl
      simp only [HHB] at LF
      generalize hitB r bs cs (setN xs) = HBN at *
      generalize hitL r xs ball bs cs = RL at *
      generalize hitE r xs ball bs cs = RE at *
      generalize HitP r xs ball bs cs w = Post at *
      clear HHB hlt hlk hpl hcok h0 hck hb4 hbw hf hok hbl hNc ht t1 t2 t3 t4 hs HE HL0 hL hla hX hG hI hB hT
      generalize setN xs = St at *
      unfold sVal sCells Rk.car at LF
      simp only at LF
      generalize hpk : pickL (r.ls.zip cs) = PK at *
      clear hpk
      generalize toCs bs = cc at *
      unfold Rk.val at *
      go_enter Tryd.func27, Tryd.ntmps27
      go_wp2_with fail
      refine (CB.out _ S0.out.bl).mono ?_
      rintro e w1 ⟨rfl, hb⟩
      have S1 := Lib.hid (S0.out.go hb)
      obtain ⟨r0, r1, r2, r3, r4⟩ := S1.out.c
      clear hb S0
      go_wp2_with fail
      refine (TB.out _ S1.out.bl).mono ?_
      rintro e w2 ⟨rfl, hb⟩
      have S2 := Lib.hid (S1.out.go hb)
      clear hb S1 r0 r1 r2 r3 r4
      obtain ⟨r0, r1, r2, r3, r4⟩ := S2.out.c
      go_wp2_with fail
      refine (CA.out _ S2.out.bl).mono ?_
      rintro e w3 ⟨a5, c5, rfl, hl5, hg5, hgn, hb⟩
      have T7 := Lib.hid S2.out.bK.lt
      have S3 := Lib.hid (S2.out.go hb)
      have L3 := Lib.hid hl5
      have G3 := Lib.hid hg5
      have GN := Lib.hid hgn
      clear hb S2 hl5 hg5 r0 r1 r2 r3 r4
      obtain ⟨r0, r1, r2, r3, r4⟩ := S3.out.c
      have f4 := S3.out.bK.fr 4
      obtain ⟨b0, hb0⟩ : ∃ b0, bs[0]? = some b0 := ⟨bs[0]'HPOS.out, List.getElem?_eq_getElem _⟩
      obtain ⟨g3, o3, rfl, _⟩ := HI.out 0 b0 hb0
      clear hb0
      have TK := Lib.hid (Blk.setAt S3.out.bK 4 (.slice a5 PK.length c5))
      have TA := Lib.hid ((Alt.refl (fun k => w.heap.size ≤ k) w3).setCell (q := ⟨w.heap.size, 4, none⟩) (Nat.le_refl _) (.slice a5 PK.length c5))
      have TZ : Hid ((w3.setCell ⟨w.heap.size, 4, none⟩ (.slice a5 PK.length c5)).heap.size = w3.heap.size) := Lib.hid (by simp [World.setCell])
      have T1 := Lib.hid (Blk.alt (p := fun _ => False) TK.out ((Alt.refl _ _).alloc (.cells #[.int .i64 0, .int .i64 0, .int .i64 0, .int .i64 0, .func (.func 64) #[] #[]] 113)) id)
      have T2 : Hid (Blk ((w3.setCell ⟨w.heap.size, 4, none⟩ (.slice a5 PK.length c5)).alloc (.cells #[.int .i64 0, .int .i64 0, .int .i64 0, .int .i64 0, .func (.func 64) #[] #[]] 113)) w3.heap.size #[.int .i64 0, .int .i64 0, .int .i64 0, .int .i64 0, .func (.func 64) #[] #[]] 113) := Lib.hid (by
        have := Blk.new (w3.setCell ⟨w.heap.size, 4, none⟩ (.slice a5 PK.length c5)) #[.int .i64 0, .int .i64 0, .int .i64 0, .int .i64 0, .func (.func 64) #[] #[]] 113
        rwa [TZ.out] at this)
      have T3 := Lib.hid (((Alt.of_below (p := fun k => w.heap.size ≤ k) S3.out.bl (fun k _ e => e)).trans (TA.out.alloc (.cells #[.int .i64 0, .int .i64 0, .int .i64 0, .int .i64 0, .func (.func 64) #[] #[]] 113))).below (Nat.le_refl _) fun _ h => h)
      have TL := Lib.hid (L3.out.alt (((Alt.refl (fun k => k = w.heap.size) w3).setCell (q := ⟨w.heap.size, 4, none⟩) rfl (.slice a5 PK.length c5)).alloc (.cells #[.int .i64 0, .int .i64 0, .int .i64 0, .int .i64 0, .func (.func 64) #[] #[]] 113)) (fun g o e h => by have := GN.out g o e; have := T7.out; omega))
      have T5 : Hid (w3.heap.size < ((w3.setCell ⟨w.heap.size, 4, none⟩ (.slice a5 PK.length c5)).alloc (.cells #[.int .i64 0, .int .i64 0, .int .i64 0, .int .i64 0, .func (.func 64) #[] #[]] 113)).heap.size) := Lib.hid (by have := TZ.out; simp [this])
      have T6 : Hid (w.heap.size < w3.heap.size) := Lib.hid S3.out.bK.lt
      go_upto_region 8 with fail
      generalize World.alloc _ _ = W4 at T1 T2 T3 TL T5 ⊢
      clear TK TA TZ r0 r1 r2 r3 r4 f4 S3 L3
      have HI4 := Lib.hid (HI.out.lo T3.out)
      have HSRC := Lib.hid (show ∀ (j : Nat) (v : Value), (bs.map (Value.int .i64))[j]? = some v → W4.cell? ((⟨g3, o3, none⟩ : Addr).add j) = some v from fun j v hv => by
        rw [List.getElem?_map] at hv
        cases hx : bs[j]? with
        | none => rw [hx] at hv; cases hv
        | some x =>
          rw [hx] at hv
          cases hv
          obtain ⟨g', o', e, hc⟩ := HI4.out j x hx
          cases e
          have e2 : (⟨g3, o3, none⟩ : Addr).add j = ⟨g3, o3 + j, none⟩ := by unfold Addr.add; split <;> simp_all
          rw [e2]
          exact hc)
      have HMIN := Lib.hid (show (bs.map (Value.int .i64)).length = Nat.min bs.length 4 by have := HLEN.out; rw [List.length_map]; exact (Nat.min_eq_left this).symm)
      have HFIT := Lib.hid (show 0 + (bs.map (Value.int .i64)).length ≤ [Value.int .i64 0, .int .i64 0, .int .i64 0, .int .i64 0, .func (.func 64) #[] #[]].length by have := HLEN.out; simp; omega)
      have HONE := Lib.hid (show ∀ v ∈ bs.map (Value.int .i64), v.oneCell' = true by intro v hv; obtain ⟨x, _, rfl⟩ := List.mem_map.1 hv; rfl)
      obtain ⟨w5, hrun5, C5, B5⟩ : ∃ w5, (Builtin.copy_ #[25, 25] 3 #[.slice (some ⟨w3.heap.size, 0, none⟩) 4 4, .slice (some ⟨g3, o3, none⟩) bs.length c3]).run Tryd.prog W4 = .ok (goInt (bs.map (Value.int .i64)).length) w5 ∧
          Hid (Blk w5 w3.heap.size #[.int .i64 cc.b0, .int .i64 cc.b1, .int .i64 cc.b2, .int .i64 cc.b3, .func (.func 64) #[] #[]] 113) ∧ Hid (Below w3.heap.size W4 w5) := by
        refine ⟨_, run_copy_row (P := Tryd.prog) W4 25 25 3 3 w3.heap.size 0 4 4 ⟨g3, o3, none⟩ bs.length c3 _ 113 (bs.map (Value.int .i64)) Tryd.underlying25 (by kernel_rfl) T2.out HMIN.out HSRC.out HFIT.out HONE.out, Lib.hid ?_, Lib.hid (below_setRow (Below.refl _ _) (Nat.le_refl _) _)⟩
        have h9 := setRow_heap W4 w3.heap.size _ ([Value.int .i64 cc.b0, .int .i64 cc.b1, .int .i64 cc.b2, .int .i64 cc.b3, .func (.func 64) #[] #[]]).toArray 113 (0, 0) T2.out
        rw [show ([Value.int .i64 0, .int .i64 0, .int .i64 0, .int .i64 0, .func (.func 64) #[] #[]].take 0 ++ bs.map (Value.int .i64) ++ [Value.int .i64 0, .int .i64 0, .int .i64 0, .int .i64 0, .func (.func 64) #[] #[]].drop (0 + (bs.map (Value.int .i64)).length)) = [Value.int .i64 cc.b0, .int .i64 cc.b1, .int .i64 cc.b2, .int .i64 cc.b3, .func (.func 64) #[] #[]] by
          have := HCP.out (.func (.func 64) #[] #[])
          rw [List.length_map, Nat.zero_add, List.take_zero, List.nil_append]; exact this]
        exact h9
      have K5 := Lib.hid (Blk.alt T1.out (Alt.of_below (p := fun k => w3.heap.size ≤ k) B5.out (fun k _ e => e)) (by have := T6.out; omega))
      have L5 := Lib.hid (TL.out.alt (Alt.of_below (p := fun k => w3.heap.size ≤ k) B5.out (fun k _ e => e)) (fun g o e h => by have := G3.out g o e; omega))
      have BB5 := Lib.hid (T3.out.trans (B5.out.mono (by have := T6.out; omega)))
      have G5 := Lib.hid (show ∀ g o, a5 = some ⟨g, o, none⟩ → g < w5.heap.size from fun g o e => by have := G3.out g o e; have := B5.out.size; have := T5.out; omega)
      have LF5 := Lib.hid (LF.out w5 a5 c5 BB5.out L5.out G5.out)
      have r0 : w5.cell? ⟨w.heap.size, 0, none⟩ = some (.int .i64 r.rows) := K5.out.cell 0 rfl
      have r1 : w5.cell? ⟨w.heap.size, 1, none⟩ = some (.int .i64 r.mid) := K5.out.cell 1 rfl
      have r2 : w5.cell? ⟨w.heap.size, 2, none⟩ = some (.int .i64 r.gap) := K5.out.cell 2 rfl
      have r3 : w5.cell? ⟨w.heap.size, 3, none⟩ = some (.int .i64 r.reach) := K5.out.cell 3 rfl
      have r4 : w5.cell? ⟨w.heap.size, 4, none⟩ = some (.slice a5 PK.length c5) := K5.out.cell 4 rfl
      have s0 : w5.cell? ⟨w3.heap.size, 0, none⟩ = some (.int .i64 cc.b0) := C5.out.cell 0 rfl
      have s1 : w5.cell? ⟨w3.heap.size, 1, none⟩ = some (.int .i64 cc.b1) := C5.out.cell 1 rfl
      have s2 : w5.cell? ⟨w3.heap.size, 2, none⟩ = some (.int .i64 cc.b2) := C5.out.cell 2 rfl
      have s3 : w5.cell? ⟨w3.heap.size, 3, none⟩ = some (.int .i64 cc.b3) := C5.out.cell 3 rfl
      have s4 : w5.cell? ⟨w3.heap.size, 4, none⟩ = some (.func (.func 64) #[] #[]) := C5.out.cell 4 rfl
      clear T1 T2 T3 T5 T6 T7 TL HI4 HSRC HMIN HFIT HONE LF CA CB TB HI HCP
      go_wp2_with fail
      refine LF5.out.mono ?_
      rintro e w6 ⟨rfl, hb⟩
      have B6 := Lib.hid (below_go BB5.out hb)
      clear hb r0 r1 r2 r3 r4 s0 s1 s2 s3 s4 hrun5
      go_wp2_with fail
      refine (LI.out _ B6.out).mono ?_
      rintro e w7 ⟨v7, rfl, ho, hb⟩
      obtain ⟨a7, c7, rfl⟩ := own_len ho
      have I7 := Lib.hid (own_intsAt ho).1
      have N7 := Lib.hid (fun e => own_none ho e)
      have B7 := Lib.hid (below_go B6.out hb)
      clear hb ho
      go_wp2_with fail
      exact HP.out _ _ ⟨a7, c7, by rw [HLV.out, HEV.out]; first | done | rfl, by rw [HLV.out]; exact I7.out, B7.out, by rw [HLV.out]; exact N7.out⟩
    · have ht' : truthB r ball bs cs = false := by simpa using ht
      have HEV := Lib.hid (show hitE r xs ball bs cs = 2 by rw [HE.out, if_pos h0, ht']; rfl)
      have HLV := Lib.hid (show hitL r xs ball bs cs = [] by rw [HL0.out, HEV.out]; rfl)
      rw [ht'] at TB
      generalize hitL r xs ball bs cs = RL at *
      generalize hitE r xs ball bs cs = RE at *
      generalize HitP r xs ball bs cs w = Post at *
      clear h0 hck hb4 hbw hf hok hbl hNc ht ht' HE HL0 hL hla hX hG hI hB hT
      generalize setN xs = St at *
      unfold Rk.val at *
      go_enter Tryd.func27, Tryd.ntmps27
      go_wp2_with fail
      refine (CB.out _ S0.out.bl).mono ?_
      rintro e w1 ⟨rfl, hb⟩
      have S1 := Lib.hid (S0.out.go hb)
      obtain ⟨r0, r1, r2, r3, r4⟩ := S1.out.c
      clear hb S0
      go_wp2_with fail
      refine (TB.out _ S1.out.bl).mono ?_
      rintro e w2 ⟨rfl, hb⟩
      have S2 := Lib.hid (S1.out.go hb)
      clear hb S1 r0 r1 r2 r3 r4
      go_wp2_with fail
      exact HP.out _ _ ⟨none, 0, by rw [HLV.out, HEV.out]; rfl, by rw [HLV.out]; exact fun i v h => by simp at h, S2.out.bl, fun _ => ⟨HLV.out, rfl⟩⟩
  · have HEV := Lib.hid (show hitE r xs ball bs cs = balE r xs ball by rw [HE.out, if_neg h0])
    have HLV := Lib.hid (show hitL r xs ball bs cs = [] by rw [HL0.out, HEV.out, if_neg h0])
    have hE' : (balE r xs ball == 0) = false := by simpa using h0
    generalize hitL r xs ball bs cs = RL at *
    generalize hitE r xs ball bs cs = RE at *
    generalize HitP r xs ball bs cs w = Post at *
    generalize balE r xs ball = E at *
    generalize balN r xs ball = N at *
    clear h0 HE HL0 hL hla hX hG hI hB hT
    unfold Rk.val at *
    go_enter Tryd.func27, Tryd.ntmps27
    go_wp2_with fail
    refine (CB.out _ S0.out.bl).mono ?_
    rintro e w1 ⟨rfl, hb⟩
    have S1 := Lib.hid (S0.out.go hb)
    clear hb S0
    go_wp2_with fail
    exact HP.out _ _ ⟨none, 0, by rw [HLV.out, HEV.out]; rfl, by rw [HLV.out]; exact fun i v h => by simp at h, S1.out.bl, fun _ => ⟨HLV.out, rfl⟩⟩

end Go.Proofs.YtaloffdkadhhnaaDoor
