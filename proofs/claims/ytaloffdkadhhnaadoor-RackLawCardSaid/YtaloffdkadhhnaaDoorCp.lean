/- The iterator over a ball's courses, as an iterator. -/
import Derived.Test.YtaloffdkadhhnaaDoorCo
import Derived.Test.YtaloffdkadhhnaaDoorEb
set_option linter.unusedVariables false
set_option linter.unusedSimpArgs false
namespace Go.Proofs.YtaloffdkadhhnaaDoor
open Go.RowKit Go.Shelf

attribute [local go_sem] Oper.semAt_some

theorem eg113 : ∀ args w, (callFunc 113 args).run Tryd.prog w = .ok (.enter 113 args) w := enters_of Tryd.func113 (by kernel_rfl) rfl

set_option maxHeartbeats 1000000 in
theorem courses_any (a : Option Addr) (n c : Nat) (w : World) :
    Calls Tryd.prog 99 #[.slice a n c] w fun e w' => e = .returned (.func (.func 113) #[] #[.pointer (some ⟨w.heap.size, 0, none⟩)]) ∧ w' = w.alloc (.cells #[.slice a n c] 51) := by
  go_enter Tryd.func99, Tryd.ntmps99
  go_wp2_with fail
  go_ret
  exact ⟨rfl, rfl⟩

set_option maxRecDepth 100000 in
set_option maxHeartbeats 4000000 in
theorem course_iter (ball : List Rg) (a : Option Addr) (c bB : Nat) (w : World) (hB : Boxed w bB 51 (.slice a ball.length c)) (hR : RgsAt w a ball) (hga : ∀ g o, a = some ⟨g, o, none⟩ → g < w.heap.size) (hn : ball.length ≤ 4) (hw : ∀ x ∈ ball, wrongG x = false) :
    Iter Tryd.prog 113 #[.pointer (some ⟨bB, 0, none⟩)] (fun x : List Int => #[(toCs x).val]) (choices ball) 3 (fun k => k = bB ∨ ∃ o, a = some ⟨k, o, none⟩) w := by
  intro l J Jx W hW hJ hJx hY h0
  have hBW := Boxed.alt hB hW (by simp)
  have hRW := hR.alt hW (fun g o e h => h (.inr ⟨o, e⟩))
  have hz := hW.size
  have hbB := hBW.lt
  obtain ⟨W3, hW3⟩ : ∃ W3, Hid (W3 = ((W.alloc (.cells #[.func (.yield l) #[] #[]] 160)).alloc (.cells #[.int .i64 0, .int .i64 0, .int .i64 0, .int .i64 0] 111)).alloc (.cells #[.func (.func 114) #[] #[.pointer (some ⟨bB, 0, none⟩), .pointer (some ⟨W.heap.size, 0, none⟩), .pointer (some ⟨W.heap.size + 1, 0, none⟩), .pointer (some ⟨W.heap.size + 1 + 1, 0, none⟩)]] 126)) := ⟨_, Lib.hid rfl⟩
  have X3 : ∀ p, Alt p W W3 := fun p => by rw [hW3.out]; exact (((Alt.refl _ _).alloc _).alloc _).alloc _
  have bY : Boxed W3 W.heap.size 160 (.func (.yield l) #[] #[]) := by
    rw [hW3.out]
    exact Boxed.alt (p := fun _ => False) (Boxed.new W 160 _) (((Alt.refl _ _).alloc _).alloc _) id
  have bK : Blk W3 (W.heap.size + 1) #[.int .i64 0, .int .i64 0, .int .i64 0, .int .i64 0] 111 := by
    rw [hW3.out]
    have := Blk.alt (p := fun _ => False) (Blk.new (W.alloc (.cells #[.func (.yield l) #[] #[]] 160)) #[.int .i64 0, .int .i64 0, .int .i64 0, .int .i64 0] 111) ((Alt.refl _ _).alloc (.cells #[.func (.func 114) #[] #[.pointer (some ⟨bB, 0, none⟩), .pointer (some ⟨W.heap.size, 0, none⟩), .pointer (some ⟨W.heap.size + 1, 0, none⟩), .pointer (some ⟨W.heap.size + 1 + 1, 0, none⟩)]] 126)) id
    rwa [World.size_alloc] at this
  have bF : Boxed W3 (W.heap.size + 2) 126 (.func (.func 114) #[] #[.pointer (some ⟨bB, 0, none⟩), .pointer (some ⟨W.heap.size, 0, none⟩), .pointer (some ⟨W.heap.size + 1, 0, none⟩), .pointer (some ⟨W.heap.size + 2, 0, none⟩)]) := by
    rw [hW3.out]
    have := Boxed.new ((W.alloc (.cells #[.func (.yield l) #[] #[]] 160)).alloc (.cells #[.int .i64 0, .int .i64 0, .int .i64 0, .int .i64 0] 111)) 126 (.func (.func 114) #[] #[.pointer (some ⟨bB, 0, none⟩), .pointer (some ⟨W.heap.size, 0, none⟩), .pointer (some ⟨W.heap.size + 1, 0, none⟩), .pointer (some ⟨W.heap.size + 1 + 1, 0, none⟩)])
    rwa [World.size_alloc, World.size_alloc] at this
  have z3 : W.heap.size + 3 ≤ W3.heap.size := by rw [hW3.out]; simp
  have FA : CallsIn Fence.wide 0 Tryd.prog 114 #[.int .i64 0, .pointer (some ⟨bB, 0, none⟩), .pointer (some ⟨W.heap.size, 0, none⟩), .pointer (some ⟨W.heap.size + 1, 0, none⟩), .pointer (some ⟨W.heap.size + 2, 0, none⟩)] W3 _ :=
    from_any ball a c l bB W.heap.size hbB (fun g o e => Nat.lt_of_lt_of_le (hga g o e) hz) hn hw (choices ball) J Jx hJ hY ball.length 0 [] [] [] [0, 0, 0, 0] W3 (by omega) rfl rfl rfl
      (by match ball.length, hn with | 0, _ => rfl | 1, _ => rfl | 2, _ => rfl | 3, _ => rfl | 4, _ => rfl | n + 5, h => omega) (by simp) z3
      ⟨Boxed.alt hBW (X3 (fun _ => False)) id, hRW.alt (X3 (fun _ => False)) (fun _ _ _ => id), bY, bK, bF⟩ (hJ _ _ _ h0 (X3 _))
  have FX := Lib.hid (FA.mono (R' := fun e B => (∃ v, e = .returned v) ∧ (J (choices ball) B ∨ ∃ pre x post, choices ball = pre ++ x :: post ∧ Jx (pre ++ [x]) B)) (by
    rintro e B (⟨rfl, hJ, _⟩ | ⟨rfl, hx⟩)
    · exact ⟨⟨_, rfl⟩, .inl (by simpa using hJ)⟩
    · exact ⟨⟨_, rfl⟩, .inr hx⟩))
  clear FA hB hR hga hn hw hW hJ hJx hY h0 hBW hRW hz hbB X3 bY bK bF z3
  refine callsIn_of_wp Tryd.func113 rfl trivial ?_ rfl
  simp only [Tryd.ntmps113, List.size_toArray, List.length_cons, List.length_nil, Nat.reduceAdd, Nat.reduceSub, Array.replicate_succ, Array.replicate_zero, List.push_toArray, List.append_toArray, List.nil_append, List.cons_append]
  gi_wp2
  have hWo := hW3.out
  rw [← hWo]
  clear hWo
  refine ⟨trivial, rfl, ?_⟩
  refine FX.out.mono ?_
  rintro e B ⟨⟨v, rfl⟩, h⟩
  gi_wp2
  go_end0
  exact ⟨⟨_, rfl⟩, h⟩

end Go.Proofs.YtaloffdkadhhnaaDoor
