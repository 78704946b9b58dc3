/- leaves, and the iterator that it gives. -/
import Derived.Test.YtaloffdkadhhnaaDoorLv
set_option linter.unusedVariables false
set_option linter.unusedSimpArgs false
namespace Go.Proofs.YtaloffdkadhhnaaDoor
open Go.RowKit Go.Shelf Go.Maps

attribute [local go_sem] Oper.semAt_some

theorem eg98 : ∀ args w, (callFunc 98 args).run Tryd.prog w = .ok (.enter 98 args) w := enters_of Tryd.func98 (by kernel_rfl) rfl

/-- The world behind a call of leaves. -/
def lvW (r : Rk) (St : Nat) (a : Option Addr) (n c k : Nat) (cap : Array Value) (w : World) : World :=
  (((w.alloc (.cells (rCells r) 32)).alloc (.cells #[.int .u16 (St : Nat)] 100)).alloc (.cells #[.slice a n c] 51)).alloc (.cells #[.func (.func k) #[] cap] 109)
theorem lvW_size {r : Rk} {St : Nat} {a : Option Addr} {n c k : Nat} {cap : Array Value} {w : World} : (lvW r St a n c k cap w).heap.size = w.heap.size + 4 := by unfold lvW; simp
theorem lvW_alt {r : Rk} {St : Nat} {a : Option Addr} {n c k : Nat} {cap : Array Value} {w : World} (p : Nat → Prop) : Alt p w (lvW r St a n c k cap w) := by unfold lvW; exact ((((Alt.refl _ _).alloc _).alloc _).alloc _).alloc _

set_option maxHeartbeats 1000000 in
theorem leaves_any (r : Rk) (St : Nat) (a : Option Addr) (n c k : Nat) (cap : Array Value) (w : World) :
    Calls Tryd.prog 70 #[r.val, .int .u16 (St : Nat), .slice a n c, .func (.func k) #[] cap] w fun e w' =>
      e = .returned (.func (.func 98) #[] #[.pointer (some ⟨w.heap.size + 1 + 1, 0, none⟩), .pointer (some ⟨w.heap.size, 0, none⟩), .pointer (some ⟨w.heap.size + 1 + 1 + 1, 0, none⟩), .pointer (some ⟨w.heap.size + 1, 0, none⟩)]) ∧ w' = lvW r St a n c k cap w := by
  unfold Rk.val lvW rCells
  go_enter Tryd.func70, Tryd.ntmps70
  go_wp2_with fail
  go_ret
  exact ⟨rfl, rfl⟩

theorem leaves_use (r : Rk) (St : Nat) (ball : List Rg) (a : Option Addr) (c k : Nat) (cb : Lk → Bool) (w : World) (hc : Carry k #[] (fun _ => True) cb w.heap.size) (hR : RgsAt w a ball) (hga : ∀ g o, a = some ⟨g, o, none⟩ → g < w.heap.size) (hn : ball.length ≤ 4) (hw : ∀ x ∈ ball, wrongG x = false)
    (hfit : r.Fit w) (hSt : St < 65536) (hp : ∀ x ∈ els St, x < pinsN r.rows) :
    IterA Tryd.prog 98 #[.pointer (some ⟨w.heap.size + 1 + 1, 0, none⟩), .pointer (some ⟨w.heap.size, 0, none⟩), .pointer (some ⟨w.heap.size + 1 + 1 + 1, 0, none⟩), .pointer (some ⟨w.heap.size + 1, 0, none⟩)] (fun x : Nat => #[Value.int .u16 (x : Nat)])
      ((choices ball).map fun x => hitN r (toCs x) cb St) 9 (RdL r a (fun _ => False) (w.heap.size + 2) w.heap.size (w.heap.size + 3) (w.heap.size + 1)) (lvW r St a ball.length c k #[] w) := by
  have X : ∀ p, Alt p w (lvW r St a ball.length c k #[] w) := lvW_alt
  have z := @lvW_size r St a ball.length c k #[] w
  refine leaves_iter r St ball a c k #[] (fun _ => True) (fun _ => False) cb (w.heap.size + 2) w.heap.size (w.heap.size + 3) (w.heap.size + 1) _ (hc.up (by omega)) (fun _ _ _ _ => trivial) (fun _ h => h.elim)
    ?_ (hR.alt (X fun _ => False) (fun _ _ _ => id)) (fun g o e => by have := hga g o e; omega) hn hw ?_ ?_ ?_ (hfit.lo ((X fun k => w.heap.size ≤ k).below (Nat.le_refl _) fun _ h => h)) hSt hp trivial
  · unfold lvW
    have := Boxed.alt (p := fun _ => False) (Boxed.new ((w.alloc (.cells (rCells r) 32)).alloc (.cells #[.int .u16 (St : Nat)] 100)) 51 (.slice a ball.length c)) ((Alt.refl _ _).alloc (.cells #[.func (.func k) #[] #[]] 109)) id
    rwa [World.size_alloc, World.size_alloc] at this
  · unfold lvW
    exact Blk.alt (p := fun _ => False) (Blk.new w _ _) ((((Alt.refl _ _).alloc _).alloc _).alloc _) id
  · unfold lvW
    have := Boxed.new (((w.alloc (.cells (rCells r) 32)).alloc (.cells #[.int .u16 (St : Nat)] 100)).alloc (.cells #[.slice a ball.length c] 51)) 109 (.func (.func k) #[] #[])
    rwa [World.size_alloc, World.size_alloc, World.size_alloc] at this
  · unfold lvW
    have := Boxed.alt (p := fun _ => False) (Boxed.new (w.alloc (.cells (rCells r) 32)) 100 (.int .u16 (St : Nat))) (((Alt.refl _ _).alloc (.cells #[.slice a ball.length c] 51)).alloc (.cells #[.func (.func k) #[] #[]] 109)) id
    rwa [World.size_alloc] at this

end Go.Proofs.YtaloffdkadhhnaaDoor
