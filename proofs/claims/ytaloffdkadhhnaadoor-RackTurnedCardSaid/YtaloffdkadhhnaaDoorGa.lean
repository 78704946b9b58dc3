/- A range over a function, where the iterator may keep cells and maps of its own: what each side may turn, told by numbers of blocks; the statement's law outside a round, and within one; the return of a function that held one. A region that draws its order, whose operations read what lay when it began, and whose callees make memory of their own: one walk, in the order of the text. The law of a range over an iterator none of whose rounds is left early. The law of a range over an iterator that passes a round's frame on, even where the round says 'no more'. Sets of pins as numbers: their bits, what they have, their elements in order. The contracts of the small functions of a rack: bounds, distances, places, links. The contracts of what tells whether a rack is valid. A region that draws its order, each of whose operations yields one value whatever the order: one step an operation serves every order. -/
import Derived.RangeFuncNested
import Derived.RangeFuncLeaves
import Derived.Deep.QuietTactic
import Derived.BigQuiet
import Derived.Laws.Entries
import Derived.Lib.Hide
import Derived.Test.YtaloffdkadhhnaaDoorProg
import Derived.WalkKit
import Derived.WalkSpells
import Derived.WalkLawsBesides
import Derived.Handy
import Derived.StillTailTactics
import Derived.Deep.RegionWith
import Derived.Maps.AppendAt
import Derived.Deep.LoopGhost
import Derived.Deep.AppendLies
import Derived.Deep.RegionHeld3
import Derived.Deep.DeepMust
import Derived.OwnWalk
import Derived.Orders
import Derived.RegionTactic
set_option linter.unusedVariables false
set_option linter.unusedSimpArgs false

namespace Go.Proofs.YtaloffdkadhhnaaDoor
open Go.RowKit

/-- Of the blocks that lay, only such as p names may have turned; none has gone; the streams are as they were. -/
structure Alt (p : Nat → Prop) (w w' : World) : Prop where
  os : w'.os = w.os
  tape : w'.tape = w.tape
  out : w'.output = w.output
  size : w.heap.size ≤ w'.heap.size
  blk : ∀ k, k < w.heap.size → ¬ p k → w'.heap[k]? = w.heap[k]?

theorem Alt.refl (p : Nat → Prop) (w : World) : Alt p w w := ⟨rfl, rfl, rfl, Nat.le_refl _, fun _ _ _ => rfl⟩
theorem Alt.trans {p : Nat → Prop} {a b c : World} (h : Alt p a b) (k : Alt p b c) : Alt p a c :=
  ⟨k.os.trans h.os, k.tape.trans h.tape, k.out.trans h.out, Nat.le_trans h.size k.size, fun i hi hp => (k.blk i (Nat.lt_of_lt_of_le hi h.size) hp).trans (h.blk i hi hp)⟩
theorem Alt.mono {p q : Nat → Prop} {a b : World} (h : Alt p a b) (hq : ∀ k, k < a.heap.size → p k → q k) : Alt q a b :=
  ⟨h.os, h.tape, h.out, h.size, fun k hk hp => h.blk k hk (fun e => hp (hq k hk e))⟩
theorem Alt.alloc {p : Nat → Prop} {a w : World} (h : Alt p a w) (o : Obj) : Alt p a (w.alloc o) :=
  h.trans ⟨rfl, rfl, rfl, by simp, fun k hk _ => Below.heap_alloc _ _ _ hk⟩
theorem Alt.setCell {p : Nat → Prop} {a w : World} (h : Alt p a w) {q : Addr} (hq : p q.block) (u : Value) : Alt p a (w.setCell q u) :=
  h.trans ⟨rfl, rfl, rfl, by simp [World.setCell], fun k hk hp => Below.heap_setCell _ _ _ _ (fun e => hp (e ▸ hq))⟩
theorem Alt.putObj {p : Nat → Prop} {a w : World} (h : Alt p a w) {l : Nat} (hl : p l) (o : Obj) : Alt p a (w.putObj l o) :=
  h.trans ⟨rfl, rfl, rfl, by simp, fun k hk hp => World.putObj_heap_other (fun e => hp (e ▸ hl))⟩
theorem Alt.drew {p : Nat → Prop} {a w : World} (h : Alt p a w) : Alt p a w.drew := ⟨h.os, h.tape, h.out, h.size, h.blk⟩
theorem Alt.drewN {p : Nat → Prop} {a w : World} (h : Alt p a w) (n : Nat) : Alt p a (w.drewN n) := h.trans ⟨rfl, rfl, rfl, Nat.le_refl _, fun _ _ _ => rfl⟩
theorem Alt.grown {p : Nat → Prop} {a w w' : World} {row : Option Nat} (h : Alt p a w) (hg : w.grownBy w' row) (hr : ∀ k, row = some k → p k) : Alt p a w' :=
  h.trans ⟨hg.os, hg.tape, hg.output, hg.size, fun k hk hp => hg.block k hk (fun e => hp (hr k e.symm))⟩
theorem Alt.of_below {p : Nat → Prop} {a b : World} {B : Nat} (h : Below B a b) (hp : ∀ k, k < a.heap.size → B ≤ k → p k) : Alt p a b :=
  ⟨h.os, h.tape, h.output, h.size, fun k hk hq => h.block k (Nat.lt_of_not_le fun e => hq (hp k hk e))⟩
theorem Alt.below {p : Nat → Prop} {a b : World} {B : Nat} (h : Alt p a b) (hB : B ≤ a.heap.size) (hp : ∀ k, p k → B ≤ k) : Below B a b :=
  ⟨h.os, h.tape, h.out, h.size, fun k hk => h.blk k (Nat.lt_of_lt_of_le hk hB) (fun e => by have := hp k e; omega)⟩
theorem Alt.put {p : Nat → Prop} {w : World} {l : Nat} (hl : p l) (o : Obj) : Alt p w (w.putObj l o) := (Alt.refl p w).putObj hl o
theorem Alt.obj {p : Nat → Prop} {a b : World} (h : Alt p a b) {k : Nat} {o : Obj} (hk : a.heap[k]? = some o) (hp : ¬ p k) : b.heap[k]? = some o :=
  (h.blk k (Array.getElem?_eq_some_iff.1 hk).1 hp).trans hk

/-- The n blocks from lo on. -/
def Rng (lo n k : Nat) : Prop := lo ≤ k ∧ k < lo + n

/-- An iterator that gives xs, one after the other, until a round says 'no more'. It lays K blocks of its own first, and may turn them; it reads blocks that Rd names; a round leaves both as they were. -/
def Iter {α : Type} (P : Program) (g : Nat) (lb : Array Value) (encs : α → Array Value) (xs : List α) (K : Nat) (Rd : Nat → Prop) (w : World) : Prop :=
  ∀ (l : Nat) (J Jx : List α → World → Prop) (W : World), Alt (fun k => ¬ Rd k) w W →
    (∀ pre A B, J pre A → Alt (Rng W.heap.size K) A B → J pre B) → (∀ pre A B, Jx pre A → Alt (Rng W.heap.size K) A B → Jx pre B) →
    (∀ pre x post A, xs = pre ++ x :: post → W.heap.size + K ≤ A.heap.size → J pre A → YieldAt Fence.wide 0 P l (encs x) A fun e B =>
      (e = .returned (.bool true) ∧ J (pre ++ [x]) B ∧ Alt (fun k => ¬ (Rd k ∨ Rng W.heap.size K k)) A B) ∨ (e = .returned (.bool false) ∧ Jx (pre ++ [x]) B)) →
    J [] W →
    CallsIn Fence.wide 0 P g (#[.func (.yield l) #[] #[]] ++ lb) W fun e B => (∃ v, e = .returned v) ∧ (J xs B ∨ ∃ pre x post, xs = pre ++ x :: post ∧ Jx (pre ++ [x]) B)

/-- How a round's body may be left. -/
def rndPost {α : Type} (M : Nat → Prop) (I : List α → World → Prop) (Ix : Code → List α → World → Prop) (xs : List α) (W : World) : Exit → Act → World → Prop
  | .normal, _, B => Alt M W B ∧ I xs B
  | .ret, _, B => Alt M W B ∧ Ix .ret xs B
  | .exit id, _, B => Alt M W B ∧ Ix (.exit id) xs B
  | .goto t, _, B => Alt M W B ∧ Ix (.goto t) xs B
  | .panic _, _, _ => False
  | .outgrown, _, _ => False

variable {P : Program}

/-- One call of yield, out of the walks of the assignment and of the body. M: what a round may turn; it is neither the loop's record nor the block for deferred calls (D). -/
theorem yield_of_round {α : Type} {ps : Array Tmp} {assign body : Code} {tmps : Array Value} {fn : FuncId} {D l : Nat} {encs : α → Array Value} (hps : ∀ x, (encs x).size = ps.size)
    {rec : LoopState → Option Code → Loop} (hrec : rec = fun st pe => { state := st, pending := pe, fn, tmps, params := ps, assign, body, defers := D })
    {Z M : Nat → Prop} (hZ : Z l) (hM : ¬ M l)
    {I : List α → World → Prop} {Im : List α → α → Act → World → Prop} {Ix : Code → List α → World → Prop}
    (hI : ∀ pre A B, I pre A → Alt Z A B → I pre B) (hIm : ∀ pre x a A B, Im pre x a A → Alt Z A B → Im pre x a B) (hIx : ∀ c pre A B, Ix c pre A → Alt Z A B → Ix c pre B)
    {pre : List α} {x : α} {A : World} (hi : I pre A) (hl : A.heap[l]? = some (.loop (rec .ready none)))
    (hassign : ∀ r, A.heap[l]? = some (.loop r) → assign.wpIn (Fence.wide.inRound l) 0 P (Exit.then (fun a1 A1 => Alt M A A1 ∧ Im pre x a1 A1) (fun _ _ _ => False)) { tmps := (ps.zip (encs x)).foldl (fun t (p, v) => t.setIfInBounds p v) tmps, defers := [] } A)
    (hbody : ∀ a1 A1 r, A.heap.size ≤ A1.heap.size → A1.heap[l]? = some (.loop r) → Im pre x a1 A1 → body.wpIn (Fence.wide.inRound l) 0 P (rndPost M I Ix (pre ++ [x]) A1) a1 A1) :
    YieldAt Fence.wide 0 P l (encs x) A fun e B =>
      ((e = .returned (.bool true) ∧ I (pre ++ [x]) B ∧ B.heap[l]? = some (.loop (rec .ready none))) ∨
       (e = .returned (.bool false) ∧ ∃ c, Ix c (pre ++ [x]) B ∧ B.heap[l]? = some (.loop (rec .done (some c))))) ∧
      Alt (fun k => M k ∨ k = l) A B := by
  have hy := run_yield (P := P) (args := encs x) hl (by rw [hrec]; exact hps x)
  rw [hrec] at hy
  refine ⟨fn, _, assign, body, hy, roundIn_of_wpIn trivial ?_⟩
  refine wpIn_mono (hassign _ hl) ?_
  intro e a1 A1 h1
  cases e with
  | normal =>
    obtain ⟨hA1, hm⟩ := h1
    have hl1 := hA1.obj hl hM
    refine ⟨_, run_beginRound hl1 (by rw [hrec]), ?_⟩
    have hlt : l < A1.heap.size := (Array.getElem?_eq_some_iff.1 hl1).1
    have hl2 : (A1.putObj l (.loop { rec .ready none with state := .busy })).heap[l]? = some (.loop { rec .ready none with state := .busy }) := World.putObj_heap_same hlt
    refine wpIn_mono (hbody a1 _ _ (by simpa using hA1.size) hl2 (hIm _ _ _ _ _ hm (Alt.put hZ _))) ?_
    have A2 : Alt (fun k => M k ∨ k = l) A (A1.putObj l (.loop { rec .ready none with state := .busy })) := (hA1.mono fun k _ h => .inl h).putObj (.inr rfl) _
    have fin : ∀ (jump : Option Code) (B : World), Alt M (A1.putObj l (.loop { rec .ready none with state := .busy })) B →
        (Instr.endRound l jump).run P B = .ok (.bool jump.isNone) (B.putObj l (.loop (rec (if jump.isNone then .ready else .done) jump))) ∧
        (B.putObj l (.loop (rec (if jump.isNone then .ready else .done) jump))).heap[l]? = some (.loop (rec (if jump.isNone then .ready else .done) jump)) ∧
        Alt (fun k => M k ∨ k = l) A (B.putObj l (.loop (rec (if jump.isNone then .ready else .done) jump))) := fun jump B hB => by
      have hl3 := hB.obj hl2 hM
      have := run_endRound (P := P) jump hl3
      rw [hrec] at this ⊢
      exact ⟨this, World.putObj_heap_same (Array.getElem?_eq_some_iff.1 hl3).1, by rw [hrec] at A2 hB; exact (A2.trans (hB.mono fun k _ h => .inl h)).putObj (.inr rfl) _⟩
    intro e a3 B hp
    cases e with
    | normal =>
      obtain ⟨hB, hi3⟩ := hp
      obtain ⟨hr, hl4, hA4⟩ := fin none B hB
      exact ⟨_, _, hr, .inl ⟨rfl, hI _ _ _ hi3 (Alt.put hZ _), hl4⟩, hA4⟩
    | ret =>
      obtain ⟨hB, hi3⟩ := hp
      obtain ⟨hr, hl4, hA4⟩ := fin (some .ret) B hB
      exact ⟨_, _, hr, .inr ⟨rfl, .ret, hIx _ _ _ _ hi3 (Alt.put hZ _), hl4⟩, hA4⟩
    | exit id =>
      obtain ⟨hB, hi3⟩ := hp
      obtain ⟨hr, hl4, hA4⟩ := fin (some (.exit id)) B hB
      exact ⟨_, _, hr, .inr ⟨rfl, .exit id, hIx _ _ _ _ hi3 (Alt.put hZ _), hl4⟩, hA4⟩
    | goto t =>
      obtain ⟨hB, hi3⟩ := hp
      obtain ⟨hr, hl4, hA4⟩ := fin (some (.goto t)) B hB
      exact ⟨_, _, hr, .inr ⟨rfl, .goto t, hIx _ _ _ _ hi3 (Alt.put hZ _), hl4⟩, hA4⟩
    | panic ch => exact hp.elim
    | outgrown => exact hp.elim
  | exit id => exact h1.elim
  | goto t => exact h1.elim
  | ret => exact h1.elim
  | panic ch => exact h1.elim
  | outgrown => exact h1.elim

/-- The statement, outside a round. -/
theorem wp_iter {α : Type} {g : Operand} {ps : Array Tmp} {assign body : Code} {Q : Exit → Act → World → Prop} {a : Act} {w : World} {gf : Nat} {lb : Array Value}
    (hg : a.eval g = .func (.func gf) #[] lb) (eg : ∀ args w, (callFunc gf args).run P w = .ok (.enter gf args) w)
    {encs : α → Array Value} {xs : List α} {K : Nat} {Rd : Nat → Prop} (hseq : Iter P gf lb encs xs K Rd w) (hRd : ∀ k, Rd k → k < w.heap.size) (hps : ∀ x, (encs x).size = ps.size)
    (M : Nat → Prop) (hM : ∀ k, M k → ¬ Rd k ∧ ¬ Rng w.heap.size (2 + K) k)
    (I : List α → World → Prop) (Im : List α → α → Act → World → Prop) (Ix : Code → List α → World → Prop)
    (hI : ∀ pre A B, I pre A → Alt (Rng w.heap.size (2 + K)) A B → I pre B) (hIm : ∀ pre x a A B, Im pre x a A → Alt (Rng w.heap.size (2 + K)) A B → Im pre x a B) (hIx : ∀ c pre A B, Ix c pre A → Alt (Rng w.heap.size (2 + K)) A B → Ix c pre B)
    (h0 : I [] w)
    (hassign : ∀ (l : Nat) (pre : List α) (x : α) (post : List α) (A : World), xs = pre ++ x :: post → w.heap.size + (2 + K) ≤ A.heap.size → l = w.heap.size + 1 → (∃ r, A.heap[l]? = some (.loop r)) → I pre A →
      assign.wpIn (Fence.wide.inRound l) 0 P (Exit.then (fun a1 A1 => Alt M A A1 ∧ Im pre x a1 A1) (fun _ _ _ => False)) { tmps := (ps.zip (encs x)).foldl (fun t (p, v) => t.setIfInBounds p v) a.tmps, defers := [] } A)
    (hbody : ∀ (l : Nat) (pre : List α) (x : α) (post : List α) (a1 : Act) (A : World), xs = pre ++ x :: post → w.heap.size + (2 + K) ≤ A.heap.size → l = w.heap.size + 1 → (∃ r, A.heap[l]? = some (.loop r)) → Im pre x a1 A →
      body.wpIn (Fence.wide.inRound l) 0 P (rndPost M I Ix (pre ++ [x]) A) a1 A)
    (hdone : ∀ B, I xs B → w.heap.size + 2 ≤ B.heap.size → B.heap[w.heap.size]? = some (.deferred (some [])) → Q .normal { a with defers := { target := .collected w.heap.size, args := #[] } :: a.defers } B)
    (hstop : ∀ c pre x post B, xs = pre ++ x :: post → Ix c (pre ++ [x]) B → w.heap.size + (2 + K) ≤ B.heap.size → B.heap[w.heap.size]? = some (.deferred (some [])) → c.wpIn Fence.wide 0 P Q { a with defers := { target := .collected w.heap.size, args := #[] } :: a.defers } B) :
    (Code.rangeFunc g ps assign body).wpIn Fence.wide 0 P Q a w := by
  refine wpIn_rangeFunc ?_
  intro fn hfn
  show ∃ (l : Nat) (mark : List Deferred) (w₁ : World) (d : Deferred) (w₁' : World) (f : FuncId) (args : Array Value) (w₂ : World), (Instr.enterLoop fn a.tmps ps assign body none).run P w = .ok (l, mark) w₁ ∧ _
  obtain ⟨rec, hrec⟩ : ∃ rec : LoopState → Option Code → Loop, rec = fun st pe => { state := st, pending := pe, fn, tmps := a.tmps, params := ps, assign, body, defers := w.heap.size } := ⟨_, rfl⟩
  obtain ⟨W1, hW1⟩ : ∃ W1, (w.alloc (.deferred (some []))).alloc (.loop (rec .ready none)) = W1 := ⟨_, rfl⟩
  have hz : W1.heap.size = w.heap.size + 2 := by rw [← hW1]; simp
  have hL1 : W1.heap[w.heap.size + 1]? = some (.loop (rec .ready none)) := by
    rw [← hW1]; have := World.alloc_heap_new (w.alloc (.deferred (some []))) (.loop (rec .ready none)); rwa [World.size_alloc] at this
  have hK1 : W1.heap[w.heap.size]? = some (.deferred (some [])) := by
    rw [← hW1]; exact (Below.heap_alloc _ _ _ (by simp)).trans (World.alloc_heap_new w _)
  have A1 : ∀ p, Alt p w W1 := fun p => by rw [← hW1]; exact ((Alt.refl p w).alloc _).alloc _
  have zin : ∀ k, Rng W1.heap.size K k → Rng w.heap.size (2 + K) k := fun k h => by unfold Rng at *; omega
  have zl : Rng w.heap.size (2 + K) (w.heap.size + 1) := by unfold Rng; omega
  have z0 : Rng w.heap.size (2 + K) w.heap.size := by unfold Rng; omega
  have nM : ¬ M (w.heap.size + 1) := fun e => (hM _ e).2 zl
  have nM0 : ¬ M w.heap.size := fun e => (hM _ e).2 z0
  refine ⟨w.heap.size + 1, [{ target := .collected w.heap.size, args := #[] }], W1, { target := .fn (.func gf) lb, args := #[.func (.yield (w.heap.size + 1)) #[] #[]] }, W1, gf,
    #[.func (.yield (w.heap.size + 1)) #[] #[]] ++ lb, W1, ?_, ?_, ?_, ?_, fun h => by simp [Fence.wide] at h, ?_⟩
  · rw [← hW1, hrec]; exact run_enterLoop_outer _ _ _ _ _
  · simp only [resolve, hg]
    simp [go_sem]
  · intro f' hf'; trivial
  · simp [invoke, go_sem, eg]
  · have nr : ∀ j, w.heap.size ≤ j → j < w.heap.size + 2 → ¬ Rng W1.heap.size K j := fun j h1 h2 h => by unfold Rng at h; omega
    refine (hseq (w.heap.size + 1)
      (fun pre W => I pre W ∧ W.heap[w.heap.size + 1]? = some (.loop (rec .ready none)) ∧ W.heap[w.heap.size]? = some (.deferred (some [])))
      (fun pre W => ∃ c, Ix c pre W ∧ W.heap[w.heap.size + 1]? = some (.loop (rec .done (some c))) ∧ W.heap[w.heap.size]? = some (.deferred (some [])) ∧ w.heap.size + (2 + K) ≤ W.heap.size)
      W1 (A1 _)
      (fun pre A B h hAB => ⟨hI _ _ _ h.1 (hAB.mono fun k _ => zin k), hAB.obj h.2.1 (nr _ (by omega) (by omega)), hAB.obj h.2.2 (nr _ (by omega) (by omega))⟩)
      (fun pre A B h hAB => by
        obtain ⟨c, hc, h1, h2, h3⟩ := h
        exact ⟨c, hIx _ _ _ _ hc (hAB.mono fun k _ => zin k), hAB.obj h1 (nr _ (by omega) (by omega)), hAB.obj h2 (nr _ (by omega) (by omega)), Nat.le_trans h3 hAB.size⟩)
      ?_ ⟨hI _ _ _ h0 (A1 _), hL1, hK1⟩).mono ?_
    · rintro pre x post A hx hzA ⟨hi, hl, hk⟩
      have hzA' : w.heap.size + (2 + K) ≤ A.heap.size := by omega
      obtain ⟨f1, t1, as1, b1, hy, hR⟩ := yield_of_round (P := P) hps hrec (Z := Rng w.heap.size (2 + K)) (M := M) zl nM hI hIm hIx hi hl
        (fun r hr => hassign _ pre x post A hx hzA' rfl ⟨r, hr⟩ hi) (fun a1 A1 r hs hr hm => hbody _ pre x post a1 A1 hx (Nat.le_trans hzA' hs) rfl ⟨r, hr⟩ hm)
      refine ⟨f1, t1, as1, b1, hy, hR.mono ?_⟩
      rintro e B ⟨h, hA⟩
      have hk2 : B.heap[w.heap.size]? = some (.deferred (some [])) := hA.obj hk (fun e => e.elim nM0 (by omega))
      rcases h with ⟨he, h1, h2⟩ | ⟨he, c, h1, h2⟩
      · refine .inl ⟨he, ⟨h1, h2, hk2⟩, hA.mono fun k hk h hn => ?_⟩
        rcases h with h | rfl
        · rcases hn with hn | hn
          · exact (hM _ h).1 hn
          · exact (hM _ h).2 (zin _ hn)
        · rcases hn with hn | hn
          · have := hRd _ hn; omega
          · exact nr _ (by omega) (by omega) hn
      · exact .inr ⟨he, c, h1, h2, hk2, Nat.le_trans hzA' hA.size⟩
    · rintro e W2 ⟨⟨v, rfl⟩, (⟨hi, hl, hk⟩ | ⟨pre, x, post, hx, c, hi, hl, hk, hz2⟩)⟩
      · refine ⟨none, _, by have := run_endLoop (P := P) hl (by rw [hrec]; simp); rw [hrec] at this; exact this, ?_⟩
        exact hdone _ (hI _ _ _ hi (Alt.put zl _)) (by have := (Array.getElem?_eq_some_iff.1 hl).1; simp; omega) ((World.putObj_heap_other (by omega)).trans hk)
      · refine ⟨some c, _, by have := run_endLoop (P := P) hl (by rw [hrec]; simp); rw [hrec] at this; exact this, ?_⟩
        exact hstop c pre x post _ hx (hIx _ _ _ _ hi (Alt.put zl _)) (by simpa using hz2) ((World.putObj_heap_other (by omega)).trans hk)

/-- The statement, within a round of loop l₀. -/
theorem wp_iter_in {α : Type} {g : Operand} {ps : Array Tmp} {assign body : Code} {Q : Exit → Act → World → Prop} {a : Act} {w : World} {gf : Nat} {lb : Array Value} {l₀ : Nat} {r₀ : Loop} (hl₀ : w.heap[l₀]? = some (.loop r₀))
    (hg : a.eval g = .func (.func gf) #[] lb) (eg : ∀ args w, (callFunc gf args).run P w = .ok (.enter gf args) w)
    {encs : α → Array Value} {xs : List α} {K : Nat} {Rd : Nat → Prop} (hseq : Iter P gf lb encs xs K Rd w) (hRd : ∀ k, Rd k → k < w.heap.size) (hps : ∀ x, (encs x).size = ps.size)
    (M : Nat → Prop) (hM : ∀ k, M k → ¬ Rd k ∧ ¬ Rng w.heap.size (1 + K) k)
    (I : List α → World → Prop) (Im : List α → α → Act → World → Prop) (Ix : Code → List α → World → Prop)
    (hI : ∀ pre A B, I pre A → Alt (Rng w.heap.size (1 + K)) A B → I pre B) (hIm : ∀ pre x a A B, Im pre x a A → Alt (Rng w.heap.size (1 + K)) A B → Im pre x a B) (hIx : ∀ c pre A B, Ix c pre A → Alt (Rng w.heap.size (1 + K)) A B → Ix c pre B)
    (h0 : I [] w)
    (hassign : ∀ (l : Nat) (pre : List α) (x : α) (post : List α) (A : World), xs = pre ++ x :: post → w.heap.size + (1 + K) ≤ A.heap.size → l = w.heap.size → (∃ r, A.heap[l]? = some (.loop r)) → I pre A →
      assign.wpIn (Fence.wide.inRound l) 0 P (Exit.then (fun a1 A1 => Alt M A A1 ∧ Im pre x a1 A1) (fun _ _ _ => False)) { tmps := (ps.zip (encs x)).foldl (fun t (p, v) => t.setIfInBounds p v) a.tmps, defers := [] } A)
    (hbody : ∀ (l : Nat) (pre : List α) (x : α) (post : List α) (a1 : Act) (A : World), xs = pre ++ x :: post → w.heap.size + (1 + K) ≤ A.heap.size → l = w.heap.size → (∃ r, A.heap[l]? = some (.loop r)) → Im pre x a1 A →
      body.wpIn (Fence.wide.inRound l) 0 P (rndPost M I Ix (pre ++ [x]) A) a1 A)
    (hdone : ∀ B, I xs B → w.heap.size + 1 ≤ B.heap.size → Q .normal a B)
    (hstop : ∀ c pre x post B, xs = pre ++ x :: post → Ix c (pre ++ [x]) B → w.heap.size + (1 + K) ≤ B.heap.size → c.wpIn (Fence.wide.inRound l₀) 0 P Q a B) :
    (Code.rangeFunc g ps assign body).wpIn (Fence.wide.inRound l₀) 0 P Q a w := by
  refine wpIn_rangeFunc ?_
  intro fn hfn
  show ∃ (l : Nat) (mark : List Deferred) (w₁ : World) (d : Deferred) (w₁' : World) (f : FuncId) (args : Array Value) (w₂ : World), (Instr.enterLoop fn a.tmps ps assign body (some l₀)).run P w = .ok (l, mark) w₁ ∧ _
  obtain ⟨rec, hrec⟩ : ∃ rec : LoopState → Option Code → Loop, rec = fun st pe => { state := st, pending := pe, fn, tmps := a.tmps, params := ps, assign, body, defers := r₀.defers } := ⟨_, rfl⟩
  obtain ⟨W1, hW1⟩ : ∃ W1, w.alloc (.loop (rec .ready none)) = W1 := ⟨_, rfl⟩
  have hz : W1.heap.size = w.heap.size + 1 := by rw [← hW1]; simp
  have hL1 : W1.heap[w.heap.size]? = some (.loop (rec .ready none)) := by rw [← hW1]; exact World.alloc_heap_new w _
  have A1 : ∀ p, Alt p w W1 := fun p => by rw [← hW1]; exact (Alt.refl p w).alloc _
  have zin : ∀ k, Rng W1.heap.size K k → Rng w.heap.size (1 + K) k := fun k h => by unfold Rng at *; omega
  have zl : Rng w.heap.size (1 + K) w.heap.size := by unfold Rng; omega
  have nM : ¬ M w.heap.size := fun e => (hM _ e).2 zl
  refine ⟨w.heap.size, [], W1, { target := .fn (.func gf) lb, args := #[.func (.yield w.heap.size) #[] #[]] }, W1, gf,
    #[.func (.yield w.heap.size) #[] #[]] ++ lb, W1, ?_, ?_, ?_, ?_, fun h => by simp [Fence.wide] at h, ?_⟩
  · rw [← hW1, hrec]; exact run_enterLoop_inner hl₀ _ _ _ _ _
  · simp only [resolve, hg]
    simp [go_sem]
  · intro f' hf'; trivial
  · simp [invoke, go_sem, eg]
  · have nr : ∀ j, w.heap.size ≤ j → j < w.heap.size + 1 → ¬ Rng W1.heap.size K j := fun j h1 h2 h => by unfold Rng at h; omega
    refine (hseq w.heap.size
      (fun pre W => I pre W ∧ W.heap[w.heap.size]? = some (.loop (rec .ready none)))
      (fun pre W => ∃ c, Ix c pre W ∧ W.heap[w.heap.size]? = some (.loop (rec .done (some c))) ∧ w.heap.size + (1 + K) ≤ W.heap.size)
      W1 (A1 _)
      (fun pre A B h hAB => ⟨hI _ _ _ h.1 (hAB.mono fun k _ => zin k), hAB.obj h.2 (nr _ (by omega) (by omega))⟩)
      (fun pre A B h hAB => by
        obtain ⟨c, hc, h1, h3⟩ := h
        exact ⟨c, hIx _ _ _ _ hc (hAB.mono fun k _ => zin k), hAB.obj h1 (nr _ (by omega) (by omega)), Nat.le_trans h3 hAB.size⟩)
      ?_ ⟨hI _ _ _ h0 (A1 _), hL1⟩).mono ?_
    · rintro pre x post A hx hzA ⟨hi, hl⟩
      have hzA' : w.heap.size + (1 + K) ≤ A.heap.size := by omega
      obtain ⟨f1, t1, as1, b1, hy, hR⟩ := yield_of_round (P := P) hps hrec (Z := Rng w.heap.size (1 + K)) (M := M) zl nM hI hIm hIx hi hl
        (fun r hr => hassign _ pre x post A hx hzA' rfl ⟨r, hr⟩ hi) (fun a1 A1 r hs hr hm => hbody _ pre x post a1 A1 hx (Nat.le_trans hzA' hs) rfl ⟨r, hr⟩ hm)
      refine ⟨f1, t1, as1, b1, hy, hR.mono ?_⟩
      rintro e B ⟨h, hA⟩
      rcases h with ⟨he, h1, h2⟩ | ⟨he, c, h1, h2⟩
      · refine .inl ⟨he, ⟨h1, h2⟩, hA.mono fun k hk h hn => ?_⟩
        rcases h with h | rfl
        · rcases hn with hn | hn
          · exact (hM _ h).1 hn
          · exact (hM _ h).2 (zin _ hn)
        · rcases hn with hn | hn
          · have := hRd _ hn; omega
          · exact nr _ (by omega) (by omega) hn
      · exact .inr ⟨he, c, h1, h2, Nat.le_trans hzA' hA.size⟩
    · rintro e W2 ⟨⟨v, rfl⟩, (⟨hi, hl⟩ | ⟨pre, x, post, hx, c, hi, hl, hz2⟩)⟩
      · refine ⟨none, _, by have := run_endLoop (P := P) hl (by rw [hrec]; simp); rw [hrec] at this; exact this, ?_⟩
        exact hdone _ (hI _ _ _ hi (Alt.put zl _)) (by have := (Array.getElem?_eq_some_iff.1 hl).1; simp; omega)
      · refine ⟨some c, _, by have := run_endLoop (P := P) hl (by rw [hrec]; simp); rw [hrec] at this; exact this, ?_⟩
        exact hstop c pre x post _ hx (hIx _ _ _ _ hi (Alt.put zl _)) (by simpa using hz2)

/-- A function that held such a statement returns: the block for deferred calls is shut. -/
theorem leave_ret {fn : Func} {R : Ending → World → Prop} {tmps : Array Value} {D : Nat} {W : World} {v : Value} (hK : W.heap[D]? = some (.deferred (some [])))
    (hr : (results fn tmps).run P (W.putObj D (.deferred none)) = .ok v (W.putObj D (.deferred none))) (hR : R (.returned v) (W.putObj D (.deferred none))) :
    bodyPostM Fence.wide 0 P fn R .ret { tmps := tmps, defers := [{ target := .collected D, args := #[] }] } W :=
  ⟨by simp, .inl ⟨_, _, rfl, run_takeDeferred hK, ⟨v, hr, hR⟩⟩⟩

end Go.Proofs.YtaloffdkadhhnaaDoor

namespace Go.Proofs.YtaloffdkadhhnaaDoor
open Go.RowKit

/-- A world in which all that lay in w lies as it lay. -/
structure Late (w : World) where
  W : World
  b : Below w.heap.size w W

instance (w : World) : Nonempty (Late w) := ⟨⟨w, Below.refl _ _⟩⟩

theorem new_cell (w : World) {cs : Array Value} {t : TypeId} {i : Nat} {v : Value} (h : cs[i]? = some v) : (w.alloc (.cells cs t)).cell? ⟨w.heap.size, i, none⟩ = some v := by
  have e := World.alloc_heap_new w (.cells cs t)
  unfold World.cell?
  simp only [e]
  simpa using h
theorem new_fr (w : World) (cs : Array Value) (t : TypeId) (i : Nat) (h : i < cs.size) : (w.alloc (.cells cs t)).frozen? ⟨w.heap.size, i, none⟩ = false := by
  have e := World.alloc_heap_new w (.cells cs t)
  unfold World.frozen?
  simp only [e]
  simp

theorem wp_region_late {P : Program} {id : Nat} {Q : Exit → Act → World → Prop} {a : Act} {w : World} {l : List Oper} (w0 : World) (h0 : Below w0.heap.size w0 w) (hm : P.follows .mixedOrders = true) (hB : Region.lexB .any l.toArray = true)
    (h : wpQuiet P l.toArray (fun W => ∃ u : Late w0, W = u.W) (fun a' => ∀ W, (∃ u : Late w0, W = u.W) → Q .normal a' W) l a) : (Code.region id l.toArray true).wp P Q a w :=
  wp_region_quiet (C := fun W => ∃ u : Late w0, W = u.W) hm hB ⟨⟨_, Below.drew h0⟩, rfl⟩ (by simpa using h)

/-- A callee's contract, met in such a world. -/
theorem Calls.late {P : Program} {f : FuncId} {args : Array Value} {w0 : World} {u : Late w0} {v : Value}
    (h : Calls P f args u.W fun e w' => e = .returned v ∧ Below u.W.heap.size u.W w') : Calls P f args u.W fun e w'' => e = .returned v ∧ ∃ u' : Late w0, w'' = u'.W :=
  h.mono fun _ _ ⟨he, hb⟩ => ⟨he, ⟨_, u.b.trans (hb.mono u.b.size)⟩, rfl⟩
theorem Calls.late_same {P : Program} {f : FuncId} {args : Array Value} {w0 : World} {u : Late w0} {v : Value}
    (h : Calls P f args u.W fun e w' => e = .returned v ∧ u.W = w') : Calls P f args u.W fun e w'' => e = .returned v ∧ ∃ u' : Late w0, w'' = u'.W :=
  h.mono fun _ _ ⟨he, hb⟩ => ⟨he, u, hb.symm⟩

theorem Late.cell {w : World} (u : Late w) {b o : Nat} {v : Value} (h : w.cell? ⟨b, o, none⟩ = some v) (hb : b < w.heap.size) : u.W.cell? ⟨b, o, none⟩ = some v := (u.b.cell (p := ⟨b, o, none⟩) hb).trans h

end Go.Proofs.YtaloffdkadhhnaaDoor

namespace Go.Proofs.YtaloffdkadhhnaaDoor
open Go.RowKit

variable {P : Program}

/-- An iterator whose rounds all go on. -/
def IterT {α : Type} (P : Program) (g : Nat) (lb : Array Value) (encs : α → Array Value) (xs : List α) (K : Nat) (Rd : Nat → Prop) (w : World) : Prop :=
  ∀ (l : Nat) (J : List α → World → Prop) (W : World), Alt (fun k => ¬ Rd k) w W →
    (∀ pre A B, J pre A → Alt (Rng W.heap.size K) A B → J pre B) →
    (∀ pre x post A, xs = pre ++ x :: post → W.heap.size + K ≤ A.heap.size → J pre A → YieldAt Fence.wide 0 P l (encs x) A fun e B =>
      e = .returned (.bool true) ∧ J (pre ++ [x]) B ∧ Alt (fun k => ¬ (Rd k ∨ Rng W.heap.size K k)) A B) →
    J [] W →
    CallsIn Fence.wide 0 P g (#[.func (.yield l) #[] #[]] ++ lb) W fun e B => (∃ v, e = .returned v) ∧ J xs B

/-- The statement over such an iterator, outside a round. -/
theorem wp_iterT {α : Type} {g : Operand} {ps : Array Tmp} {assign body : Code} {Q : Exit → Act → World → Prop} {a : Act} {w : World} {gf : Nat} {lb : Array Value}
    (hg : a.eval g = .func (.func gf) #[] lb) (eg : ∀ args w, (callFunc gf args).run P w = .ok (.enter gf args) w)
    {encs : α → Array Value} {xs : List α} {K : Nat} {Rd : Nat → Prop} (hseq : IterT P gf lb encs xs K Rd w) (hRd : ∀ k, Rd k → k < w.heap.size) (hps : ∀ x, (encs x).size = ps.size)
    (M : Nat → Prop) (hM : ∀ k, M k → ¬ Rd k ∧ ¬ Rng w.heap.size (2 + K) k)
    (I : List α → World → Prop) (Im : List α → α → Act → World → Prop)
    (hI : ∀ pre A B, I pre A → Alt (Rng w.heap.size (2 + K)) A B → I pre B) (hIm : ∀ pre x a A B, Im pre x a A → Alt (Rng w.heap.size (2 + K)) A B → Im pre x a B)
    (h0 : I [] w)
    (hassign : ∀ (l : Nat) (pre : List α) (x : α) (post : List α) (A : World), xs = pre ++ x :: post → w.heap.size + (2 + K) ≤ A.heap.size → l = w.heap.size + 1 → (∃ r, A.heap[l]? = some (.loop r)) → I pre A →
      assign.wpIn (Fence.wide.inRound l) 0 P (Exit.then (fun a1 A1 => Alt M A A1 ∧ Im pre x a1 A1) (fun _ _ _ => False)) { tmps := (ps.zip (encs x)).foldl (fun t (p, v) => t.setIfInBounds p v) a.tmps, defers := [] } A)
    (hbody : ∀ (l : Nat) (pre : List α) (x : α) (post : List α) (a1 : Act) (A : World), xs = pre ++ x :: post → w.heap.size + (2 + K) ≤ A.heap.size → l = w.heap.size + 1 → (∃ r, A.heap[l]? = some (.loop r)) → Im pre x a1 A →
      body.wpIn (Fence.wide.inRound l) 0 P (rndPost M I (fun _ _ _ => False) (pre ++ [x]) A) a1 A)
    (hdone : ∀ B, I xs B → w.heap.size + 2 ≤ B.heap.size → B.heap[w.heap.size]? = some (.deferred (some [])) → Q .normal { a with defers := { target := .collected w.heap.size, args := #[] } :: a.defers } B) :
    (Code.rangeFunc g ps assign body).wpIn Fence.wide 0 P Q a w := by
  refine wpIn_rangeFunc ?_
  intro fn hfn
  show ∃ (l : Nat) (mark : List Deferred) (w₁ : World) (d : Deferred) (w₁' : World) (f : FuncId) (args : Array Value) (w₂ : World), (Instr.enterLoop fn a.tmps ps assign body none).run P w = .ok (l, mark) w₁ ∧ _
  obtain ⟨rec, hrec⟩ : ∃ rec : LoopState → Option Code → Loop, rec = fun st pe => { state := st, pending := pe, fn, tmps := a.tmps, params := ps, assign, body, defers := w.heap.size } := ⟨_, rfl⟩
  obtain ⟨W1, hW1⟩ : ∃ W1, (w.alloc (.deferred (some []))).alloc (.loop (rec .ready none)) = W1 := ⟨_, rfl⟩
  have hz : W1.heap.size = w.heap.size + 2 := by rw [← hW1]; simp
  have hL1 : W1.heap[w.heap.size + 1]? = some (.loop (rec .ready none)) := by
    rw [← hW1]; have := World.alloc_heap_new (w.alloc (.deferred (some []))) (.loop (rec .ready none)); rwa [World.size_alloc] at this
  have hK1 : W1.heap[w.heap.size]? = some (.deferred (some [])) := by
    rw [← hW1]; exact (Below.heap_alloc _ _ _ (by simp)).trans (World.alloc_heap_new w _)
  have A1 : ∀ p, Alt p w W1 := fun p => by rw [← hW1]; exact ((Alt.refl p w).alloc _).alloc _
  have zin : ∀ k, Rng W1.heap.size K k → Rng w.heap.size (2 + K) k := fun k h => by unfold Rng at *; omega
  have zl : Rng w.heap.size (2 + K) (w.heap.size + 1) := by unfold Rng; omega
  have z0 : Rng w.heap.size (2 + K) w.heap.size := by unfold Rng; omega
  have nM : ¬ M (w.heap.size + 1) := fun e => (hM _ e).2 zl
  have nM0 : ¬ M w.heap.size := fun e => (hM _ e).2 z0
  refine ⟨w.heap.size + 1, [{ target := .collected w.heap.size, args := #[] }], W1, { target := .fn (.func gf) lb, args := #[.func (.yield (w.heap.size + 1)) #[] #[]] }, W1, gf,
    #[.func (.yield (w.heap.size + 1)) #[] #[]] ++ lb, W1, ?_, ?_, ?_, ?_, fun h => by simp [Fence.wide] at h, ?_⟩
  · rw [← hW1, hrec]; exact run_enterLoop_outer _ _ _ _ _
  · simp only [resolve, hg]
    simp [go_sem]
  · intro f' hf'; trivial
  · simp [invoke, go_sem, eg]
  · have nr : ∀ j, w.heap.size ≤ j → j < w.heap.size + 2 → ¬ Rng W1.heap.size K j := fun j h1 h2 h => by unfold Rng at h; omega
    refine (hseq (w.heap.size + 1)
      (fun pre W => I pre W ∧ W.heap[w.heap.size + 1]? = some (.loop (rec .ready none)) ∧ W.heap[w.heap.size]? = some (.deferred (some [])))
      W1 (A1 _)
      (fun pre A B h hAB => ⟨hI _ _ _ h.1 (hAB.mono fun k _ => zin k), hAB.obj h.2.1 (nr _ (by omega) (by omega)), hAB.obj h.2.2 (nr _ (by omega) (by omega))⟩)
      ?_ ⟨hI _ _ _ h0 (A1 _), hL1, hK1⟩).mono ?_
    · rintro pre x post A hx hzA ⟨hi, hl, hk⟩
      have hzA' : w.heap.size + (2 + K) ≤ A.heap.size := by omega
      obtain ⟨f1, t1, as1, b1, hy, hR⟩ := yield_of_round (P := P) hps hrec (Z := Rng w.heap.size (2 + K)) (M := M) zl nM (Ix := fun _ _ _ => False) hI hIm (fun _ _ _ _ h _ => h) hi hl
        (fun r hr => hassign _ pre x post A hx hzA' rfl ⟨r, hr⟩ hi) (fun a1 A1 r hs hr hm => hbody _ pre x post a1 A1 hx (Nat.le_trans hzA' hs) rfl ⟨r, hr⟩ hm)
      refine ⟨f1, t1, as1, b1, hy, hR.mono ?_⟩
      rintro e B ⟨h, hA⟩
      have hk2 : B.heap[w.heap.size]? = some (.deferred (some [])) := hA.obj hk (fun e => e.elim nM0 (by omega))
      rcases h with ⟨he, h1, h2⟩ | ⟨he, c, h1, h2⟩
      · refine ⟨he, ⟨h1, h2, hk2⟩, hA.mono fun k hk h hn => ?_⟩
        rcases h with h | rfl
        · rcases hn with hn | hn
          · exact (hM _ h).1 hn
          · exact (hM _ h).2 (zin _ hn)
        · rcases hn with hn | hn
          · have := hRd _ hn; omega
          · exact nr _ (by omega) (by omega) hn
      · exact h1.elim
    · rintro e W2 ⟨⟨v, rfl⟩, hi, hl, hk⟩
      refine ⟨none, _, by have := run_endLoop (P := P) hl (by rw [hrec]; simp); rw [hrec] at this; exact this, ?_⟩
      exact hdone _ (hI _ _ _ hi (Alt.put zl _)) (by have := (Array.getElem?_eq_some_iff.1 hl).1; simp; omega) ((World.putObj_heap_other (by omega)).trans hk)


end Go.Proofs.YtaloffdkadhhnaaDoor

namespace Go.Proofs.YtaloffdkadhhnaaDoor
open Go.RowKit

variable {P : Program}

/-- An iterator like Iter, whose rounds leave its blocks as they were, be they the last or not. -/
def IterA {α : Type} (P : Program) (g : Nat) (lb : Array Value) (encs : α → Array Value) (xs : List α) (K : Nat) (Rd : Nat → Prop) (w : World) : Prop :=
  ∀ (l : Nat) (J Jx : List α → World → Prop) (W : World), Alt (fun k => ¬ Rd k) w W →
    (∀ pre A B, J pre A → Alt (Rng W.heap.size K) A B → J pre B) → (∀ pre A B, Jx pre A → Alt (Rng W.heap.size K) A B → Jx pre B) →
    (∀ pre x post A, xs = pre ++ x :: post → W.heap.size + K ≤ A.heap.size → J pre A → YieldAt Fence.wide 0 P l (encs x) A fun e B =>
      ((e = .returned (.bool true) ∧ J (pre ++ [x]) B) ∨ (e = .returned (.bool false) ∧ Jx (pre ++ [x]) B)) ∧ Alt (fun k => ¬ (Rd k ∨ Rng W.heap.size K k)) A B) →
    J [] W →
    CallsIn Fence.wide 0 P g (#[.func (.yield l) #[] #[]] ++ lb) W fun e B => (∃ v, e = .returned v) ∧ (J xs B ∨ ∃ pre x post, xs = pre ++ x :: post ∧ Jx (pre ++ [x]) B)

/-- The statement over such an iterator, outside a round. -/
theorem wp_iterA {α : Type} {g : Operand} {ps : Array Tmp} {assign body : Code} {Q : Exit → Act → World → Prop} {a : Act} {w : World} {gf : Nat} {lb : Array Value}
    (hg : a.eval g = .func (.func gf) #[] lb) (eg : ∀ args w, (callFunc gf args).run P w = .ok (.enter gf args) w)
    {encs : α → Array Value} {xs : List α} {K : Nat} {Rd : Nat → Prop} (hseq : IterA P gf lb encs xs K Rd w) (hRd : ∀ k, Rd k → k < w.heap.size) (hps : ∀ x, (encs x).size = ps.size)
    (M : Nat → Prop) (hM : ∀ k, M k → ¬ Rd k ∧ ¬ Rng w.heap.size (2 + K) k)
    (I : List α → World → Prop) (Im : List α → α → Act → World → Prop) (Ix : Code → List α → World → Prop)
    (hI : ∀ pre A B, I pre A → Alt (Rng w.heap.size (2 + K)) A B → I pre B) (hIm : ∀ pre x a A B, Im pre x a A → Alt (Rng w.heap.size (2 + K)) A B → Im pre x a B) (hIx : ∀ c pre A B, Ix c pre A → Alt (Rng w.heap.size (2 + K)) A B → Ix c pre B)
    (h0 : I [] w)
    (hassign : ∀ (l : Nat) (pre : List α) (x : α) (post : List α) (A : World), xs = pre ++ x :: post → w.heap.size + (2 + K) ≤ A.heap.size → l = w.heap.size + 1 → (∃ r, A.heap[l]? = some (.loop r)) → I pre A →
      assign.wpIn (Fence.wide.inRound l) 0 P (Exit.then (fun a1 A1 => Alt M A A1 ∧ Im pre x a1 A1) (fun _ _ _ => False)) { tmps := (ps.zip (encs x)).foldl (fun t (p, v) => t.setIfInBounds p v) a.tmps, defers := [] } A)
    (hbody : ∀ (l : Nat) (pre : List α) (x : α) (post : List α) (a1 : Act) (A : World), xs = pre ++ x :: post → w.heap.size + (2 + K) ≤ A.heap.size → l = w.heap.size + 1 → (∃ r, A.heap[l]? = some (.loop r)) → Im pre x a1 A →
      body.wpIn (Fence.wide.inRound l) 0 P (rndPost M I Ix (pre ++ [x]) A) a1 A)
    (hdone : ∀ B, I xs B → w.heap.size + 2 ≤ B.heap.size → B.heap[w.heap.size]? = some (.deferred (some [])) → Q .normal { a with defers := { target := .collected w.heap.size, args := #[] } :: a.defers } B)
    (hstop : ∀ c pre x post B, xs = pre ++ x :: post → Ix c (pre ++ [x]) B → w.heap.size + (2 + K) ≤ B.heap.size → B.heap[w.heap.size]? = some (.deferred (some [])) → c.wpIn Fence.wide 0 P Q { a with defers := { target := .collected w.heap.size, args := #[] } :: a.defers } B) :
    (Code.rangeFunc g ps assign body).wpIn Fence.wide 0 P Q a w := by
  refine wpIn_rangeFunc ?_
  intro fn hfn
  show ∃ (l : Nat) (mark : List Deferred) (w₁ : World) (d : Deferred) (w₁' : World) (f : FuncId) (args : Array Value) (w₂ : World), (Instr.enterLoop fn a.tmps ps assign body none).run P w = .ok (l, mark) w₁ ∧ _
  obtain ⟨rec, hrec⟩ : ∃ rec : LoopState → Option Code → Loop, rec = fun st pe => { state := st, pending := pe, fn, tmps := a.tmps, params := ps, assign, body, defers := w.heap.size } := ⟨_, rfl⟩
  obtain ⟨W1, hW1⟩ : ∃ W1, (w.alloc (.deferred (some []))).alloc (.loop (rec .ready none)) = W1 := ⟨_, rfl⟩
  have hz : W1.heap.size = w.heap.size + 2 := by rw [← hW1]; simp
  have hL1 : W1.heap[w.heap.size + 1]? = some (.loop (rec .ready none)) := by
    rw [← hW1]; have := World.alloc_heap_new (w.alloc (.deferred (some []))) (.loop (rec .ready none)); rwa [World.size_alloc] at this
  have hK1 : W1.heap[w.heap.size]? = some (.deferred (some [])) := by
    rw [← hW1]; exact (Below.heap_alloc _ _ _ (by simp)).trans (World.alloc_heap_new w _)
  have A1 : ∀ p, Alt p w W1 := fun p => by rw [← hW1]; exact ((Alt.refl p w).alloc _).alloc _
  have zin : ∀ k, Rng W1.heap.size K k → Rng w.heap.size (2 + K) k := fun k h => by unfold Rng at *; omega
  have zl : Rng w.heap.size (2 + K) (w.heap.size + 1) := by unfold Rng; omega
  have z0 : Rng w.heap.size (2 + K) w.heap.size := by unfold Rng; omega
  have nM : ¬ M (w.heap.size + 1) := fun e => (hM _ e).2 zl
  have nM0 : ¬ M w.heap.size := fun e => (hM _ e).2 z0
  refine ⟨w.heap.size + 1, [{ target := .collected w.heap.size, args := #[] }], W1, { target := .fn (.func gf) lb, args := #[.func (.yield (w.heap.size + 1)) #[] #[]] }, W1, gf,
    #[.func (.yield (w.heap.size + 1)) #[] #[]] ++ lb, W1, ?_, ?_, ?_, ?_, fun h => by simp [Fence.wide] at h, ?_⟩
  · rw [← hW1, hrec]; exact run_enterLoop_outer _ _ _ _ _
  · simp only [resolve, hg]
    simp [go_sem]
  · intro f' hf'; trivial
  · simp [invoke, go_sem, eg]
  · have nr : ∀ j, w.heap.size ≤ j → j < w.heap.size + 2 → ¬ Rng W1.heap.size K j := fun j h1 h2 h => by unfold Rng at h; omega
    refine (hseq (w.heap.size + 1)
      (fun pre W => I pre W ∧ W.heap[w.heap.size + 1]? = some (.loop (rec .ready none)) ∧ W.heap[w.heap.size]? = some (.deferred (some [])))
      (fun pre W => ∃ c, Ix c pre W ∧ W.heap[w.heap.size + 1]? = some (.loop (rec .done (some c))) ∧ W.heap[w.heap.size]? = some (.deferred (some [])) ∧ w.heap.size + (2 + K) ≤ W.heap.size)
      W1 (A1 _)
      (fun pre A B h hAB => ⟨hI _ _ _ h.1 (hAB.mono fun k _ => zin k), hAB.obj h.2.1 (nr _ (by omega) (by omega)), hAB.obj h.2.2 (nr _ (by omega) (by omega))⟩)
      (fun pre A B h hAB => by
        obtain ⟨c, hc, h1, h2, h3⟩ := h
        exact ⟨c, hIx _ _ _ _ hc (hAB.mono fun k _ => zin k), hAB.obj h1 (nr _ (by omega) (by omega)), hAB.obj h2 (nr _ (by omega) (by omega)), Nat.le_trans h3 hAB.size⟩)
      ?_ ⟨hI _ _ _ h0 (A1 _), hL1, hK1⟩).mono ?_
    · rintro pre x post A hx hzA ⟨hi, hl, hk⟩
      have hzA' : w.heap.size + (2 + K) ≤ A.heap.size := by omega
      obtain ⟨f1, t1, as1, b1, hy, hR⟩ := yield_of_round (P := P) hps hrec (Z := Rng w.heap.size (2 + K)) (M := M) zl nM hI hIm hIx hi hl
        (fun r hr => hassign _ pre x post A hx hzA' rfl ⟨r, hr⟩ hi) (fun a1 A1 r hs hr hm => hbody _ pre x post a1 A1 hx (Nat.le_trans hzA' hs) rfl ⟨r, hr⟩ hm)
      refine ⟨f1, t1, as1, b1, hy, hR.mono ?_⟩
      rintro e B ⟨h, hA⟩
      have hk2 : B.heap[w.heap.size]? = some (.deferred (some [])) := hA.obj hk (fun e => e.elim nM0 (by omega))
      refine ⟨?_, hA.mono fun k hk h hn => ?_⟩
      · rcases h with ⟨he, h1, h2⟩ | ⟨he, c, h1, h2⟩
        · exact .inl ⟨he, h1, h2, hk2⟩
        · exact .inr ⟨he, c, h1, h2, hk2, Nat.le_trans hzA' hA.size⟩
      · rcases h with h | rfl
        · rcases hn with hn | hn
          · exact (hM _ h).1 hn
          · exact (hM _ h).2 (zin _ hn)
        · rcases hn with hn | hn
          · have := hRd _ hn; omega
          · exact nr _ (by omega) (by omega) hn
    · rintro e W2 ⟨⟨v, rfl⟩, (⟨hi, hl, hk⟩ | ⟨pre, x, post, hx, c, hi, hl, hk, hz2⟩)⟩
      · refine ⟨none, _, by have := run_endLoop (P := P) hl (by rw [hrec]; simp); rw [hrec] at this; exact this, ?_⟩
        exact hdone _ (hI _ _ _ hi (Alt.put zl _)) (by have := (Array.getElem?_eq_some_iff.1 hl).1; simp; omega) ((World.putObj_heap_other (by omega)).trans hk)
      · refine ⟨some c, _, by have := run_endLoop (P := P) hl (by rw [hrec]; simp); rw [hrec] at this; exact this, ?_⟩
        exact hstop c pre x post _ hx (hIx _ _ _ _ hi (Alt.put zl _)) (by simpa using hz2) ((World.putObj_heap_other (by omega)).trans hk)

end Go.Proofs.YtaloffdkadhhnaaDoor

namespace Go.Proofs.YtaloffdkadhhnaaDoor
open Go.RowKit

def dif (a b : Nat) : Nat := a ^^^ (a &&& b)
theorem dif_bit (a b i : Nat) : (dif a b).testBit i = (a.testBit i && !b.testBit i) := by
  unfold dif; rw [Nat.testBit_xor, Nat.testBit_and]; cases a.testBit i <;> cases b.testBit i <;> rfl

theorem ofInt16 {a : Nat} (h : a < 65536) : (BitVec.ofInt 16 (a : Int)).toNat = a := by
  rw [BitVec.ofInt_natCast, BitVec.toNat_ofNat]; exact Nat.mod_eq_of_lt (by omega)
theorem wrap16 {a : Nat} (h : a < 65536) : IntKind.u16.wrap (a : Int) = a := by
  unfold IntKind.wrap; simp [IntKind.bits, IntKind.signed]; omega

theorem and16 {a b : Nat} (ha : a < 65536) (hb : b < 65536) : bits .and .u16 (a : Int) (b : Int) = ((a &&& b : Nat) : Int) := by
  have h : a &&& b < 65536 := Nat.and_lt_two_pow (n := 16) _ hb
  show IntKind.u16.wrap ((BitVec.ofInt 16 (a : Int) &&& BitVec.ofInt 16 (b : Int)).toNat : Int) = _
  rw [BitVec.toNat_and, ofInt16 ha, ofInt16 hb, wrap16 h]
theorem bor16 {a b : Nat} (ha : a < 65536) (hb : b < 65536) : bits .or .u16 (a : Int) (b : Int) = ((a ||| b : Nat) : Int) := by
  have h : a ||| b < 65536 := Nat.or_lt_two_pow (n := 16) ha hb
  show IntKind.u16.wrap ((BitVec.ofInt 16 (a : Int) ||| BitVec.ofInt 16 (b : Int)).toNat : Int) = _
  rw [BitVec.toNat_or, ofInt16 ha, ofInt16 hb, wrap16 h]
theorem dif_lt {a b : Nat} (ha : a < 65536) : dif a b < 65536 :=
  Nat.lt_of_lt_of_le (Nat.xor_lt_two_pow (n := 16) ha (Nat.lt_of_le_of_lt Nat.and_le_left ha)) (by decide)
theorem bnot16 {a b : Nat} (ha : a < 65536) (hb : b < 65536) : bits .andNot .u16 (a : Int) (b : Int) = ((dif a b : Nat) : Int) := by
  show IntKind.u16.wrap ((BitVec.ofInt 16 (a : Int) &&& ~~~ BitVec.ofInt 16 (b : Int)).toNat : Int) = _
  have e : (BitVec.ofInt 16 (a : Int) &&& ~~~ BitVec.ofInt 16 (b : Int)).toNat = dif a b := by
    apply Nat.eq_of_testBit_eq
    intro i
    rw [dif_bit]
    rw [BitVec.testBit_toNat, BitVec.getLsbD_and, BitVec.getLsbD_not, ← BitVec.testBit_toNat, ← BitVec.testBit_toNat, ofInt16 ha, ofInt16 hb]
    by_cases hi : i < 16
    · simp [hi]
    · have : a.testBit i = false := Nat.testBit_lt_two_pow (Nat.lt_of_lt_of_le ha (Nat.pow_le_pow_right (n := 2) (by omega) (show 16 ≤ i by omega)))
      simp [this]
  rw [e, wrap16 (dif_lt ha)]

theorem shl16 {p : Int} (h1 : 0 ≤ p) (h2 : p ≤ 15) : IntKind.u16.wrap (2 ^ p.toNat) = ((1 <<< p.toNat : Nat) : Int) := by
  have e : (2 ^ p.toNat : Int) = ((1 <<< p.toNat : Nat) : Int) := by rw [Nat.one_shiftLeft]; simp
  have h : (1 : Nat) <<< p.toNat < 65536 := by rw [Nat.one_shiftLeft]; exact Nat.pow_lt_pow_right (by omega) (by omega : p.toNat < 16)
  rw [e, wrap16 h]
theorem one_bit (p i : Nat) : (1 <<< p).testBit i = decide (i = p) := by
  rw [Nat.one_shiftLeft, Nat.testBit_two_pow]
  simp [eq_comm]
/-- What 'has' asks. -/
theorem has16 {N : Nat} (hN : N < 65536) (i : Nat) : (bits .and .u16 ((N : Int) / 2 ^ i) 1 == 1) = N.testBit i := by
  have e : ((N : Int) / 2 ^ i) = ((N / 2 ^ i : Nat) : Int) := by simp
  have h : N / 2 ^ i < 65536 := Nat.lt_of_le_of_lt (Nat.div_le_self _ _) hN
  rw [e, show (1 : Int) = ((1 : Nat) : Int) from rfl, and16 h (by decide), Nat.and_one_is_mod, Nat.testBit_eq_decide_div_mod_eq]
  by_cases h2 : N / 2 ^ i % 2 = 1
  · rw [h2]; simp
  · have : N / 2 ^ i % 2 = 0 := by omega
    rw [this]; simp

/-- The elements of a set, rising. -/
def elsF : Nat → Nat → Nat → List Int
  | 0, _, _ => []
  | f + 1, k, N => if N % 2 = 1 then (k : Int) :: elsF f (k + 1) (N / 2) else elsF f (k + 1) (N / 2)
def els (N : Nat) : List Int := elsF 16 0 N

theorem mem_elsF (x : Int) : ∀ (f k N : Nat), x ∈ elsF f k N ↔ ∃ i, i < f ∧ N.testBit i = true ∧ x = ((k + i : Nat) : Int)
  | 0, k, N => by simp [elsF]
  | f + 1, k, N => by
    have ih := mem_elsF x f (k + 1) (N / 2)
    have h0 : N.testBit 0 = decide (N % 2 = 1) := by rw [Nat.testBit_zero]
    have key : (∃ i, i < f ∧ (N / 2).testBit i = true ∧ x = ((k + 1 + i : Nat) : Int)) ↔ ∃ i, 0 < i ∧ i < f + 1 ∧ N.testBit i = true ∧ x = ((k + i : Nat) : Int) := by
      constructor
      · rintro ⟨i, h1, h2, h3⟩
        exact ⟨i + 1, by omega, by omega, by rw [Nat.testBit_succ]; exact h2, by rw [h3]; congr 1; omega⟩
      · rintro ⟨i, h1, h2, h3, h4⟩
        obtain ⟨j, rfl⟩ : ∃ j, i = j + 1 := ⟨i - 1, by omega⟩
        exact ⟨j, by omega, by rw [Nat.testBit_succ] at h3; exact h3, by rw [h4]; congr 1; omega⟩
    rw [elsF]
    by_cases h : N % 2 = 1
    · rw [if_pos h, List.mem_cons, ih, key]
      constructor
      · rintro (e | ⟨i, h1, h2, h3, h4⟩)
        · exact ⟨0, by omega, by rw [h0]; simp [h], by rw [e]; simp⟩
        · exact ⟨i, h2, h3, h4⟩
      · rintro ⟨i, h1, h2, h3⟩
        by_cases hi : i = 0
        · subst hi; left; rw [h3]; simp
        · right; exact ⟨i, by omega, h1, h2, h3⟩
    · rw [if_neg h, ih, key]
      constructor
      · rintro ⟨i, h1, h2, h3, h4⟩; exact ⟨i, h2, h3, h4⟩
      · rintro ⟨i, h1, h2, h3⟩
        by_cases hi : i = 0
        · subst hi; rw [h0] at h2; simp [h] at h2
        · exact ⟨i, by omega, h1, h2, h3⟩

theorem mem_els (x : Int) (N : Nat) : x ∈ els N ↔ 0 ≤ x ∧ x ≤ 15 ∧ N.testBit x.toNat = true := by
  rw [els, mem_elsF]
  constructor
  · rintro ⟨i, h1, h2, rfl⟩; simp at *; exact ⟨by omega, h2⟩
  · rintro ⟨h1, h2, h3⟩; exact ⟨x.toNat, by omega, h3, by omega⟩

theorem elsF_rise : ∀ (f k N : Nat), (elsF f k N).Pairwise (· < ·)
  | 0, _, _ => by simp [elsF]
  | f + 1, k, N => by
    have ih := elsF_rise f (k + 1) (N / 2)
    rw [elsF]
    split
    · rw [List.pairwise_cons]
      refine ⟨fun y hy => ?_, ih⟩
      obtain ⟨i, _, _, rfl⟩ := (mem_elsF y _ _ _).1 hy
      omega
    · exact ih
theorem els_rise (N : Nat) : (els N).Pairwise (· < ·) := elsF_rise _ _ _

/-- The first one, and the rest. -/
theorem elsF_step : ∀ (f k N r : Nat), r < f → N.testBit r = true → (∀ j, j < r → N.testBit j = false) → elsF f k N = ((k + r : Nat) : Int) :: elsF f k (N &&& (N - 1))
  | 0, _, _, _, h, _, _ => by omega
  | f + 1, k, N, r, hr, hb, hn => by
    have h0 : N.testBit 0 = decide (N % 2 = 1) := by rw [Nat.testBit_zero]
    have hd : (N &&& (N - 1)) / 2 = N / 2 &&& (N - 1) / 2 := Nat.and_div_two
    cases r with
    | zero =>
      rw [h0] at hb
      have h1 : N % 2 = 1 := by simpa using hb
      have h2 : (N &&& (N - 1)) % 2 = 0 := by
        have := Nat.testBit_and N (N - 1) 0
        rw [Nat.testBit_zero, Nat.testBit_zero, Nat.testBit_zero] at this
        have h3 : (N - 1) % 2 = 0 := by omega
        rcases Nat.mod_two_eq_zero_or_one (N &&& (N - 1)) with h | h
        · exact h
        · rw [h, h3] at this; simp at this
      have h3 : (N - 1) / 2 = N / 2 := by omega
      rw [elsF, if_pos h1, elsF, if_neg (show ¬ (N &&& (N - 1)) % 2 = 1 by rw [h2]; decide), hd, h3, Nat.and_self]
      simp
    | succ r =>
      have hz := hn 0 (by omega)
      rw [h0] at hz
      have h1 : N % 2 = 0 := by simp at hz; omega
      have hb2 : (N / 2).testBit r = true := by rw [Nat.testBit_succ] at hb; exact hb
      have hpos : N ≠ 0 := fun e => by rw [e] at hb; simp at hb
      have h2 : (N &&& (N - 1)) % 2 = 0 := by
        have := Nat.testBit_and N (N - 1) 0
        rw [Nat.testBit_zero, Nat.testBit_zero, Nat.testBit_zero] at this
        rcases Nat.mod_two_eq_zero_or_one (N &&& (N - 1)) with h | h
        · exact h
        · rw [h, h1] at this; simp at this
      have h3 : (N - 1) / 2 = N / 2 - 1 := by omega
      have ih := elsF_step f (k + 1) (N / 2) r (by omega) hb2 (fun j hj => by have := hn (j + 1) (by omega); rw [Nat.testBit_succ] at this; exact this)
      rw [elsF, if_neg (by omega), ih, elsF, if_neg (show ¬ (N &&& (N - 1)) % 2 = 1 by rw [h2]; decide), hd, h3]
      congr 2
      omega

theorem els_step {N r : Nat} (hr : r < 16) (hb : N.testBit r = true) (hn : ∀ j, j < r → N.testBit j = false) : els N = (r : Int) :: els (N &&& (N - 1)) := by
  have := elsF_step 16 0 N r hr hb hn
  simpa [els] using this
theorem els_zero : els 0 = [] := by decide
theorem and_pred_lt {N : Nat} (h : N < 65536) : N &&& (N - 1) < 65536 := Nat.lt_of_le_of_lt Nat.and_le_left h
/-- A set that is not empty has a least one. -/
theorem least_bit {N : Nat} (h : N ≠ 0) (hN : N < 65536) : ∃ r, r < 16 ∧ N.testBit r = true ∧ ∀ j, j < r → N.testBit j = false := by
  obtain ⟨i, hi⟩ := Nat.exists_testBit_of_ne_zero h
  have h16 : i < 16 := Nat.lt_of_not_le fun hc => by
    have : N.testBit i = false := Nat.testBit_lt_two_pow (Nat.lt_of_lt_of_le hN (Nat.pow_le_pow_right (n := 2) (by omega) hc))
    rw [this] at hi; cases hi
  induction i using Nat.strongRecOn with
  | ind i ih =>
    by_cases hj : ∃ j, j < i ∧ N.testBit j = true
    · obtain ⟨j, h1, h2⟩ := hj
      exact ih j h1 h2 (by omega)
    · exact ⟨i, h16, hi, fun j hjl => by
        cases hb : N.testBit j
        · rfl
        · exact absurd ⟨j, hjl, hb⟩ hj⟩

/-- The set of pins, a bit for each. -/
def setN (xs : List Int) : Nat := xs.foldl (fun t x => t ||| 1 <<< x.toNat) 0
theorem setN_snoc (xs : List Int) (x : Int) : setN (xs ++ [x]) = setN xs ||| 1 <<< x.toNat := by simp [setN]

theorem or16 {a b : Nat} (ha : a < 65536) (hb : b < 65536) : a ||| b < 65536 := Nat.or_lt_two_pow (n := 16) ha hb
theorem bit16 {p : Int} (h1 : 0 ≤ p) (h2 : p ≤ 15) : (1 : Nat) <<< p.toNat < 65536 := by
  rw [Nat.one_shiftLeft]
  exact Nat.pow_lt_pow_right (by omega) (by omega : p.toNat < 16)
theorem setF_lt : ∀ (xs : List Int) (t : Nat), (∀ x ∈ xs, 0 ≤ x ∧ x ≤ 15) → t < 65536 → xs.foldl (fun t x => t ||| 1 <<< x.toNat) t < 65536
  | [], t, _, h => h
  | x :: xs, t, hx, h => setF_lt xs _ (fun y hy => hx y (by simp [hy])) (or16 h (bit16 (hx x (by simp)).1 (hx x (by simp)).2))
theorem setN_lt {xs : List Int} (h : ∀ x ∈ xs, 0 ≤ x ∧ x ≤ 15) : setN xs < 65536 := setF_lt _ _ h (by decide)
theorem setF_bit (i : Nat) : ∀ (xs : List Int) (t : Nat), (xs.foldl (fun t x => t ||| 1 <<< x.toNat) t).testBit i = (t.testBit i || xs.any fun x => x.toNat == i)
  | [], t => by simp
  | x :: xs, t => by
    rw [List.foldl_cons, setF_bit i xs, Nat.testBit_or, one_bit, List.any_cons, Bool.or_assoc]
    congr 2
    rw [Bool.eq_iff_iff]; simp; exact eq_comm
theorem setN_bit (xs : List Int) (i : Nat) : (setN xs).testBit i = xs.any fun x => x.toNat == i := by rw [setN, setF_bit]; simp
theorem setN_has {xs : List Int} (h : ∀ x ∈ xs, 0 ≤ x ∧ x ≤ 15) {x : Int} (h0 : 0 ≤ x) : (setN xs).testBit x.toNat = true ↔ x ∈ xs := by
  rw [setN_bit, List.any_eq_true]
  constructor
  · rintro ⟨y, hy, he⟩
    have := h y hy
    have : y.toNat = x.toNat := by simpa using he
    obtain rfl : y = x := by omega
    exact hy
  · exact fun hx => ⟨x, hx, by simp⟩

/-- Two rising lists with the same elements are one. -/
theorem rise_ext : ∀ {xs ys : List Int}, xs.Pairwise (· < ·) → ys.Pairwise (· < ·) → (∀ x, x ∈ xs ↔ x ∈ ys) → xs = ys
  | [], [], _, _, _ => rfl
  | [], y :: ys, _, _, h => absurd ((h y).2 (by simp)) (by simp)
  | x :: xs, [], _, _, h => absurd ((h x).1 (by simp)) (by simp)
  | x :: xs, y :: ys, hx, hy, h => by
    rw [List.pairwise_cons] at hx hy
    have e : x = y := by
      rcases List.mem_cons.1 ((h x).1 (by simp)) with e | e
      · exact e
      · rcases List.mem_cons.1 ((h y).2 (by simp)) with e' | e'
        · exact e'.symm
        · have := hy.1 x e; have := hx.1 y e'; omega
    subst e
    congr 1
    refine rise_ext hx.2 hy.2 fun z => ?_
    have hz := h z
    simp only [List.mem_cons] at hz
    constructor
    · intro hm
      rcases hz.1 (.inr hm) with e | e
      · subst e; have := hx.1 z hm; omega
      · exact e
    · intro hm
      rcases hz.2 (.inr hm) with e | e
      · subst e; have := hy.1 z hm; omega
      · exact e
theorem els_setN {xs : List Int} (hr : xs.Pairwise (· < ·)) (h : ∀ x ∈ xs, 0 ≤ x ∧ x ≤ 15) : els (setN xs) = xs := by
  refine rise_ext (els_rise _) hr fun x => ?_
  rw [mem_els]
  constructor
  · rintro ⟨h0, _, hb⟩; exact (setN_has h h0).1 hb
  · exact fun hx => ⟨(h x hx).1, (h x hx).2, (setN_has h (h x hx).1).2 hx⟩
theorem set_ext {a b : Nat} (ha : a < 65536) (hb : b < 65536) (h : ∀ i, i < 16 → a.testBit i = b.testBit i) : a = b := by
  apply Nat.eq_of_testBit_eq
  intro i
  by_cases hi : i < 16
  · exact h i hi
  · rw [Nat.testBit_lt_two_pow (Nat.lt_of_lt_of_le ha (Nat.pow_le_pow_right (n := 2) (by omega) (show 16 ≤ i by omega))), Nat.testBit_lt_two_pow (Nat.lt_of_lt_of_le hb (Nat.pow_le_pow_right (n := 2) (by omega) (show 16 ≤ i by omega)))]
theorem els_bd {N : Nat} {x : Int} (h : x ∈ els N) : 0 ≤ x ∧ x ≤ 15 := ⟨((mem_els _ _).1 h).1, ((mem_els _ _).1 h).2.1⟩
theorem setN_els {N : Nat} (h : N < 65536) : setN (els N) = N := by
  refine set_ext (setN_lt fun x hx => els_bd hx) h fun i hi => ?_
  rw [setN_bit, Bool.eq_iff_iff, List.any_eq_true]
  constructor
  · rintro ⟨x, hx, he⟩
    have h2 := (mem_els _ _).1 hx
    have : x.toNat = i := by simpa using he
    rw [← this]; exact h2.2.2
  · intro hb
    exact ⟨(i : Int), (mem_els _ _).2 ⟨by omega, by omega, by simpa using hb⟩, by simp⟩

end Go.Proofs.YtaloffdkadhhnaaDoor

namespace Go.Proofs.YtaloffdkadhhnaaDoor
open Go.RowKit

def inB (n lo hi : Int) : Bool := decide (lo ≤ n) && decide (n ≤ hi)
theorem inB_iff {n lo hi : Int} : inB n lo hi = true ↔ lo ≤ n ∧ n ≤ hi := by unfold inB; simp

set_option maxHeartbeats 400000 in
theorem within_any (n lo hi : Int) (w : World) :
    Calls Tryd.prog 87 #[.int .i64 n, .int .i64 lo, .int .i64 hi] w fun e w' => e = .returned (.bool (inB n lo hi)) ∧ w = w' := by
  unfold inB
  by_cases h : lo ≤ n
  · go_enter Tryd.func87, Tryd.ntmps87
    go_wp2
    go_ret
    exact ⟨by simp [h], rfl⟩
  · have h' : n < lo := by omega
    go_enter Tryd.func87, Tryd.ntmps87
    go_wp2
    go_ret
    exact ⟨by rw [decide_eq_false (show ¬ lo ≤ n by omega)]; rfl, rfl⟩

def dist (a b : Int) : Int := if b ≤ a then a - b else b - a

set_option maxHeartbeats 400000 in
theorem apart_any (a b : Int) (w : World) (a1 : -100000 ≤ a) (a2 : a ≤ 100000) (b1 : -100000 ≤ b) (b2 : b ≤ 100000) :
    Calls Tryd.prog 119 #[.int .i64 a, .int .i64 b] w fun e w' => e = .returned (.int .i64 (dist a b)) ∧ w = w' := by
  unfold dist
  by_cases h : b ≤ a
  · rw [if_pos h]
    go_enter Tryd.func119, Tryd.ntmps119
    go_wp2
    go_ret
    exact ⟨rfl, rfl⟩
  · rw [if_neg h]
    go_enter Tryd.func119, Tryd.ntmps119
    go_wp2
    go_ret
    exact ⟨rfl, rfl⟩

/-- A link, and a rack: the four numbers, and the links that its slice holds. -/
structure Lk where
  fr : Int
  to : Int
  sr : Bool
structure Rk where
  rows : Int
  mid : Int
  gap : Int
  reach : Int
  la : Option Addr
  lc : Nat
  ls : List Lk
def Lk.val (l : Lk) : Value := .agg #[.int .i64 l.fr, .int .i64 l.to, .bool l.sr]
def Rk.val (r : Rk) : Value := .agg #[.int .i64 r.rows, .int .i64 r.mid, .int .i64 r.gap, .int .i64 r.reach, .slice r.la r.ls.length r.lc]

/-- What is right in a rack, apart from its links. -/
structure Rk.Ok (r : Rk) : Prop where
  r1 : 1 ≤ r.rows
  r2 : r.rows ≤ 4
  m1 : 0 ≤ r.mid
  m2 : r.mid ≤ 60
  g1 : 1 ≤ r.gap
  g2 : r.gap ≤ 8
  c1 : 0 ≤ r.reach
  c2 : r.reach ≤ 10

def pinsN (rows : Int) : Int := if rows = 1 then 1 else if rows = 2 then 3 else if rows = 3 then 6 else 10

set_option maxHeartbeats 400000 in
theorem pins_any (r : Rk) (w : World) (h1 : 1 ≤ r.rows) (h2 : r.rows ≤ 4) :
    Calls Tryd.prog 57 #[r.val] w fun e w' => e = .returned (.int .i64 (pinsN r.rows)) ∧ Below w.heap.size w w' := by
  obtain ⟨rows, mid, gap, reach, la, lc, ls⟩ := r
  have h : rows = 1 ∨ rows = 2 ∨ rows = 3 ∨ rows = 4 := by simp only at h1 h2; omega
  unfold Rk.val
  rcases h with rfl | rfl | rfl | rfl <;>
  · clear h1 h2
    go_enter Tryd.func57, Tryd.ntmps57
    go_wp2
    go_ret
    exact ⟨rfl, (Below.refl _ _).alloc (Nat.le_refl _) _⟩

theorem below_al (w : World) (o : Obj) : Below w.heap.size w (w.alloc o) := (Below.refl _ _).alloc (Nat.le_refl _) _
theorem below_al2 {w W : World} (h : Below w.heap.size w W) (o : Obj) : Below w.heap.size w (W.alloc o) := h.alloc h.size _
theorem below_dN {w W : World} {B : Nat} (h : Below B w W) (n : Nat) : Below B w (W.drewN n) := ⟨h.os, h.tape, h.output, h.size, h.block⟩
/-- What a call leaves of the blocks that lay. -/
theorem lo_cell {w W : World} (h : Below w.heap.size w W) (b o : Nat) (hb : b < w.heap.size) : W.cell? ⟨b, o, none⟩ = w.cell? ⟨b, o, none⟩ ∧ W.frozen? ⟨b, o, none⟩ = w.frozen? ⟨b, o, none⟩ := ⟨h.cell (p := ⟨b, o, none⟩) hb, h.frozen (p := ⟨b, o, none⟩) hb⟩
theorem below_go {w W W' : World} (h : Below w.heap.size w W) (h2 : Below W.heap.size W W') : Below w.heap.size w W' := h.trans (h2.mono h.size)

set_option maxHeartbeats 400000 in
theorem hasPin_any (r : Rk) (p : Int) (w : World) (h1 : 1 ≤ r.rows) (h2 : r.rows ≤ 4) :
    Calls Tryd.prog 102 #[r.val, .int .i64 p] w fun e w' => e = .returned (.bool (inB p 0 (pinsN r.rows - 1))) ∧ Below w.heap.size w w' := by
  have hp := Lib.hid (fun w => pins_any r w h1 h2)
  have hn1 : 0 ≤ pinsN r.rows := by unfold pinsN; split <;> (try split) <;> (try split) <;> omega
  have hn2 : pinsN r.rows ≤ 10 := by unfold pinsN; split <;> (try split) <;> (try split) <;> omega
  have hW := Lib.hid (fun a b c w => within_any a b c w)
  generalize pinsN r.rows = n at *
  unfold Rk.val at *
  clear h1 h2
  go_enter Tryd.func102, Tryd.ntmps102
  go_wp2_with fail
  refine (hp.out _).mono ?_
  rintro e w1 ⟨rfl, hb⟩
  have B1 := Lib.hid (below_go (below_al w _) hb)
  clear hb
  go_wp2_with fail
  refine (hW.out _ _ _ _).mono ?_
  rintro e w2 ⟨rfl, rfl⟩
  go_wp2_with fail
  go_ret
  exact ⟨rfl, B1.out⟩

/-- The row of a pin, and which one it is there. -/
def rowN (p : Int) : Int := if p < 1 then 0 else if p < 3 then 1 else if p < 6 then 2 else 3
def kN (p : Int) : Int := if p < 1 then p else if p < 3 then p - 1 else if p < 6 then p - 3 else p - 6
def tri (i : Int) : Int := if i = 0 then 0 else if i = 1 then 1 else if i = 2 then 3 else if i = 3 then 6 else 10
def boardN (r : Rk) (p : Int) : Int := r.mid + r.gap * (2 * kN p - rowN p)
def plcV (r : Rk) (p : Int) : Value := .agg #[.int .i64 (rowN p), .int .i64 (boardN r p)]

theorem gap_bd {g x : Int} (g1 : 1 ≤ g) (g2 : g ≤ 8) (x1 : -3 ≤ x) (x2 : x ≤ 3) : -24 ≤ g * x ∧ g * x ≤ 24 := by
  have : x = -3 ∨ x = -2 ∨ x = -1 ∨ x = 0 ∨ x = 1 ∨ x = 2 ∨ x = 3 := by omega
  rcases this with rfl | rfl | rfl | rfl | rfl | rfl | rfl <;> omega
theorem rowN_bd {p : Int} (h1 : 0 ≤ p) (h2 : p ≤ 9) : 0 ≤ rowN p ∧ rowN p ≤ 3 ∧ 0 ≤ kN p ∧ kN p ≤ rowN p := by
  unfold rowN kN; split
  · omega
  · split
    · omega
    · split <;> omega
theorem boardN_bd {r : Rk} {p : Int} (ok : r.Ok) (h1 : 0 ≤ p) (h2 : p ≤ 9) : -24 ≤ boardN r p ∧ boardN r p ≤ 84 := by
  have h := rowN_bd h1 h2
  have := gap_bd ok.g1 ok.g2 (x := 2 * kN p - rowN p) (by omega) (by omega)
  have := ok.m1; have := ok.m2
  unfold boardN; omega

set_option maxHeartbeats 1000000 in
theorem place_any (r : Rk) (p : Int) (w : World) (ok : r.Ok) (p1 : 0 ≤ p) (p2 : p < pinsN r.rows) :
    Calls Tryd.prog 116 #[r.val, .int .i64 p] w fun e w' => e = .returned (plcV r p) ∧ Below w.heap.size w w' := by
  have hp9 : p ≤ 9 := by have : pinsN r.rows ≤ 10 := by (unfold pinsN; split <;> (try split) <;> (try split) <;> omega)
                         omega
  have hbd := boardN_bd ok p1 hp9
  have hpn : ∀ i : Int, 0 ≤ i → i ≤ r.rows → tri i ≤ p → i < r.rows := fun i h0 h1 h2 => by
    have : i ≠ r.rows := fun e => by
      have a := ok.r1; have b := ok.r2
      subst e
      unfold tri at h2; unfold pinsN at p2
      have : r.rows = 1 ∨ r.rows = 2 ∨ r.rows = 3 ∨ r.rows = 4 := by omega
      rcases this with e | e | e | e <;> simp [e] at h2 p2 <;> omega
    omega
  have hres : ∀ i : Int, 0 ≤ i → i ≤ 3 → tri i ≤ p → p - tri i ≤ i → plcV r p = .agg #[.int .i64 i, .int .i64 (r.mid + r.gap * (2 * (p - tri i) - i))] := fun i h0 h1 h2 h3 => by
    have : i = 0 ∨ i = 1 ∨ i = 2 ∨ i = 3 := by omega
    have e : rowN p = i ∧ kN p = p - tri i := by
      unfold rowN kN tri at *
      clear hpn
      rcases this with rfl | rfl | rfl | rfl <;> simp at h2 h3 ⊢ <;> constructor <;> (repeat' split) <;> omega
    unfold plcV boardN
    rw [e.1, e.2]
  have htr : ∀ i : Int, 0 ≤ i → i ≤ 3 → tri (i + 1) = tri i + (i + 1) := fun i h0 h1 => by
    have : i = 0 ∨ i = 1 ∨ i = 2 ∨ i = 3 := by omega
    rcases this with rfl | rfl | rfl | rfl <;> rfl
  obtain ⟨r1, r2, m1, m2, g1, g2, c1, c2⟩ := ok
  have HR := Lib.hid hres
  have HP := Lib.hid hpn
  have HT := Lib.hid htr
  clear hres hpn htr hbd p2
  generalize plcV r p = V at *
  obtain ⟨rows, mid, gap, reach, la, lc, ls⟩ := r
  unfold Rk.val
  simp only at *
  go_enter Tryd.func116, Tryd.ntmps116
  go_wp2_with fail
  go_loop [5, 6, 10] (fun k s6 i => ∃ j : Int, 0 ≤ j ∧ j ≤ rows ∧ i = .int .i64 j ∧ Hid (tri j ≤ p) ∧ k = .int .i64 (p - tri j) ∧ (0 ≤ tri j ∧ tri j ≤ 10)) (fun _ _ i => (rows - intOf i).toNat)
  case atStart => exact ⟨0, by omega, by omega, rfl, Lib.hid p1, by simp [tri], by simp [tri]⟩
  case round =>
    obtain ⟨j, j1, j2, rfl, ht, rfl, ht1, ht2⟩ := hrel
    have hj := HP.out j j1 j2 ht.out
    have ht' := ht.out
    have HT1 := Lib.hid (HT.out j j1 (by omega))
    by_cases hk : p - tri j ≤ j
    · have hV := Lib.hid (HR.out j j1 (by omega) ht.out hk)
      have hg := gap_bd g1 g2 (x := 2 * (p - tri j) - j) (by omega) (by omega)
      generalize tri j = T at *
      go_wp2_with fail
      refine bodyPost_ret (v := V) (by rw [hV.out]; simp [results, Tryd.results116, go_sem]) rfl ⟨rfl, ?_⟩
      exact below_al2 (below_al _ _) _
    · have hk' : j < p - tri j := by omega
      go_wp2_with fail
      go_round
      case rel => exact ⟨j + 1, by omega, by omega, by go_num, Lib.hid (by rw [HT1.out]; omega), by rw [HT1.out]; go_num, by rw [HT1.out]; omega⟩
      case measure => simp [intOf]; omega

/-- Two pins stand next to each other. -/
def besB (gap : Int) (a b c d : Int) : Bool := if dist a c = 0 then dist b d == 2 * gap else if dist a c = 1 then dist b d == gap else false

theorem dist_bd {a b n m : Int} (a1 : -n ≤ a) (a2 : a ≤ m) (b1 : -n ≤ b) (b2 : b ≤ m) : 0 ≤ dist a b ∧ dist a b ≤ n + m := by unfold dist; split <;> omega

set_option maxHeartbeats 1000000 in
theorem beside_any (r : Rk) (a b c d : Int) (w : World) (g1 : 1 ≤ r.gap) (g2 : r.gap ≤ 8) (a1 : 0 ≤ a) (a2 : a ≤ 3) (c1 : 0 ≤ c) (c2 : c ≤ 3) (b1 : -24 ≤ b) (b2 : b ≤ 84) (d1 : -24 ≤ d) (d2 : d ≤ 84) :
    Calls Tryd.prog 117 #[r.val, .agg #[.int .i64 a, .int .i64 b], .agg #[.int .i64 c, .int .i64 d]] w fun e w' => e = .returned (.bool (besB r.gap a b c d)) ∧ Below w.heap.size w w' := by
  have hA := Lib.hid (fun w => apart_any a c w (by omega) (by omega) (by omega) (by omega))
  have hB := Lib.hid (fun w => apart_any b d w (by omega) (by omega) (by omega) (by omega))
  have hR := Lib.hid (show besB r.gap a b c d = if dist a c = 0 then dist b d == 2 * r.gap else if dist a c = 1 then dist b d == r.gap else false from rfl)
  have x := dist_bd (n := 0) (m := 3) (by omega) a2 (by omega) c2
  have y := dist_bd (n := 24) (m := 84) b1 b2 d1 d2
  generalize besB r.gap a b c d = R at *
  generalize dist a c = X at *
  generalize dist b d = Y at *
  obtain ⟨rows, mid, gap, reach, la, lc, ls⟩ := r
  unfold Rk.val
  simp only at *
  by_cases h0 : X = 0
  · subst h0
    have hR' := Lib.hid (show R = (Y == 2 * gap) from by rw [hR.out]; simp)
    clear hR
    go_enter Tryd.func117, Tryd.ntmps117
    go_wp2_with fail
    refine (hA.out _).mono ?_
    rintro e w1 ⟨rfl, rfl⟩
    go_wp2_with fail
    go_quiet ((go_at_call 119; exact Calls.quiet_of_same ((hB.out _).mono fun _ _ h => ⟨h.1, h.2.symm⟩)))
    go_wp2_with fail
    go_ret
    exact ⟨by rw [hR'.out]; rfl, below_dN (below_al2 (below_al2 (below_al _ _) _) _) _⟩
  · have h0' : (X == 0) = false := by simpa using h0
    by_cases h1 : X = 1
    · subst h1
      have hR' := Lib.hid (show R = (Y == gap) from by rw [hR.out]; simp)
      clear hR
      go_enter Tryd.func117, Tryd.ntmps117
      go_wp2_with fail
      refine (hA.out _).mono ?_
      rintro e w1 ⟨rfl, rfl⟩
      go_wp2_with fail
      go_quiet ((go_at_call 119; exact Calls.quiet_of_same ((hB.out _).mono fun _ _ h => ⟨h.1, h.2.symm⟩)))
      go_wp2_with fail
      go_ret
      exact ⟨by rw [hR'.out]; rfl, below_dN (below_al2 (below_al2 (below_al _ _) _) _) _⟩
    · have h1' : (X == 1) = false := by simpa using h1
      have hR' := Lib.hid (show R = false from by rw [hR.out]; simp [h0, h1])
      clear hR h0 h1
      go_enter Tryd.func117, Tryd.ntmps117
      go_wp2_with fail
      refine (hA.out _).mono ?_
      rintro e w1 ⟨rfl, rfl⟩
      go_wp2_with fail
      go_ret
      exact ⟨by rw [hR'.out]; rfl, below_al2 (below_al2 (below_al _ _) _) _⟩

def wrongB (r : Rk) (l : Lk) : Bool := !(inB l.fr 0 (pinsN r.rows - 1)) || (!(inB l.to 0 (pinsN r.rows - 1)) || l.fr == l.to)

set_option maxHeartbeats 1000000 in
theorem wrong_any (r : Rk) (l : Lk) (w : World) (h1 : 1 ≤ r.rows) (h2 : r.rows ≤ 4) :
    Calls Tryd.prog 89 #[r.val, l.val] w fun e w' => e = .returned (.bool (wrongB r l)) ∧ Below w.heap.size w w' := by
  obtain ⟨fr, to, sr⟩ := l
  have hF := Lib.hid (fun w => hasPin_any r fr w h1 h2)
  have hT := Lib.hid (fun w => hasPin_any r to w h1 h2)
  have hR := Lib.hid (show wrongB r ⟨fr, to, sr⟩ = (!(inB fr 0 (pinsN r.rows - 1)) || (!(inB to 0 (pinsN r.rows - 1)) || fr == to)) from rfl)
  generalize wrongB r ⟨fr, to, sr⟩ = R at *
  generalize inB fr 0 (pinsN r.rows - 1) = F at *
  generalize inB to 0 (pinsN r.rows - 1) = T at *
  obtain ⟨rows, mid, gap, reach, la, lc, ls⟩ := r
  unfold Rk.val at *
  unfold Lk.val
  simp only at *
  clear h1 h2
  have z1 : w.heap.size < ((w.alloc (.cells #[.int .i64 rows, .int .i64 mid, .int .i64 gap, .int .i64 reach, .slice la ls.length lc] 32)).alloc (.cells #[.int .i64 fr, .int .i64 to, .bool sr] 86)).heap.size := by simp; omega
  have z2 : w.heap.size + 1 < ((w.alloc (.cells #[.int .i64 rows, .int .i64 mid, .int .i64 gap, .int .i64 reach, .slice la ls.length lc] 32)).alloc (.cells #[.int .i64 fr, .int .i64 to, .bool sr] 86)).heap.size := by simp
  have B0 := Lib.hid (below_al2 (below_al w (.cells #[.int .i64 rows, .int .i64 mid, .int .i64 gap, .int .i64 reach, .slice la ls.length lc] 32)) (.cells #[.int .i64 fr, .int .i64 to, .bool sr] 86))
  have Z1 := Lib.hid z1; have Z2 := Lib.hid z2
  clear z1 z2
  go_enter Tryd.func89, Tryd.ntmps89
  go_wp2_with fail
  refine (hF.out _).mono ?_
  rintro e w1 ⟨rfl, hb⟩
  have B1 := Lib.hid (below_go B0.out hb)
  have c0 := fun o => (lo_cell hb w.heap.size o Z1.out).1
  have c1 := fun o => (lo_cell hb (w.heap.size + 1) o Z2.out).1
  have Hb := Lib.hid hb
  clear hb
  cases F
  · go_wp2_with fail
    go_ret
    exact ⟨by rw [hR.out]; rfl, B1.out⟩
  · go_wp2_with fail
    refine (hT.out _).mono ?_
    rintro e w2 ⟨rfl, hb⟩
    have B2 := Lib.hid (below_go B1.out hb)
    cases T
    · clear hb
      go_wp2_with fail
      go_ret
      exact ⟨by rw [hR.out]; rfl, B2.out⟩
    · have hs := Hb.out.size
      have d1 := fun o => ((lo_cell hb (w.heap.size + 1) o (Nat.lt_of_lt_of_le Z2.out hs)).1).trans (c1 o)
      clear hb hs c1
      go_wp2_with fail
      go_ret
      exact ⟨by rw [hR.out]; rfl, B2.out⟩

end Go.Proofs.YtaloffdkadhhnaaDoor

namespace Go.Proofs.YtaloffdkadhhnaaDoor
open Go.RowKit

/-- The links lie in the rack's slice, three cells each. -/
def LinksAt (w : World) (a : Option Addr) (L : List Lk) : Prop := ∀ i l, L[i]? = some l → ∃ g o, a = some ⟨g, o, none⟩ ∧ w.cell? ⟨g, o + i * 3, none⟩ = some (.int .i64 l.fr) ∧ w.cell? ⟨g, o + i * 3 + 1, none⟩ = some (.int .i64 l.to) ∧ w.cell? ⟨g, o + i * 3 + 2, none⟩ = some (.bool l.sr)

theorem cell_lt {w : World} {a : Addr} {v : Value} (h : w.cell? a = some v) : a.block < w.heap.size := by
  obtain ⟨o, ho, _⟩ := cells_of_cell h
  exact (Array.getElem?_eq_some_iff.1 ho).1
theorem cell_lo {w W : World} {a : Addr} {v : Value} (hb : Below w.heap.size w W) (h : w.cell? a = some v) : W.cell? a = some v := (hb.cell (cell_lt h)).trans h
theorem LinksAt.lo {w W : World} {a : Option Addr} {L : List Lk} (h : LinksAt w a L) (hb : Below w.heap.size w W) : LinksAt W a L := by
  intro i l hl
  obtain ⟨g, o, e, h1, h2, h3⟩ := h i l hl
  exact ⟨g, o, e, cell_lo hb h1, cell_lo hb h2, cell_lo hb h3⟩
theorem LinksAt.alt {w W : World} {a : Option Addr} {L : List Lk} {p : Nat → Prop} (h : LinksAt w a L) (hb : Alt p w W) (hp : ∀ g o, a = some ⟨g, o, none⟩ → ¬ p g) : LinksAt W a L := by
  intro i l hl
  obtain ⟨g, o, e, h1, h2, h3⟩ := h i l hl
  have hg := hb.blk g (cell_lt h1) (hp g o e)
  exact ⟨g, o, e, (World.cell?_of_block hg).trans h1, (World.cell?_of_block hg).trans h2, (World.cell?_of_block hg).trans h3⟩

def IdxIs (b : Bool) (w : World) (e : Ending) (w' : World) : Prop := ∃ k : Int, e = .returned (.int .i64 k) ∧ decide (0 ≤ k) = b ∧ Below w.heap.size w w'

set_option maxRecDepth 100000 in
set_option maxHeartbeats 4000000 in
theorem idxL_any (r : Rk) (a : Option Addr) (L : List Lk) (c : Nat) (w : World) (h1 : 1 ≤ r.rows) (h2 : r.rows ≤ 4) (hL : LinksAt w a L) (hn : L.length ≤ 1000) :
    Calls Tryd.prog 104 #[.slice a L.length c, .func (.func 89) #[r.val] #[]] w (IdxIs (L.any (wrongB r)) w) := by
  have HL := Lib.hid hL
  have CL := Lib.hid (fun l w => wrong_any r l w h1 h2)
  clear hL h1 h2
  have HV : ∃ V, V = r.val := ⟨_, rfl⟩
  obtain ⟨V, hV⟩ := HV
  rw [← hV] at CL ⊢
  clear hV
  go_enter Tryd.func104, Tryd.ntmps104
  go_wp2_with fail
  go_loopg [8] L.length (fun g s8 wx => ∃ (i : Nat), i ≤ L.length ∧ g = L.length - i ∧ s8 = .int .i64 (i : Int) ∧ Hid ((L.take i).any (wrongB r) = false) ∧ Hid (Below w.heap.size w wx))
  case atStart => exact ⟨0, by omega, rfl, rfl, Lib.hid (by simp), Lib.hid (Below.refl _ _)⟩
  case round =>
    obtain ⟨i, hi, rfl, rfl, hA, hB⟩ := hrel
    by_cases hlt : i < L.length
    · have hz0 : (0 : Int) ≤ (i : Int) := by omega
      have hz1 : (i : Int) < (L.length : Int) := by omega
      obtain ⟨l, hl⟩ : ∃ l, L[i]? = some l := ⟨L[i]'hlt, List.getElem?_eq_getElem _⟩
      obtain ⟨g, o, rfl, k1, k2, k3⟩ := HL.out i _ hl
      have c1 : wr.cell? ⟨g, o + i * 3, none⟩ = some (.int .i64 l.fr) := cell_lo hB.out k1
      have c2 : wr.cell? ⟨g, o + i * 3 + 1, none⟩ = some (.int .i64 l.to) := cell_lo hB.out k2
      have c3 : wr.cell? ⟨g, o + i * 3 + 2, none⟩ = some (.bool l.sr) := cell_lo hB.out k3
      have hT := Lib.hid (show (L.take (i + 1)).any (wrongB r) = ((L.take i).any (wrongB r) || wrongB r l) from by rw [List.take_add_one, hl]; simp)
      clear k1 k2 k3 hl
      go_wp2_with fail
      refine (CL.out l _).mono ?_
      rintro e w2 ⟨rfl, hb⟩
      have B3 := Lib.hid (below_go hB.out hb)
      clear hb c1 c2 c3
      cases hq : wrongB r l
      · have hT2 := Lib.hid (show (L.take (i + 1)).any (wrongB r) = false from by rw [hT.out, hA.out, hq]; rfl)
        clear hq
        go_wp2_with fail
        go_roundg (L.length - (i + 1))
        case measure => omega
        case rel => exact ⟨i + 1, by omega, rfl, by simp, hT2, B3⟩
      · have hT2 := Lib.hid (show L.any (wrongB r) = true from by
          have h1 : (L.take (i + 1)).any (wrongB r) = true := by rw [hT.out, hA.out, hq]; rfl
          rw [← List.take_append_drop (i + 1) L, List.any_append, h1]; rfl)
        clear hq
        go_wp2_with fail
        go_returns
        exact ⟨_, rfl, by rw [hT2.out]; simp, B3.out⟩
    · have hE := Lib.hid (show L.any (wrongB r) = false from by
        have h1 := hA.out
        rwa [List.take_of_length_le (by omega)] at h1)
      have hz1 : ¬ (i : Int) < (L.length : Int) := by omega
      clear hlt
      go_wp2_with fail
      go_returns
      exact ⟨_, rfl, by rw [hE.out]; rfl, hB.out⟩

set_option maxHeartbeats 1000000 in
theorem containsL_any (r : Rk) (a : Option Addr) (L : List Lk) (c : Nat) (w : World) (h1 : 1 ≤ r.rows) (h2 : r.rows ≤ 4) (hL : LinksAt w a L) (hn : L.length ≤ 1000) :
    Calls Tryd.prog 88 #[.slice a L.length c, .func (.func 89) #[r.val] #[]] w fun e w' => e = .returned (.bool (L.any (wrongB r))) ∧ Below w.heap.size w w' := by
  have CL := Lib.hid (idxL_any r a L c w h1 h2 hL hn)
  clear hL hn h1 h2
  generalize L.any (wrongB r) = R at *
  generalize r.val = V at *
  go_enter Tryd.func88, Tryd.ntmps88
  go_wp2_with fail
  refine CL.out.mono ?_
  rintro e w1 ⟨k, rfl, hk, hb⟩
  have HK := Lib.hid hk; have HB := Lib.hid hb
  clear hk hb
  go_wp2_with fail
  go_ret
  exact ⟨by rw [← HK.out]; rfl, HB.out⟩

/-- How many links are not sure. -/
def unsureN (L : List Lk) : Nat := (L.filter fun l => !l.sr).length
theorem unsure_snoc (L : List Lk) (l : Lk) : unsureN (L ++ [l]) = unsureN L + if l.sr then 0 else 1 := by
  unfold unsureN; rw [List.filter_append, List.length_append]; cases h : l.sr <;> simp [List.filter, h]
def fewB (L : List Lk) : Bool := decide (L.length ≤ 12) && decide (unsureN L ≤ 6)

set_option maxRecDepth 100000 in
set_option maxHeartbeats 4000000 in
theorem few_any (r : Rk) (w : World) (hL : LinksAt w r.la r.ls) (hn : r.ls.length ≤ 1000000) :
    Calls Tryd.prog 53 #[r.val] w fun e w' => e = .returned (.bool (fewB r.ls)) ∧ Below w.heap.size w w' := by
  have HL := Lib.hid hL
  clear hL
  obtain ⟨rows, mid, gap, reach, la, lc, L⟩ := r
  unfold Rk.val
  simp only at *
  by_cases h12 : L.length ≤ 12
  · have hF := Lib.hid (show fewB L = decide (unsureN L ≤ 6) from by unfold fewB; simp [h12])
    have h12' : (L.length : Int) ≤ 12 := by omega
    have B0 := Lib.hid (below_al w (.cells #[.int .i64 rows, .int .i64 mid, .int .i64 gap, .int .i64 reach, .slice la L.length lc] 32))
    generalize fewB L = R at *
    clear hn
    go_enter Tryd.func53, Tryd.ntmps53
    go_wp2_with fail
    go_loopg [3, 13] L.length (fun g s3 s13 wx => ∃ (i u : Nat), i ≤ L.length ∧ g = L.length - i ∧ s13 = .int .i64 (i : Int) ∧ s3 = .int .i64 (u : Int) ∧ u ≤ i ∧ Hid (u = unsureN (L.take i)) ∧ Hid (Below w.heap.size w wx))
    case atStart => exact ⟨0, 0, by omega, rfl, rfl, rfl, by omega, Lib.hid (by simp [unsureN]), B0⟩
    case round =>
      obtain ⟨i, u, hi, rfl, rfl, rfl, hu, hA, hB⟩ := hrel
      by_cases hlt : i < L.length
      · have hz0 : (0 : Int) ≤ (i : Int) := by omega
        have hz1 : (i : Int) < (L.length : Int) := by omega
        obtain ⟨l, hl⟩ : ∃ l, L[i]? = some l := ⟨L[i]'hlt, List.getElem?_eq_getElem _⟩
        obtain ⟨g, o, rfl, k1, k2, k3⟩ := HL.out i _ hl
        have c1 : wr.cell? ⟨g, o + i * 3, none⟩ = some (.int .i64 l.fr) := cell_lo hB.out k1
        have c2 : wr.cell? ⟨g, o + i * 3 + 1, none⟩ = some (.int .i64 l.to) := cell_lo hB.out k2
        have c3 : wr.cell? ⟨g, o + i * 3 + 2, none⟩ = some (.bool l.sr) := cell_lo hB.out k3
        have hT := Lib.hid (show unsureN (L.take (i + 1)) = unsureN (L.take i) + if l.sr then 0 else 1 from by rw [List.take_add_one, hl]; exact unsure_snoc _ _)
        have B3 := Lib.hid (below_al2 hB.out (.cells #[.int .i64 l.fr, .int .i64 l.to, .bool l.sr] 86))
        clear k1 k2 k3 hl
        obtain ⟨fr, to, sr⟩ := l
        simp only at *
        cases sr
        · go_wp2_with fail
          go_roundg (L.length - (i + 1))
          case measure => omega
          case rel => exact ⟨i + 1, u + 1, by omega, rfl, by simp, by simp, by omega, Lib.hid (by rw [hT.out, hA.out]; rfl), B3⟩
        · go_wp2_with fail
          go_roundg (L.length - (i + 1))
          case measure => omega
          case rel => exact ⟨i + 1, u, by omega, rfl, by simp, rfl, by omega, Lib.hid (by rw [hT.out, hA.out]; rfl), B3⟩
      · have hE := Lib.hid (show unsureN L = u from by
          have h1 := hA.out
          rw [List.take_of_length_le (by omega)] at h1; exact h1.symm)
        have hz1 : ¬ (i : Int) < (L.length : Int) := by omega
        clear hlt
        go_wp2_with fail
        go_returns
        exact ⟨by rw [hF.out, hE.out]; congr 2; simp; omega, hB.out⟩
  · have hF := Lib.hid (show fewB L = false from by unfold fewB; simp [h12])
    have h12' : (12 : Int) < L.length := by omega
    clear h12
    go_enter Tryd.func53, Tryd.ntmps53
    go_wp2_with fail
    go_returns
    exact ⟨by rw [hF.out]; rfl, below_al _ _⟩

def validB (r : Rk) : Bool := inB r.rows 1 4 && (inB r.mid 0 60 && (inB r.gap 1 8 && (inB r.reach 0 10 && !(r.ls.any (wrongB r)))))

set_option maxRecDepth 100000 in
set_option maxHeartbeats 4000000 in
theorem valid_any (r : Rk) (w : World) (hL : LinksAt w r.la r.ls) (hn : r.ls.length ≤ 1000) :
    Calls Tryd.prog 54 #[r.val] w fun e w' => e = .returned (.bool (validB r)) ∧ Below w.heap.size w w' := by
  have hW := Lib.hid (fun a b c w => within_any a b c w)
  have hR := Lib.hid (show validB r = (inB r.rows 1 4 && (inB r.mid 0 60 && (inB r.gap 1 8 && (inB r.reach 0 10 && !(r.ls.any (wrongB r)))))) from rfl)
  have hC := Lib.hid (fun W (hr : inB r.rows 1 4 = true) (hb : Below w.heap.size w W) => containsL_any r r.la r.ls r.lc W (inB_iff.1 hr).1 (inB_iff.1 hr).2 (hL.lo hb) hn)
  generalize validB r = R at *
  generalize r.ls.any (wrongB r) = X at *
  clear hL
  obtain ⟨rows, mid, gap, reach, la, lc, L⟩ := r
  unfold Rk.val at *
  simp only at *
  have B0 := Lib.hid (below_al w (.cells #[.int .i64 rows, .int .i64 mid, .int .i64 gap, .int .i64 reach, .slice la L.length lc] 32))
  go_enter Tryd.func54, Tryd.ntmps54
  go_wp2_with fail
  refine (hW.out _ _ _ _).mono ?_
  rintro e w1 ⟨rfl, rfl⟩
  have HA := hC.out
  generalize inB rows 1 4 = A at *
  cases A
  · clear HA
    go_wp2_with fail
    go_ret
    exact ⟨by rw [hR.out]; rfl, B0.out⟩
  · have HX := Lib.hid (fun W hb => HA W rfl hb)
    clear HA hC
    go_wp2_with fail
    refine (hW.out _ _ _ _).mono ?_
    rintro e w1 ⟨rfl, rfl⟩
    generalize inB mid 0 60 = B at *
    cases B
    · go_wp2_with fail
      go_ret
      exact ⟨by rw [hR.out]; rfl, B0.out⟩
    · go_wp2_with fail
      refine (hW.out _ _ _ _).mono ?_
      rintro e w1 ⟨rfl, rfl⟩
      generalize inB gap 1 8 = C at *
      cases C
      · go_wp2_with fail
        go_ret
        exact ⟨by rw [hR.out]; rfl, B0.out⟩
      · go_wp2_with fail
        refine (hW.out _ _ _ _).mono ?_
        rintro e w1 ⟨rfl, rfl⟩
        generalize inB reach 0 10 = D at *
        cases D
        · go_wp2_with fail
          go_ret
          exact ⟨by rw [hR.out]; rfl, B0.out⟩
        · go_wp2_with fail
          refine (HX.out _ B0.out).mono ?_
          rintro e w1 ⟨rfl, hb⟩
          have B1 := Lib.hid (below_go B0.out hb)
          clear hb
          go_wp2_with fail
          go_ret
          exact ⟨by rw [hR.out]; rfl, B1.out⟩

/-- The error of a rack. -/
def faultN (r : Rk) : Int := if fewB r.ls then (if validB r then 0 else 1) else 3

set_option maxRecDepth 100000 in
set_option maxHeartbeats 4000000 in
theorem checkRack_any (r : Rk) (w : World) (hL : LinksAt w r.la r.ls) (hn : r.ls.length ≤ 1000) :
    Calls Tryd.prog 17 #[r.val] w fun e w' => e = .returned (.int .i64 (faultN r)) ∧ Below w.heap.size w w' := by
  have hF := Lib.hid (fun W (hb : Below w.heap.size w W) => few_any r W (hL.lo hb) (by omega))
  have hV := Lib.hid (fun W (hb : Below w.heap.size w W) => valid_any r W (hL.lo hb) hn)
  have hR := Lib.hid (show faultN r = if fewB r.ls then (if validB r then 0 else 1) else 3 from rfl)
  generalize faultN r = R at *
  generalize validB r = V at *
  generalize fewB r.ls = F at *
  clear hL
  obtain ⟨rows, mid, gap, reach, la, lc, L⟩ := r
  unfold Rk.val at *
  simp only at *
  have B0 := Lib.hid (below_al w (.cells #[.int .i64 rows, .int .i64 mid, .int .i64 gap, .int .i64 reach, .slice la L.length lc] 32))
  have z0 : w.heap.size < (w.alloc (.cells #[.int .i64 rows, .int .i64 mid, .int .i64 gap, .int .i64 reach, .slice la L.length lc] 32)).heap.size := by simp
  have Z0 := Lib.hid z0
  clear z0
  go_enter Tryd.func17, Tryd.ntmps17
  go_wp2_with fail
  refine (hF.out _ B0.out).mono ?_
  rintro e w1 ⟨rfl, hb⟩
  have B1 := Lib.hid (below_go B0.out hb)
  have c0 := fun o => (lo_cell hb w.heap.size o Z0.out).1
  clear hb
  cases F
  · go_wp2_with fail
    go_ret
    exact ⟨by rw [hR.out]; rfl, B1.out⟩
  · go_wp2_with fail
    refine (hV.out _ B1.out).mono ?_
    rintro e w2 ⟨rfl, hb⟩
    have B2 := Lib.hid (below_go B1.out hb)
    clear hb c0
    cases V
    · go_wp2_with fail
      go_ret
      exact ⟨by rw [hR.out]; rfl, B2.out⟩
    · go_wp2_with fail
      go_ret
      exact ⟨by rw [hR.out]; rfl, B2.out⟩

end Go.Proofs.YtaloffdkadhhnaaDoor

namespace Go.Proofs.YtaloffdkadhhnaaDoor

section
variable {P : Program} {ops : Array Oper} {Q : Exit → Act → World → Prop}

/-- How a frame stands when these operations have been carried out. -/
structure Fr (ops : Array Oper) (base : Act) (val : Nat → Value) (listed : Array Bool) (a : Act) : Prop where
  defers : a.defers = base.defers
  size : a.tmps.size = base.tmps.size
  got : ∀ i o d, ops[i]? = some o → o.dst = some d → listed.getD i false = true → d < base.tmps.size → a.tmps[d]? = some (val i)
  not : ∀ m, (∀ i o, ops[i]? = some o → listed.getD i false = true → o.dst ≠ some m) → a.tmps[m]? = base.tmps[m]?

/-- No two operations write one slot. -/
def distinctB (ops : Array Oper) : Bool :=
  (List.range ops.size).all fun i => (List.range ops.size).all fun j => i == j || (match (ops[i]?).bind (·.dst), (ops[j]?).bind (·.dst) with | some d, some e => d != e | _, _ => true)

/-- Each operation waits for earlier ones alone. -/
def earlierB (ops : Array Oper) : Bool :=
  (List.range ops.size).all fun i => match ops[i]? with | some o => o.after.all fun e => e.on < i | none => true

theorem distinct_of (h : distinctB ops = true) {i j : Nat} {oi oj : Oper} {d : Nat} (hi : ops[i]? = some oi) (hj : ops[j]? = some oj) (hd : oi.dst = some d) (he : oj.dst = some d) : i = j := by
  unfold distinctB at h
  rw [List.all_eq_true] at h
  have h1 := h i (List.mem_range.2 (Array.getElem?_eq_some_iff.1 hi).1)
  rw [List.all_eq_true] at h1
  have h2 := h1 j (List.mem_range.2 (Array.getElem?_eq_some_iff.1 hj).1)
  simp only [hi, hj, Option.bind_some, hd, he] at h2
  simpa using h2

theorem Fr.step {base a : Act} {val : Nat → Value} {listed : Array Bool} {i : Nat} {o : Oper} (hd : distinctB ops = true) (hi : ops[i]? = some o) (hs : listed.size = ops.size) (h : Fr ops base val listed a) :
    Fr ops base val (listed.setIfInBounds i true) (a.put o.dst (val i)) := by
  have hlt : i < listed.size := by rw [hs]; exact (Array.getElem?_eq_some_iff.1 hi).1
  have get : ∀ j, (listed.setIfInBounds i true).getD j false = true → j = i ∨ listed.getD j false = true := fun j hj => by
    by_cases e : j = i
    · exact .inl e
    · right
      simp only [Array.getD_eq_getD_getElem?, Array.getElem?_setIfInBounds] at hj
      rw [if_neg (fun e' => e e'.symm)] at hj
      simpa [Array.getD_eq_getD_getElem?] using hj
  cases hdst : o.dst with
  | none =>
    refine ⟨h.defers, h.size, fun j oj d hj hjd hl hlt' => ?_, fun m hm => h.not m (fun j oj hj hl => hm j oj hj ?_)⟩
    · rcases get j hl with rfl | hl
      · rw [hi] at hj; cases hj; rw [hdst] at hjd; cases hjd
      · exact h.got j oj d hj hjd hl hlt'
    · by_cases e : j = i
      · subst e; simp [Array.getD_eq_getD_getElem?, Array.getElem?_setIfInBounds, hlt]
      · simp only [Array.getD_eq_getD_getElem?, Array.getElem?_setIfInBounds]
        rw [if_neg (fun e' => e e'.symm)]
        simpa [Array.getD_eq_getD_getElem?] using hl
  | some d =>
    refine ⟨h.defers, by simpa [Act.put] using h.size, fun j oj d' hj hjd hl hlt' => ?_, fun m hm => ?_⟩
    · simp only [Act.put, Array.getElem?_setIfInBounds]
      by_cases e : j = i
      · subst e
        rw [hi] at hj; cases hj; rw [hdst] at hjd; cases hjd
        rw [if_pos rfl, if_pos (by rw [h.size]; exact hlt')]
      · have hl' : listed.getD j false = true := (get j hl).resolve_left e
        have hne : d ≠ d' := fun e' => e (distinct_of hd hj hi (by rw [hjd, e']) hdst)
        rw [if_neg hne]
        exact h.got j oj d' hj hjd hl' hlt'
    · simp only [Act.put, Array.getElem?_setIfInBounds]
      have hne : d ≠ m := fun e => hm i o hi (by simp [Array.getD_eq_getD_getElem?, Array.getElem?_setIfInBounds, hlt]) (by rw [hdst, e])
      rw [if_neg hne]
      refine h.not m (fun j oj hj hl => hm j oj hj ?_)
      by_cases e : j = i
      · subst e; simp [Array.getD_eq_getD_getElem?, Array.getElem?_setIfInBounds, hlt]
      · simp only [Array.getD_eq_getD_getElem?, Array.getElem?_setIfInBounds]
        rw [if_neg (fun e' => e e'.symm)]
        simpa [Array.getD_eq_getD_getElem?] using hl

theorem Fr.start (base : Act) (val : Nat → Value) : Fr ops base val (Array.replicate ops.size false) base :=
  ⟨rfl, rfl, fun i o d hi _ hl _ => by
    have hlt := (Array.getElem?_eq_some_iff.1 hi).1
    simp [Array.getD_eq_getD_getElem?, hlt] at hl, fun _ _ => rfl⟩

/-- Two frames in which all has been carried out are one. -/
theorem Fr.unique {base a b : Act} {val : Nat → Value} {listed : Array Bool} (ha : Fr ops base val listed a) (hb : Fr ops base val listed b) : a = b := by
  have hd : a.defers = b.defers := ha.defers.trans hb.defers.symm
  have ht : a.tmps = b.tmps := by
    apply Array.ext_getElem?
    intro m
    by_cases h : ∃ i o, ops[i]? = some o ∧ listed.getD i false = true ∧ o.dst = some m
    · obtain ⟨i, o, hi, hl, hm⟩ := h
      by_cases hlt : m < base.tmps.size
      · rw [ha.got i o m hi hm hl hlt, hb.got i o m hi hm hl hlt]
      · rw [Array.getElem?_eq_none (by rw [ha.size]; omega), Array.getElem?_eq_none (by rw [hb.size]; omega)]
    · have hn : ∀ i o, ops[i]? = some o → listed.getD i false = true → o.dst ≠ some m := fun i o hi hl hm => h ⟨i, o, hi, hl, hm⟩
      rw [ha.not m hn, hb.not m hn]
  cases a; cases b; simp_all

/-- How many are still to come. -/
def toCome (ops : Array Oper) (listed : Array Bool) : List Nat := (List.range ops.size).filter fun i => !listed.getD i true

theorem toCome_less {listed : Array Bool} {i : Nat} (hs : listed.size = ops.size) (hi : i < ops.size) (hn : listed.getD i true = false) : (toCome ops (listed.setIfInBounds i true)).length < (toCome ops listed).length := by
  have e : toCome ops (listed.setIfInBounds i true) = (toCome ops listed).filter fun j => j != i := by
    unfold toCome
    rw [List.filter_filter]
    apply List.filter_congr
    intro j hj
    have hjl := List.mem_range.1 hj
    by_cases h : j = i
    · subst h; simp [Array.getD_eq_getD_getElem?, Array.getElem?_setIfInBounds, hs, hjl]
    · simp only [Array.getD_eq_getD_getElem?, Array.getElem?_setIfInBounds]
      rw [if_neg (fun e' => h e'.symm)]
      simp [h]
  rw [e]
  refine List.length_filter_lt_length_iff_exists.2 ⟨i, ?_, by simp⟩
  unfold toCome
  exact List.mem_filter.2 ⟨List.mem_range.2 hi, by simp [hn]⟩

theorem ready_mem {listed : Array Bool} {i : Nat} (h : i ∈ Region.ready .any ops listed) : ∃ o, ops[i]? = some o ∧ listed.getD i true = false ∧ ∀ e ∈ o.after, Region.binds .any e = true → listed.getD e.on false = true := by
  unfold Region.ready at h
  obtain ⟨h1, h2⟩ := List.mem_filter.1 h
  have hlt := List.mem_range.1 h1
  simp only [Bool.and_eq_true, Bool.not_eq_true', Array.getElem?_eq_getElem hlt, Option.map_some, Option.getD_some, Array.all_eq_true'] at h2
  refine ⟨_, Array.getElem?_eq_getElem hlt, h2.1, fun e he hb => ?_⟩
  have := h2.2 e he
  simpa [hb] using this

theorem ready_none {listed : Array Bool} (he : earlierB ops = true) (hs : listed.size = ops.size) (h : Region.ready .any ops listed = []) : ∀ i, i < ops.size → listed.getD i true = true := by
  intro i
  induction i using Nat.strongRecOn with
  | ind i ih =>
    intro hi
    apply Classical.byContradiction
    intro hn
    have hn' : listed.getD i true = false := by simpa using hn
    have : i ∈ Region.ready .any ops listed := by
      unfold Region.ready
      refine List.mem_filter.2 ⟨List.mem_range.2 hi, ?_⟩
      simp only [hn', Bool.not_false, Bool.true_and, Array.getElem?_eq_getElem hi, Option.map_some, Option.getD_some, Array.all_eq_true']
      intro e hee
      unfold earlierB at he
      rw [List.all_eq_true] at he
      have h1 := he i (List.mem_range.2 hi)
      simp only [Array.getElem?_eq_getElem hi, Array.all_eq_true'] at h1
      have h2 := h1 e hee
      have h3 : e.on < i := by simpa using h2
      have h4 := ih e.on h3 (by omega)
      have h5 : e.on < listed.size := by omega
      have : listed.getD e.on false = true := by
        simp only [Array.getD_eq_getD_getElem?, Array.getElem?_eq_getElem h5, Option.getD_some] at h4 ⊢
        exact h4
      simp [this]
    rw [h] at this
    cases this

/-- What waits has waited. -/
def Closed (ops : Array Oper) (listed : Array Bool) : Prop := ∀ j o, ops[j]? = some o → listed.getD j false = true → ∀ e ∈ o.after, Region.binds .any e = true → listed.getD e.on false = true

theorem getD_set {listed : Array Bool} {i j : Nat} (hi : i < listed.size) : (listed.setIfInBounds i true).getD j false = if j = i then true else listed.getD j false := by
  by_cases h : j = i
  · subst h; simp [Array.getD_eq_getD_getElem?, Array.getElem?_setIfInBounds, hi]
  · simp only [Array.getD_eq_getD_getElem?, Array.getElem?_setIfInBounds]
    rw [if_neg (fun e' => h e'.symm), if_neg h]

theorem Closed.step {listed : Array Bool} {i : Nat} {o : Oper} (hc : Closed ops listed) (ho : ops[i]? = some o) (hs : listed.size = ops.size) (hdep : ∀ e ∈ o.after, Region.binds .any e = true → listed.getD e.on false = true) : Closed ops (listed.setIfInBounds i true) := by
  have hi : i < listed.size := by rw [hs]; exact (Array.getElem?_eq_some_iff.1 ho).1
  intro j oj hj hl e he hb
  rw [getD_set hi] at hl ⊢
  split
  · rfl
  · by_cases hji : j = i
    · subst hji
      rw [ho] at hj; cases hj
      exact hdep e he hb
    · rw [if_neg hji] at hl
      exact hc j oj hj hl e he hb

/-- What is owed of each operation, in the text's order. -/
def Steps (P : Program) (ops : Array Oper) (Q : Exit → Act → World → Prop) (base : Act) (val : Nat → Value) (wf : Array Bool → World) : Nat → List Oper → Prop
  | _, [] => True
  | i, o :: rest =>
    (∀ (listed : Array Bool) (a : Act), listed.size = ops.size → listed.getD i false = false → (∀ e ∈ o.after, Region.binds .any e = true → listed.getD e.on false = true) → Closed ops listed → Fr ops base val listed a →
      ∀ K : Act → World → Prop, K (a.put o.dst (val i)) (wf (listed.setIfInBounds i true)) → if Region.wanted o (yielded ops a.tmps) = true then Oper.wp P o a (wf listed) K Q else K (a.put o.dst undef) (wf listed)) ∧
    Steps P ops Q base val wf (i + 1) rest

theorem Steps.at {base : Act} {val : Nat → Value} {wf : Array Bool → World} : ∀ (l : List Oper) (k : Nat), Steps P ops Q base val wf k l → ∀ (j : Nat) (o : Oper), l[j]? = some o →
    ∀ (listed : Array Bool) (a : Act), listed.size = ops.size → listed.getD (k + j) false = false → (∀ e ∈ o.after, Region.binds .any e = true → listed.getD e.on false = true) → Closed ops listed → Fr ops base val listed a →
      ∀ K : Act → World → Prop, K (a.put o.dst (val (k + j))) (wf (listed.setIfInBounds (k + j) true)) → if Region.wanted o (yielded ops a.tmps) = true then Oper.wp P o a (wf listed) K Q else K (a.put o.dst undef) (wf listed)
  | [], _, _, j, o, h => by simp at h
  | o' :: rest, k, hs, 0, o, h => by
    simp only [List.getElem?_cons_zero, Option.some.injEq] at h
    subst h
    exact hs.1
  | o' :: rest, k, hs, j + 1, o, h => by
    simp only [List.getElem?_cons_succ] at h
    have := Steps.at rest (k + 1) hs.2 j o h
    rw [show k + 1 + j = k + (j + 1) from by omega] at this
    exact this

/-- The frame when all has been carried out. -/
def finA (ops : Array Oper) (val : Nat → Value) (base : Act) : Nat → List Oper → Act
  | _, [] => base
  | i, o :: rest => finA ops val (base.put o.dst (val i)) (i + 1) rest

theorem finA_fr {base : Act} {val : Nat → Value} (hd : distinctB ops = true) : ∀ (l : List Oper) (k : Nat) (listed : Array Bool) (a : Act), (∀ j, l[j]? = ops[k + j]?) → listed.size = ops.size → Fr ops base val listed a → (∀ j, j < k → j < ops.size → listed.getD j false = true) →
    ∃ listed', listed'.size = ops.size ∧ Fr ops base val listed' (finA ops val a k l) ∧ ∀ j, j < ops.size → listed'.getD j false = true
  | [], k, listed, a, hl, hs, hf, hall => ⟨listed, hs, hf, fun j hj => hall j (by
      have := hl 0
      simp only [List.getElem?_nil] at this
      have h2 := Array.getElem?_eq_none_iff.1 this.symm
      omega) hj⟩
  | o :: rest, k, listed, a, hl, hs, hf, hall => by
    have ho : ops[k]? = some o := by have := hl 0; simpa using this.symm
    have hk : k < listed.size := by rw [hs]; exact (Array.getElem?_eq_some_iff.1 ho).1
    refine finA_fr hd rest (k + 1) (listed.setIfInBounds k true) _ (fun j => ?_) (by simpa using hs) (hf.step hd ho hs) (fun j hj hlt => ?_)
    · have := hl (j + 1)
      simp only [List.getElem?_cons_succ] at this
      rw [this, show k + (j + 1) = k + 1 + j from by omega]
    · rw [getD_set hk]
      split
      · rfl
      · exact hall j (by omega) hlt

/-- ONE STEP AN OPERATION SERVES EVERY ORDER. -/
theorem wpAny_flow {base : Act} {val : Nat → Value} {wf : Array Bool → World} (hd : distinctB ops = true) (he : earlierB ops = true) (hsteps : Steps P ops Q base val wf 0 ops.toList)
    (hend : ∀ (listed : Array Bool) (a : Act), listed.size = ops.size → (∀ i, i < ops.size → listed.getD i true = true) → Fr ops base val listed a → Q .normal a (wf listed)) :
    ∀ (fuel : Nat) (listed : Array Bool) (a : Act), listed.size = ops.size → (toCome ops listed).length ≤ fuel → Closed ops listed → Fr ops base val listed a → wpAny P .any ops Q fuel listed a (wf listed) := by
  intro fuel
  induction fuel with
  | zero =>
    intro listed a hs hf hc hfr
    have hn : toCome ops listed = [] := List.length_eq_zero_iff.1 (by omega)
    have hall : ∀ i, i < ops.size → listed.getD i true = true := fun i hi => by
      apply Classical.byContradiction
      intro h
      have : i ∈ toCome ops listed := List.mem_filter.2 ⟨List.mem_range.2 hi, by simpa using h⟩
      rw [hn] at this; cases this
    refine ⟨?_, hend listed a hs hall hfr⟩
    apply List.eq_nil_iff_forall_not_mem.2
    intro i hi
    obtain ⟨o, ho, hl, _⟩ := ready_mem hi
    have := hall i (Array.getElem?_eq_some_iff.1 ho).1
    rw [hl] at this; cases this
  | succ fuel ih =>
    intro listed a hs hf hc hfr
    refine ⟨fun hr => hend listed a hs (ready_none he hs hr) hfr, fun i hi => ?_⟩
    obtain ⟨o, ho, hl, hdep⟩ := ready_mem hi
    have hlt := (Array.getElem?_eq_some_iff.1 ho).1
    have hl' : listed.getD i false = false := by
      have h5 : i < listed.size := by omega
      simp only [Array.getD_eq_getD_getElem?, Array.getElem?_eq_getElem h5, Option.getD_some] at hl ⊢
      exact hl
    have hless := toCome_less hs hlt hl
    have hnext := ih (listed.setIfInBounds i true) (a.put o.dst (val i)) (by simpa using hs) (by omega) (hc.step ho hs hdep) (hfr.step hd ho hs)
    refine wpOp_step ho (fun K' hK' => ?_)
    have := Steps.at ops.toList 0 hsteps i o (by simpa using ho) listed a hs (by simpa using hl') hdep hc hfr K' (by simpa using hK' _ _ hnext)
    exact this

theorem wp_region_flow {id : Nat} {l : List Oper} {base : Act} {w : World} {val : Nat → Value} (wf : Array Bool → World) (hm : P.follows .mixedOrders = true) (hd : distinctB l.toArray = true) (he : earlierB l.toArray = true)
    (h0 : wf (Array.replicate l.toArray.size false) = { w with drawn := w.drawn + 1 }) (hsteps : Steps P l.toArray Q base val wf 0 l)
    (hend : ∀ listed : Array Bool, (∀ i, i < l.toArray.size → listed.getD i false = true) → Q .normal (finA l.toArray val base 0 l) (wf listed)) : (Code.region id l.toArray true).wp P Q base w := by
  refine wp_region_any hm ?_
  rw [← h0]
  refine wpAny_flow hd he hsteps ?_ l.toArray.size _ _ (by simp) ?_ ?_ (Fr.start base val)
  · intro listed a hs hall hfr
    have hall' : ∀ i, i < l.toArray.size → listed.getD i false = true := fun i hi => by
      have h5 : i < listed.size := by omega
      have := hall i hi
      simp only [Array.getD_eq_getD_getElem?, Array.getElem?_eq_getElem h5, Option.getD_some] at this ⊢
      exact this
    obtain ⟨listed', hs', hfr', hall2⟩ := finA_fr (base := base) (val := val) hd l 0 (Array.replicate l.toArray.size false) base (by simp) (by simp) (Fr.start base val) (fun j hj => by omega)
    have e : listed' = listed := by
      apply Array.ext_getElem?
      intro m
      by_cases hm : m < l.toArray.size
      · have h1 := hall' m hm
        have h2 := hall2 m hm
        have h5 : m < listed.size := by omega
        have h6 : m < listed'.size := by omega
        simp only [Array.getD_eq_getD_getElem?, Array.getElem?_eq_getElem h5, Array.getElem?_eq_getElem h6, Option.getD_some] at h1 h2
        rw [Array.getElem?_eq_getElem h5, Array.getElem?_eq_getElem h6, h1, h2]
      · rw [Array.getElem?_eq_none (by omega), Array.getElem?_eq_none (by omega)]
    rw [e] at hfr'
    rw [Fr.unique hfr hfr']
    exact hend listed hall'
  · exact Nat.le_trans (List.length_filter_le _ _) (by simp)
  · intro j o hj hl
    have hlt := (Array.getElem?_eq_some_iff.1 hj).1
    have h0 : (Array.replicate l.toArray.size false)[j]? = some false := by rw [Array.getElem?_replicate, if_pos hlt]
    rw [Array.getD_eq_getD_getElem?, h0] at hl
    cases hl

theorem Fr.eval {base a : Act} {val : Nat → Value} {listed : Array Bool} (h : Fr ops base val listed a) (j : Nat) (o : Oper) (d : Nat) (ho : ops[j]? = some o) (hd : o.dst = some d) (hlt : d < base.tmps.size) (hl : listed.getD j false = true) : a.eval (.tmp d) = val j := by
  have := h.got j o d ho hd hl hlt
  simp [Act.eval, Array.getD_eq_getD_getElem?, this]

/-- No operation writes this slot. -/
def notDstB (ops : Array Oper) (m : Nat) : Bool := ops.all fun o => o.dst != some m

theorem Fr.evalBase {base a : Act} {val : Nat → Value} {listed : Array Bool} (h : Fr ops base val listed a) (m : Nat) (hm : notDstB ops m = true) : a.eval (.tmp m) = base.eval (.tmp m) := by
  have := h.not m (fun i o ho _ => by
    unfold notDstB at hm
    rw [Array.all_eq_true'] at hm
    have := hm o (Array.mem_of_getElem? ho)
    simpa using this)
  simp [Act.eval, Array.getD_eq_getD_getElem?, this]

end

end Go.Proofs.YtaloffdkadhhnaaDoor

namespace Go.Proofs.YtaloffdkadhhnaaDoor
open Go.RowKit

theorem frz_alloc {W : World} {a : Addr} {v : Value} (hc : W.cell? a = some v) (hz : W.frozen? a = false) (o : Obj) : ((W.alloc o).drew).frozen? a = false := by
  have hlt := World.block_lt_of_cell? W a hc
  show (W.alloc o).frozen? a = false
  rw [← hz]
  exact World.frozen?_of_block (Below.heap_alloc W o a.block hlt)

theorem cell_alloc_d {W : World} {a : Addr} {v : Value} (hc : W.cell? a = some v) (o : Obj) : ((W.alloc o).drew).cell? a = some v := by
  have hlt := World.block_lt_of_cell? W a hc
  show (W.alloc o).cell? a = some v
  rw [← hc]
  exact World.cell?_of_block (Below.heap_alloc W o a.block hlt)

theorem getD_set_self {L : Array Bool} {i : Nat} (h : i < L.size) : (L.setIfInBounds i true).getD i false = true := by
  simp [Array.getD_eq_getD_getElem?, Array.getElem?_setIfInBounds, h]

theorem getD_set_ne {L : Array Bool} {i j : Nat} (h : j ≠ i) : (L.setIfInBounds i true).getD j false = L.getD j false := by
  simp only [Array.getD_eq_getD_getElem?, Array.getElem?_setIfInBounds]
  rw [if_neg (fun e' => h e'.symm)]

theorem not_later {ops : Array Oper} {L : Array Bool} (hc : Closed ops L) {i : Nat} (hl : L.getD i false = false) (j : Nat) (o : Oper) (ho : ops[j]? = some o) (e : Edge) (he : e ∈ o.after) (hb : Region.binds .any e = true) (hi : e.on = i := by rfl) : L.getD j false = false := by
  cases h : L.getD j false
  · rfl
  · have := hc j o ho h e he hb
    rw [hi, hl] at this
    cases this

end Go.Proofs.YtaloffdkadhhnaaDoor
