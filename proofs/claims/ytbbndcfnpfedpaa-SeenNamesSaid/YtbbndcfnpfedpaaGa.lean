/- A range over a function, where the iterator may keep cells and maps of its own: what each side may turn, told by numbers of blocks; the statement's law outside a round, and within one; the return of a function that held one. The law of a range over an iterator none of whose rounds is left early. The law of a range over an iterator that passes a round's frame on, even where the round says 'no more'. A region that draws its order, whose operations read what lay when it began, and whose callees make memory of their own: one walk, in the order of the text. What of worlds, blocks and lists speaks of no function of the program. -/
import Derived.RangeFuncNested
import Derived.RangeFuncLeaves
import Derived.Deep.QuietTactic
import Derived.BigQuiet
import Derived.Test.YtbbndcfnpfedpaaChecked
import Derived.Deep.AppendLies
import Derived.Deep.DeepMust
import Derived.Deep.LoopGhost
import Derived.Deep.RegionHeld3
import Derived.Deep.RegionWith
import Derived.DeepKeys4
import Derived.Handy
import Derived.Laws.CopyOwn
import Derived.Laws.Entries
import Derived.Laws.EntriesVeiled
import Derived.Lib.BitFns
import Derived.Lib.Hide
import Derived.Lib.TrailingZeros
import Derived.LoopIn
import Derived.LoopNIn
import Derived.Maps.AppendAt
import Derived.Maps.OwnIn
import Derived.Maps.OwnSet
import Derived.Orders
import Derived.OwnWalk
import Derived.OwnWalkIn
import Derived.RangeFuncBound
import Derived.RangeFuncBox
import Derived.RegionTactic
import Derived.ScopeJumps
import Derived.Shelf.Abstract
import Derived.Shelf.RegionOpen
import Derived.Sort.CutIn
import Derived.StillTailTactics
import Derived.TacticsInMore
import Derived.WalkKit
import Derived.WalkLawsBesides
import Derived.WalkMore
import Derived.WalkSpells
import Derived.WideKeyMaps
set_option linter.unusedVariables false
set_option linter.unusedSimpArgs false

namespace Go.Proofs.Ytbbndcfnpfedpaa
open Go.RowKit

/-- Of the blocks that lay, only such as p names may have turned; none has gone; the streams are as they were. -/
structure Alt (p : Nat → Prop) (w w' : World) : Prop where
  os : w'.os = w.os
  tape : w'.tape = w.tape
  out : w'.output = w.output
  size : w.heap.size ≤ w'.heap.size
  blk : ∀ k, k < w.heap.size → ¬ p k → w'.heap[k]? = w.heap[k]?

theorem Alt.refl (p : Nat → Prop) (w : World) : Alt p w w := ⟨rfl, rfl, rfl, Nat.le_refl _, fun _ _ _ => rfl⟩
theorem Alt.trans {p : Nat → Prop} {a b c : World} (h : Alt p a b) (k : Alt p b c) : Alt p a c :=
  ⟨k.os.trans h.os, k.tape.trans h.tape, k.out.trans h.out, Nat.le_trans h.size k.size, fun i hi hp => (k.blk i (Nat.lt_of_lt_of_le hi h.size) hp).trans (h.blk i hi hp)⟩
theorem Alt.mono {p q : Nat → Prop} {a b : World} (h : Alt p a b) (hq : ∀ k, k < a.heap.size → p k → q k) : Alt q a b :=
  ⟨h.os, h.tape, h.out, h.size, fun k hk hp => h.blk k hk (fun e => hp (hq k hk e))⟩
theorem Alt.alloc {p : Nat → Prop} {a w : World} (h : Alt p a w) (o : Obj) : Alt p a (w.alloc o) :=
  h.trans ⟨rfl, rfl, rfl, by simp, fun k hk _ => Below.heap_alloc _ _ _ hk⟩
theorem Alt.setCell {p : Nat → Prop} {a w : World} (h : Alt p a w) {q : Addr} (hq : p q.block) (u : Value) : Alt p a (w.setCell q u) :=
  h.trans ⟨rfl, rfl, rfl, by simp [World.setCell], fun k hk hp => Below.heap_setCell _ _ _ _ (fun e => hp (e ▸ hq))⟩
theorem Alt.putObj {p : Nat → Prop} {a w : World} (h : Alt p a w) {l : Nat} (hl : p l) (o : Obj) : Alt p a (w.putObj l o) :=
  h.trans ⟨rfl, rfl, rfl, by simp, fun k hk hp => World.putObj_heap_other (fun e => hp (e ▸ hl))⟩
theorem Alt.drew {p : Nat → Prop} {a w : World} (h : Alt p a w) : Alt p a w.drew := ⟨h.os, h.tape, h.out, h.size, h.blk⟩
theorem Alt.drewN {p : Nat → Prop} {a w : World} (h : Alt p a w) (n : Nat) : Alt p a (w.drewN n) := h.trans ⟨rfl, rfl, rfl, Nat.le_refl _, fun _ _ _ => rfl⟩
theorem Alt.grown {p : Nat → Prop} {a w w' : World} {row : Option Nat} (h : Alt p a w) (hg : w.grownBy w' row) (hr : ∀ k, row = some k → p k) : Alt p a w' :=
  h.trans ⟨hg.os, hg.tape, hg.output, hg.size, fun k hk hp => hg.block k hk (fun e => hp (hr k e.symm))⟩
theorem Alt.of_below {p : Nat → Prop} {a b : World} {B : Nat} (h : Below B a b) (hp : ∀ k, k < a.heap.size → B ≤ k → p k) : Alt p a b :=
  ⟨h.os, h.tape, h.output, h.size, fun k hk hq => h.block k (Nat.lt_of_not_le fun e => hq (hp k hk e))⟩
theorem Alt.below {p : Nat → Prop} {a b : World} {B : Nat} (h : Alt p a b) (hB : B ≤ a.heap.size) (hp : ∀ k, p k → B ≤ k) : Below B a b :=
  ⟨h.os, h.tape, h.out, h.size, fun k hk => h.blk k (Nat.lt_of_lt_of_le hk hB) (fun e => by have := hp k e; omega)⟩
theorem Alt.put {p : Nat → Prop} {w : World} {l : Nat} (hl : p l) (o : Obj) : Alt p w (w.putObj l o) := (Alt.refl p w).putObj hl o
theorem Alt.obj {p : Nat → Prop} {a b : World} (h : Alt p a b) {k : Nat} {o : Obj} (hk : a.heap[k]? = some o) (hp : ¬ p k) : b.heap[k]? = some o :=
  (h.blk k (Array.getElem?_eq_some_iff.1 hk).1 hp).trans hk

/-- The n blocks from lo on. -/
def Rng (lo n k : Nat) : Prop := lo ≤ k ∧ k < lo + n

/-- An iterator that gives xs, one after the other, until a round says 'no more'. It lays K blocks of its own first, and may turn them; it reads blocks that Rd names; a round leaves both as they were. -/
def Iter {α : Type} (P : Program) (g : Nat) (lb : Array Value) (encs : α → Array Value) (xs : List α) (K : Nat) (Rd : Nat → Prop) (w : World) : Prop :=
  ∀ (l : Nat) (J Jx : List α → World → Prop) (W : World), Alt (fun k => ¬ Rd k) w W →
    (∀ pre A B, J pre A → Alt (Rng W.heap.size K) A B → J pre B) → (∀ pre A B, Jx pre A → Alt (Rng W.heap.size K) A B → Jx pre B) →
    (∀ pre x post A, xs = pre ++ x :: post → W.heap.size + K ≤ A.heap.size → J pre A → YieldAt Fence.wide 0 P l (encs x) A fun e B =>
      (e = .returned (.bool true) ∧ J (pre ++ [x]) B ∧ Alt (fun k => ¬ (Rd k ∨ Rng W.heap.size K k)) A B) ∨ (e = .returned (.bool false) ∧ Jx (pre ++ [x]) B)) →
    J [] W →
    CallsIn Fence.wide 0 P g (#[.func (.yield l) #[] #[]] ++ lb) W fun e B => (∃ v, e = .returned v) ∧ (J xs B ∨ ∃ pre x post, xs = pre ++ x :: post ∧ Jx (pre ++ [x]) B)

/-- How a round's body may be left. -/
def rndPost {α : Type} (M : Nat → Prop) (I : List α → World → Prop) (Ix : Code → List α → World → Prop) (xs : List α) (W : World) : Exit → Act → World → Prop
  | .normal, _, B => Alt M W B ∧ I xs B
  | .ret, _, B => Alt M W B ∧ Ix .ret xs B
  | .exit id, _, B => Alt M W B ∧ Ix (.exit id) xs B
  | .goto t, _, B => Alt M W B ∧ Ix (.goto t) xs B
  | .panic _, _, _ => False
  | .outgrown, _, _ => False

variable {P : Program}

/-- One call of yield, out of the walks of the assignment and of the body. M: what a round may turn; it is neither the loop's record nor the block for deferred calls (D). -/
theorem yield_of_round {α : Type} {ps : Array Tmp} {assign body : Code} {tmps : Array Value} {fn : FuncId} {D l : Nat} {encs : α → Array Value} (hps : ∀ x, (encs x).size = ps.size)
    {rec : LoopState → Option Code → Loop} (hrec : rec = fun st pe => { state := st, pending := pe, fn, tmps, params := ps, assign, body, defers := D })
    {Z M : Nat → Prop} (hZ : Z l) (hM : ¬ M l)
    {I : List α → World → Prop} {Im : List α → α → Act → World → Prop} {Ix : Code → List α → World → Prop}
    (hI : ∀ pre A B, I pre A → Alt Z A B → I pre B) (hIm : ∀ pre x a A B, Im pre x a A → Alt Z A B → Im pre x a B) (hIx : ∀ c pre A B, Ix c pre A → Alt Z A B → Ix c pre B)
    {pre : List α} {x : α} {A : World} (hi : I pre A) (hl : A.heap[l]? = some (.loop (rec .ready none)))
    (hassign : ∀ r, A.heap[l]? = some (.loop r) → assign.wpIn (Fence.wide.inRound l) 0 P (Exit.then (fun a1 A1 => Alt M A A1 ∧ Im pre x a1 A1) (fun _ _ _ => False)) { tmps := (ps.zip (encs x)).foldl (fun t (p, v) => t.setIfInBounds p v) tmps, defers := [] } A)
    (hbody : ∀ a1 A1 r, A.heap.size ≤ A1.heap.size → A1.heap[l]? = some (.loop r) → Im pre x a1 A1 → body.wpIn (Fence.wide.inRound l) 0 P (rndPost M I Ix (pre ++ [x]) A1) a1 A1) :
    YieldAt Fence.wide 0 P l (encs x) A fun e B =>
      ((e = .returned (.bool true) ∧ I (pre ++ [x]) B ∧ B.heap[l]? = some (.loop (rec .ready none))) ∨
       (e = .returned (.bool false) ∧ ∃ c, Ix c (pre ++ [x]) B ∧ B.heap[l]? = some (.loop (rec .done (some c))))) ∧
      Alt (fun k => M k ∨ k = l) A B := by
  have hy := run_yield (P := P) (args := encs x) hl (by rw [hrec]; exact hps x)
  rw [hrec] at hy
  refine ⟨fn, _, assign, body, hy, roundIn_of_wpIn trivial ?_⟩
  refine wpIn_mono (hassign _ hl) ?_
  intro e a1 A1 h1
  cases e with
  | normal =>
    obtain ⟨hA1, hm⟩ := h1
    have hl1 := hA1.obj hl hM
    refine ⟨_, run_beginRound hl1 (by rw [hrec]), ?_⟩
    have hlt : l < A1.heap.size := (Array.getElem?_eq_some_iff.1 hl1).1
    have hl2 : (A1.putObj l (.loop { rec .ready none with state := .busy })).heap[l]? = some (.loop { rec .ready none with state := .busy }) := World.putObj_heap_same hlt
    refine wpIn_mono (hbody a1 _ _ (by simpa using hA1.size) hl2 (hIm _ _ _ _ _ hm (Alt.put hZ _))) ?_
    have A2 : Alt (fun k => M k ∨ k = l) A (A1.putObj l (.loop { rec .ready none with state := .busy })) := (hA1.mono fun k _ h => .inl h).putObj (.inr rfl) _
    have fin : ∀ (jump : Option Code) (B : World), Alt M (A1.putObj l (.loop { rec .ready none with state := .busy })) B →
        (Instr.endRound l jump).run P B = .ok (.bool jump.isNone) (B.putObj l (.loop (rec (if jump.isNone then .ready else .done) jump))) ∧
        (B.putObj l (.loop (rec (if jump.isNone then .ready else .done) jump))).heap[l]? = some (.loop (rec (if jump.isNone then .ready else .done) jump)) ∧
        Alt (fun k => M k ∨ k = l) A (B.putObj l (.loop (rec (if jump.isNone then .ready else .done) jump))) := fun jump B hB => by
      have hl3 := hB.obj hl2 hM
      have := run_endRound (P := P) jump hl3
      rw [hrec] at this ⊢
      exact ⟨this, World.putObj_heap_same (Array.getElem?_eq_some_iff.1 hl3).1, by rw [hrec] at A2 hB; exact (A2.trans (hB.mono fun k _ h => .inl h)).putObj (.inr rfl) _⟩
    intro e a3 B hp
    cases e with
    | normal =>
      obtain ⟨hB, hi3⟩ := hp
      obtain ⟨hr, hl4, hA4⟩ := fin none B hB
      exact ⟨_, _, hr, .inl ⟨rfl, hI _ _ _ hi3 (Alt.put hZ _), hl4⟩, hA4⟩
    | ret =>
      obtain ⟨hB, hi3⟩ := hp
      obtain ⟨hr, hl4, hA4⟩ := fin (some .ret) B hB
      exact ⟨_, _, hr, .inr ⟨rfl, .ret, hIx _ _ _ _ hi3 (Alt.put hZ _), hl4⟩, hA4⟩
    | exit id =>
      obtain ⟨hB, hi3⟩ := hp
      obtain ⟨hr, hl4, hA4⟩ := fin (some (.exit id)) B hB
      exact ⟨_, _, hr, .inr ⟨rfl, .exit id, hIx _ _ _ _ hi3 (Alt.put hZ _), hl4⟩, hA4⟩
    | goto t =>
      obtain ⟨hB, hi3⟩ := hp
      obtain ⟨hr, hl4, hA4⟩ := fin (some (.goto t)) B hB
      exact ⟨_, _, hr, .inr ⟨rfl, .goto t, hIx _ _ _ _ hi3 (Alt.put hZ _), hl4⟩, hA4⟩
    | panic ch => exact hp.elim
    | outgrown => exact hp.elim
  | exit id => exact h1.elim
  | goto t => exact h1.elim
  | ret => exact h1.elim
  | panic ch => exact h1.elim
  | outgrown => exact h1.elim

/-- The statement, outside a round. -/
theorem wp_iter {α : Type} {g : Operand} {ps : Array Tmp} {assign body : Code} {Q : Exit → Act → World → Prop} {a : Act} {w : World} {gf : Nat} {lb : Array Value}
    (hg : a.eval g = .func (.func gf) #[] lb) (eg : ∀ args w, (callFunc gf args).run P w = .ok (.enter gf args) w)
    {encs : α → Array Value} {xs : List α} {K : Nat} {Rd : Nat → Prop} (hseq : Iter P gf lb encs xs K Rd w) (hRd : ∀ k, Rd k → k < w.heap.size) (hps : ∀ x, (encs x).size = ps.size)
    (M : Nat → Prop) (hM : ∀ k, M k → ¬ Rd k ∧ ¬ Rng w.heap.size (2 + K) k)
    (I : List α → World → Prop) (Im : List α → α → Act → World → Prop) (Ix : Code → List α → World → Prop)
    (hI : ∀ pre A B, I pre A → Alt (Rng w.heap.size (2 + K)) A B → I pre B) (hIm : ∀ pre x a A B, Im pre x a A → Alt (Rng w.heap.size (2 + K)) A B → Im pre x a B) (hIx : ∀ c pre A B, Ix c pre A → Alt (Rng w.heap.size (2 + K)) A B → Ix c pre B)
    (h0 : I [] w)
    (hassign : ∀ (l : Nat) (pre : List α) (x : α) (post : List α) (A : World), xs = pre ++ x :: post → w.heap.size + (2 + K) ≤ A.heap.size → l = w.heap.size + 1 → (∃ r, A.heap[l]? = some (.loop r)) → I pre A →
      assign.wpIn (Fence.wide.inRound l) 0 P (Exit.then (fun a1 A1 => Alt M A A1 ∧ Im pre x a1 A1) (fun _ _ _ => False)) { tmps := (ps.zip (encs x)).foldl (fun t (p, v) => t.setIfInBounds p v) a.tmps, defers := [] } A)
    (hbody : ∀ (l : Nat) (pre : List α) (x : α) (post : List α) (a1 : Act) (A : World), xs = pre ++ x :: post → w.heap.size + (2 + K) ≤ A.heap.size → l = w.heap.size + 1 → (∃ r, A.heap[l]? = some (.loop r)) → Im pre x a1 A →
      body.wpIn (Fence.wide.inRound l) 0 P (rndPost M I Ix (pre ++ [x]) A) a1 A)
    (hdone : ∀ B, I xs B → w.heap.size + 2 ≤ B.heap.size → B.heap[w.heap.size]? = some (.deferred (some [])) → Q .normal { a with defers := { target := .collected w.heap.size, args := #[] } :: a.defers } B)
    (hstop : ∀ c pre x post B, xs = pre ++ x :: post → Ix c (pre ++ [x]) B → w.heap.size + (2 + K) ≤ B.heap.size → B.heap[w.heap.size]? = some (.deferred (some [])) → c.wpIn Fence.wide 0 P Q { a with defers := { target := .collected w.heap.size, args := #[] } :: a.defers } B) :
    (Code.rangeFunc g ps assign body).wpIn Fence.wide 0 P Q a w := by
  refine wpIn_rangeFunc ?_
  intro fn hfn
  show ∃ (l : Nat) (mark : List Deferred) (w₁ : World) (d : Deferred) (w₁' : World) (f : FuncId) (args : Array Value) (w₂ : World), (Instr.enterLoop fn a.tmps ps assign body none).run P w = .ok (l, mark) w₁ ∧ _
  obtain ⟨rec, hrec⟩ : ∃ rec : LoopState → Option Code → Loop, rec = fun st pe => { state := st, pending := pe, fn, tmps := a.tmps, params := ps, assign, body, defers := w.heap.size } := ⟨_, rfl⟩
  obtain ⟨W1, hW1⟩ : ∃ W1, (w.alloc (.deferred (some []))).alloc (.loop (rec .ready none)) = W1 := ⟨_, rfl⟩
  have hz : W1.heap.size = w.heap.size + 2 := by rw [← hW1]; simp
  have hL1 : W1.heap[w.heap.size + 1]? = some (.loop (rec .ready none)) := by
    rw [← hW1]; have := World.alloc_heap_new (w.alloc (.deferred (some []))) (.loop (rec .ready none)); rwa [World.size_alloc] at this
  have hK1 : W1.heap[w.heap.size]? = some (.deferred (some [])) := by
    rw [← hW1]; exact (Below.heap_alloc _ _ _ (by simp)).trans (World.alloc_heap_new w _)
  have A1 : ∀ p, Alt p w W1 := fun p => by rw [← hW1]; exact ((Alt.refl p w).alloc _).alloc _
  have zin : ∀ k, Rng W1.heap.size K k → Rng w.heap.size (2 + K) k := fun k h => by unfold Rng at *; omega
  have zl : Rng w.heap.size (2 + K) (w.heap.size + 1) := by unfold Rng; omega
  have z0 : Rng w.heap.size (2 + K) w.heap.size := by unfold Rng; omega
  have nM : ¬ M (w.heap.size + 1) := fun e => (hM _ e).2 zl
  have nM0 : ¬ M w.heap.size := fun e => (hM _ e).2 z0
  refine ⟨w.heap.size + 1, [{ target := .collected w.heap.size, args := #[] }], W1, { target := .fn (.func gf) lb, args := #[.func (.yield (w.heap.size + 1)) #[] #[]] }, W1, gf,
    #[.func (.yield (w.heap.size + 1)) #[] #[]] ++ lb, W1, ?_, ?_, ?_, ?_, fun h => by simp [Fence.wide] at h, ?_⟩
  · rw [← hW1, hrec]; exact run_enterLoop_outer _ _ _ _ _
  · simp only [resolve, hg]
    simp [go_sem]
  · intro f' hf'; trivial
  · simp [invoke, go_sem, eg]
  · have nr : ∀ j, w.heap.size ≤ j → j < w.heap.size + 2 → ¬ Rng W1.heap.size K j := fun j h1 h2 h => by unfold Rng at h; omega
    refine (hseq (w.heap.size + 1)
      (fun pre W => I pre W ∧ W.heap[w.heap.size + 1]? = some (.loop (rec .ready none)) ∧ W.heap[w.heap.size]? = some (.deferred (some [])))
      (fun pre W => ∃ c, Ix c pre W ∧ W.heap[w.heap.size + 1]? = some (.loop (rec .done (some c))) ∧ W.heap[w.heap.size]? = some (.deferred (some [])) ∧ w.heap.size + (2 + K) ≤ W.heap.size)
      W1 (A1 _)
      (fun pre A B h hAB => ⟨hI _ _ _ h.1 (hAB.mono fun k _ => zin k), hAB.obj h.2.1 (nr _ (by omega) (by omega)), hAB.obj h.2.2 (nr _ (by omega) (by omega))⟩)
      (fun pre A B h hAB => by
        obtain ⟨c, hc, h1, h2, h3⟩ := h
        exact ⟨c, hIx _ _ _ _ hc (hAB.mono fun k _ => zin k), hAB.obj h1 (nr _ (by omega) (by omega)), hAB.obj h2 (nr _ (by omega) (by omega)), Nat.le_trans h3 hAB.size⟩)
      ?_ ⟨hI _ _ _ h0 (A1 _), hL1, hK1⟩).mono ?_
    · rintro pre x post A hx hzA ⟨hi, hl, hk⟩
      have hzA' : w.heap.size + (2 + K) ≤ A.heap.size := by omega
      obtain ⟨f1, t1, as1, b1, hy, hR⟩ := yield_of_round (P := P) hps hrec (Z := Rng w.heap.size (2 + K)) (M := M) zl nM hI hIm hIx hi hl
        (fun r hr => hassign _ pre x post A hx hzA' rfl ⟨r, hr⟩ hi) (fun a1 A1 r hs hr hm => hbody _ pre x post a1 A1 hx (Nat.le_trans hzA' hs) rfl ⟨r, hr⟩ hm)
      refine ⟨f1, t1, as1, b1, hy, hR.mono ?_⟩
      rintro e B ⟨h, hA⟩
      have hk2 : B.heap[w.heap.size]? = some (.deferred (some [])) := hA.obj hk (fun e => e.elim nM0 (by omega))
      rcases h with ⟨he, h1, h2⟩ | ⟨he, c, h1, h2⟩
      · refine .inl ⟨he, ⟨h1, h2, hk2⟩, hA.mono fun k hk h hn => ?_⟩
        rcases h with h | rfl
        · rcases hn with hn | hn
          · exact (hM _ h).1 hn
          · exact (hM _ h).2 (zin _ hn)
        · rcases hn with hn | hn
          · have := hRd _ hn; omega
          · exact nr _ (by omega) (by omega) hn
      · exact .inr ⟨he, c, h1, h2, hk2, Nat.le_trans hzA' hA.size⟩
    · rintro e W2 ⟨⟨v, rfl⟩, (⟨hi, hl, hk⟩ | ⟨pre, x, post, hx, c, hi, hl, hk, hz2⟩)⟩
      · refine ⟨none, _, by have := run_endLoop (P := P) hl (by rw [hrec]; simp); rw [hrec] at this; exact this, ?_⟩
        exact hdone _ (hI _ _ _ hi (Alt.put zl _)) (by have := (Array.getElem?_eq_some_iff.1 hl).1; simp; omega) ((World.putObj_heap_other (by omega)).trans hk)
      · refine ⟨some c, _, by have := run_endLoop (P := P) hl (by rw [hrec]; simp); rw [hrec] at this; exact this, ?_⟩
        exact hstop c pre x post _ hx (hIx _ _ _ _ hi (Alt.put zl _)) (by simpa using hz2) ((World.putObj_heap_other (by omega)).trans hk)

/-- The statement, within a round of loop l₀. -/
theorem wp_iter_in {α : Type} {g : Operand} {ps : Array Tmp} {assign body : Code} {Q : Exit → Act → World → Prop} {a : Act} {w : World} {gf : Nat} {lb : Array Value} {l₀ : Nat} {r₀ : Loop} (hl₀ : w.heap[l₀]? = some (.loop r₀))
    (hg : a.eval g = .func (.func gf) #[] lb) (eg : ∀ args w, (callFunc gf args).run P w = .ok (.enter gf args) w)
    {encs : α → Array Value} {xs : List α} {K : Nat} {Rd : Nat → Prop} (hseq : Iter P gf lb encs xs K Rd w) (hRd : ∀ k, Rd k → k < w.heap.size) (hps : ∀ x, (encs x).size = ps.size)
    (M : Nat → Prop) (hM : ∀ k, M k → ¬ Rd k ∧ ¬ Rng w.heap.size (1 + K) k)
    (I : List α → World → Prop) (Im : List α → α → Act → World → Prop) (Ix : Code → List α → World → Prop)
    (hI : ∀ pre A B, I pre A → Alt (Rng w.heap.size (1 + K)) A B → I pre B) (hIm : ∀ pre x a A B, Im pre x a A → Alt (Rng w.heap.size (1 + K)) A B → Im pre x a B) (hIx : ∀ c pre A B, Ix c pre A → Alt (Rng w.heap.size (1 + K)) A B → Ix c pre B)
    (h0 : I [] w)
    (hassign : ∀ (l : Nat) (pre : List α) (x : α) (post : List α) (A : World), xs = pre ++ x :: post → w.heap.size + (1 + K) ≤ A.heap.size → l = w.heap.size → (∃ r, A.heap[l]? = some (.loop r)) → I pre A →
      assign.wpIn (Fence.wide.inRound l) 0 P (Exit.then (fun a1 A1 => Alt M A A1 ∧ Im pre x a1 A1) (fun _ _ _ => False)) { tmps := (ps.zip (encs x)).foldl (fun t (p, v) => t.setIfInBounds p v) a.tmps, defers := [] } A)
    (hbody : ∀ (l : Nat) (pre : List α) (x : α) (post : List α) (a1 : Act) (A : World), xs = pre ++ x :: post → w.heap.size + (1 + K) ≤ A.heap.size → l = w.heap.size → (∃ r, A.heap[l]? = some (.loop r)) → Im pre x a1 A →
      body.wpIn (Fence.wide.inRound l) 0 P (rndPost M I Ix (pre ++ [x]) A) a1 A)
    (hdone : ∀ B, I xs B → w.heap.size + 1 ≤ B.heap.size → Q .normal a B)
    (hstop : ∀ c pre x post B, xs = pre ++ x :: post → Ix c (pre ++ [x]) B → w.heap.size + (1 + K) ≤ B.heap.size → c.wpIn (Fence.wide.inRound l₀) 0 P Q a B) :
    (Code.rangeFunc g ps assign body).wpIn (Fence.wide.inRound l₀) 0 P Q a w := by
  refine wpIn_rangeFunc ?_
  intro fn hfn
  show ∃ (l : Nat) (mark : List Deferred) (w₁ : World) (d : Deferred) (w₁' : World) (f : FuncId) (args : Array Value) (w₂ : World), (Instr.enterLoop fn a.tmps ps assign body (some l₀)).run P w = .ok (l, mark) w₁ ∧ _
  obtain ⟨rec, hrec⟩ : ∃ rec : LoopState → Option Code → Loop, rec = fun st pe => { state := st, pending := pe, fn, tmps := a.tmps, params := ps, assign, body, defers := r₀.defers } := ⟨_, rfl⟩
  obtain ⟨W1, hW1⟩ : ∃ W1, w.alloc (.loop (rec .ready none)) = W1 := ⟨_, rfl⟩
  have hz : W1.heap.size = w.heap.size + 1 := by rw [← hW1]; simp
  have hL1 : W1.heap[w.heap.size]? = some (.loop (rec .ready none)) := by rw [← hW1]; exact World.alloc_heap_new w _
  have A1 : ∀ p, Alt p w W1 := fun p => by rw [← hW1]; exact (Alt.refl p w).alloc _
  have zin : ∀ k, Rng W1.heap.size K k → Rng w.heap.size (1 + K) k := fun k h => by unfold Rng at *; omega
  have zl : Rng w.heap.size (1 + K) w.heap.size := by unfold Rng; omega
  have nM : ¬ M w.heap.size := fun e => (hM _ e).2 zl
  refine ⟨w.heap.size, [], W1, { target := .fn (.func gf) lb, args := #[.func (.yield w.heap.size) #[] #[]] }, W1, gf,
    #[.func (.yield w.heap.size) #[] #[]] ++ lb, W1, ?_, ?_, ?_, ?_, fun h => by simp [Fence.wide] at h, ?_⟩
  · rw [← hW1, hrec]; exact run_enterLoop_inner hl₀ _ _ _ _ _
  · simp only [resolve, hg]
    simp [go_sem]
  · intro f' hf'; trivial
  · simp [invoke, go_sem, eg]
  · have nr : ∀ j, w.heap.size ≤ j → j < w.heap.size + 1 → ¬ Rng W1.heap.size K j := fun j h1 h2 h => by unfold Rng at h; omega
    refine (hseq w.heap.size
      (fun pre W => I pre W ∧ W.heap[w.heap.size]? = some (.loop (rec .ready none)))
      (fun pre W => ∃ c, Ix c pre W ∧ W.heap[w.heap.size]? = some (.loop (rec .done (some c))) ∧ w.heap.size + (1 + K) ≤ W.heap.size)
      W1 (A1 _)
      (fun pre A B h hAB => ⟨hI _ _ _ h.1 (hAB.mono fun k _ => zin k), hAB.obj h.2 (nr _ (by omega) (by omega))⟩)
      (fun pre A B h hAB => by
        obtain ⟨c, hc, h1, h3⟩ := h
        exact ⟨c, hIx _ _ _ _ hc (hAB.mono fun k _ => zin k), hAB.obj h1 (nr _ (by omega) (by omega)), Nat.le_trans h3 hAB.size⟩)
      ?_ ⟨hI _ _ _ h0 (A1 _), hL1⟩).mono ?_
    · rintro pre x post A hx hzA ⟨hi, hl⟩
      have hzA' : w.heap.size + (1 + K) ≤ A.heap.size := by omega
      obtain ⟨f1, t1, as1, b1, hy, hR⟩ := yield_of_round (P := P) hps hrec (Z := Rng w.heap.size (1 + K)) (M := M) zl nM hI hIm hIx hi hl
        (fun r hr => hassign _ pre x post A hx hzA' rfl ⟨r, hr⟩ hi) (fun a1 A1 r hs hr hm => hbody _ pre x post a1 A1 hx (Nat.le_trans hzA' hs) rfl ⟨r, hr⟩ hm)
      refine ⟨f1, t1, as1, b1, hy, hR.mono ?_⟩
      rintro e B ⟨h, hA⟩
      rcases h with ⟨he, h1, h2⟩ | ⟨he, c, h1, h2⟩
      · refine .inl ⟨he, ⟨h1, h2⟩, hA.mono fun k hk h hn => ?_⟩
        rcases h with h | rfl
        · rcases hn with hn | hn
          · exact (hM _ h).1 hn
          · exact (hM _ h).2 (zin _ hn)
        · rcases hn with hn | hn
          · have := hRd _ hn; omega
          · exact nr _ (by omega) (by omega) hn
      · exact .inr ⟨he, c, h1, h2, Nat.le_trans hzA' hA.size⟩
    · rintro e W2 ⟨⟨v, rfl⟩, (⟨hi, hl⟩ | ⟨pre, x, post, hx, c, hi, hl, hz2⟩)⟩
      · refine ⟨none, _, by have := run_endLoop (P := P) hl (by rw [hrec]; simp); rw [hrec] at this; exact this, ?_⟩
        exact hdone _ (hI _ _ _ hi (Alt.put zl _)) (by have := (Array.getElem?_eq_some_iff.1 hl).1; simp; omega)
      · refine ⟨some c, _, by have := run_endLoop (P := P) hl (by rw [hrec]; simp); rw [hrec] at this; exact this, ?_⟩
        exact hstop c pre x post _ hx (hIx _ _ _ _ hi (Alt.put zl _)) (by simpa using hz2)

/-- A function that held such a statement returns: the block for deferred calls is shut. -/
theorem leave_ret {fn : Func} {R : Ending → World → Prop} {tmps : Array Value} {D : Nat} {W : World} {v : Value} (hK : W.heap[D]? = some (.deferred (some [])))
    (hr : (results fn tmps).run P (W.putObj D (.deferred none)) = .ok v (W.putObj D (.deferred none))) (hR : R (.returned v) (W.putObj D (.deferred none))) :
    bodyPostM Fence.wide 0 P fn R .ret { tmps := tmps, defers := [{ target := .collected D, args := #[] }] } W :=
  ⟨by simp, .inl ⟨_, _, rfl, run_takeDeferred hK, ⟨v, hr, hR⟩⟩⟩

end Go.Proofs.Ytbbndcfnpfedpaa

namespace Go.Proofs.Ytbbndcfnpfedpaa
open Go.RowKit

variable {P : Program}

/-- An iterator whose rounds all go on. -/
def IterT {α : Type} (P : Program) (g : Nat) (lb : Array Value) (encs : α → Array Value) (xs : List α) (K : Nat) (Rd : Nat → Prop) (w : World) : Prop :=
  ∀ (l : Nat) (J : List α → World → Prop) (W : World), Alt (fun k => ¬ Rd k) w W →
    (∀ pre A B, J pre A → Alt (Rng W.heap.size K) A B → J pre B) →
    (∀ pre x post A, xs = pre ++ x :: post → W.heap.size + K ≤ A.heap.size → J pre A → YieldAt Fence.wide 0 P l (encs x) A fun e B =>
      e = .returned (.bool true) ∧ J (pre ++ [x]) B ∧ Alt (fun k => ¬ (Rd k ∨ Rng W.heap.size K k)) A B) →
    J [] W →
    CallsIn Fence.wide 0 P g (#[.func (.yield l) #[] #[]] ++ lb) W fun e B => (∃ v, e = .returned v) ∧ J xs B

/-- The statement over such an iterator, outside a round. -/
theorem wp_iterT {α : Type} {g : Operand} {ps : Array Tmp} {assign body : Code} {Q : Exit → Act → World → Prop} {a : Act} {w : World} {gf : Nat} {lb : Array Value}
    (hg : a.eval g = .func (.func gf) #[] lb) (eg : ∀ args w, (callFunc gf args).run P w = .ok (.enter gf args) w)
    {encs : α → Array Value} {xs : List α} {K : Nat} {Rd : Nat → Prop} (hseq : IterT P gf lb encs xs K Rd w) (hRd : ∀ k, Rd k → k < w.heap.size) (hps : ∀ x, (encs x).size = ps.size)
    (M : Nat → Prop) (hM : ∀ k, M k → ¬ Rd k ∧ ¬ Rng w.heap.size (2 + K) k)
    (I : List α → World → Prop) (Im : List α → α → Act → World → Prop)
    (hI : ∀ pre A B, I pre A → Alt (Rng w.heap.size (2 + K)) A B → I pre B) (hIm : ∀ pre x a A B, Im pre x a A → Alt (Rng w.heap.size (2 + K)) A B → Im pre x a B)
    (h0 : I [] w)
    (hassign : ∀ (l : Nat) (pre : List α) (x : α) (post : List α) (A : World), xs = pre ++ x :: post → w.heap.size + (2 + K) ≤ A.heap.size → l = w.heap.size + 1 → (∃ r, A.heap[l]? = some (.loop r)) → I pre A →
      assign.wpIn (Fence.wide.inRound l) 0 P (Exit.then (fun a1 A1 => Alt M A A1 ∧ Im pre x a1 A1) (fun _ _ _ => False)) { tmps := (ps.zip (encs x)).foldl (fun t (p, v) => t.setIfInBounds p v) a.tmps, defers := [] } A)
    (hbody : ∀ (l : Nat) (pre : List α) (x : α) (post : List α) (a1 : Act) (A : World), xs = pre ++ x :: post → w.heap.size + (2 + K) ≤ A.heap.size → l = w.heap.size + 1 → (∃ r, A.heap[l]? = some (.loop r)) → Im pre x a1 A →
      body.wpIn (Fence.wide.inRound l) 0 P (rndPost M I (fun _ _ _ => False) (pre ++ [x]) A) a1 A)
    (hdone : ∀ B, I xs B → w.heap.size + 2 ≤ B.heap.size → B.heap[w.heap.size]? = some (.deferred (some [])) → Q .normal { a with defers := { target := .collected w.heap.size, args := #[] } :: a.defers } B) :
    (Code.rangeFunc g ps assign body).wpIn Fence.wide 0 P Q a w := by
  refine wpIn_rangeFunc ?_
  intro fn hfn
  show ∃ (l : Nat) (mark : List Deferred) (w₁ : World) (d : Deferred) (w₁' : World) (f : FuncId) (args : Array Value) (w₂ : World), (Instr.enterLoop fn a.tmps ps assign body none).run P w = .ok (l, mark) w₁ ∧ _
  obtain ⟨rec, hrec⟩ : ∃ rec : LoopState → Option Code → Loop, rec = fun st pe => { state := st, pending := pe, fn, tmps := a.tmps, params := ps, assign, body, defers := w.heap.size } := ⟨_, rfl⟩
  obtain ⟨W1, hW1⟩ : ∃ W1, (w.alloc (.deferred (some []))).alloc (.loop (rec .ready none)) = W1 := ⟨_, rfl⟩
  have hz : W1.heap.size = w.heap.size + 2 := by rw [← hW1]; simp
  have hL1 : W1.heap[w.heap.size + 1]? = some (.loop (rec .ready none)) := by
    rw [← hW1]; have := World.alloc_heap_new (w.alloc (.deferred (some []))) (.loop (rec .ready none)); rwa [World.size_alloc] at this
  have hK1 : W1.heap[w.heap.size]? = some (.deferred (some [])) := by
    rw [← hW1]; exact (Below.heap_alloc _ _ _ (by simp)).trans (World.alloc_heap_new w _)
  have A1 : ∀ p, Alt p w W1 := fun p => by rw [← hW1]; exact ((Alt.refl p w).alloc _).alloc _
  have zin : ∀ k, Rng W1.heap.size K k → Rng w.heap.size (2 + K) k := fun k h => by unfold Rng at *; omega
  have zl : Rng w.heap.size (2 + K) (w.heap.size + 1) := by unfold Rng; omega
  have z0 : Rng w.heap.size (2 + K) w.heap.size := by unfold Rng; omega
  have nM : ¬ M (w.heap.size + 1) := fun e => (hM _ e).2 zl
  have nM0 : ¬ M w.heap.size := fun e => (hM _ e).2 z0
  refine ⟨w.heap.size + 1, [{ target := .collected w.heap.size, args := #[] }], W1, { target := .fn (.func gf) lb, args := #[.func (.yield (w.heap.size + 1)) #[] #[]] }, W1, gf,
    #[.func (.yield (w.heap.size + 1)) #[] #[]] ++ lb, W1, ?_, ?_, ?_, ?_, fun h => by simp [Fence.wide] at h, ?_⟩
  · rw [← hW1, hrec]; exact run_enterLoop_outer _ _ _ _ _
  · simp only [resolve, hg]
    simp [go_sem]
  · intro f' hf'; trivial
  · simp [invoke, go_sem, eg]
  · have nr : ∀ j, w.heap.size ≤ j → j < w.heap.size + 2 → ¬ Rng W1.heap.size K j := fun j h1 h2 h => by unfold Rng at h; omega
    refine (hseq (w.heap.size + 1)
      (fun pre W => I pre W ∧ W.heap[w.heap.size + 1]? = some (.loop (rec .ready none)) ∧ W.heap[w.heap.size]? = some (.deferred (some [])))
      W1 (A1 _)
      (fun pre A B h hAB => ⟨hI _ _ _ h.1 (hAB.mono fun k _ => zin k), hAB.obj h.2.1 (nr _ (by omega) (by omega)), hAB.obj h.2.2 (nr _ (by omega) (by omega))⟩)
      ?_ ⟨hI _ _ _ h0 (A1 _), hL1, hK1⟩).mono ?_
    · rintro pre x post A hx hzA ⟨hi, hl, hk⟩
      have hzA' : w.heap.size + (2 + K) ≤ A.heap.size := by omega
      obtain ⟨f1, t1, as1, b1, hy, hR⟩ := yield_of_round (P := P) hps hrec (Z := Rng w.heap.size (2 + K)) (M := M) zl nM (Ix := fun _ _ _ => False) hI hIm (fun _ _ _ _ h _ => h) hi hl
        (fun r hr => hassign _ pre x post A hx hzA' rfl ⟨r, hr⟩ hi) (fun a1 A1 r hs hr hm => hbody _ pre x post a1 A1 hx (Nat.le_trans hzA' hs) rfl ⟨r, hr⟩ hm)
      refine ⟨f1, t1, as1, b1, hy, hR.mono ?_⟩
      rintro e B ⟨h, hA⟩
      have hk2 : B.heap[w.heap.size]? = some (.deferred (some [])) := hA.obj hk (fun e => e.elim nM0 (by omega))
      rcases h with ⟨he, h1, h2⟩ | ⟨he, c, h1, h2⟩
      · refine ⟨he, ⟨h1, h2, hk2⟩, hA.mono fun k hk h hn => ?_⟩
        rcases h with h | rfl
        · rcases hn with hn | hn
          · exact (hM _ h).1 hn
          · exact (hM _ h).2 (zin _ hn)
        · rcases hn with hn | hn
          · have := hRd _ hn; omega
          · exact nr _ (by omega) (by omega) hn
      · exact h1.elim
    · rintro e W2 ⟨⟨v, rfl⟩, hi, hl, hk⟩
      refine ⟨none, _, by have := run_endLoop (P := P) hl (by rw [hrec]; simp); rw [hrec] at this; exact this, ?_⟩
      exact hdone _ (hI _ _ _ hi (Alt.put zl _)) (by have := (Array.getElem?_eq_some_iff.1 hl).1; simp; omega) ((World.putObj_heap_other (by omega)).trans hk)


end Go.Proofs.Ytbbndcfnpfedpaa

namespace Go.Proofs.Ytbbndcfnpfedpaa
open Go.RowKit

variable {P : Program}

/-- An iterator like Iter, whose rounds leave its blocks as they were, be they the last or not. -/
def IterA {α : Type} (P : Program) (g : Nat) (lb : Array Value) (encs : α → Array Value) (xs : List α) (K : Nat) (Rd : Nat → Prop) (w : World) : Prop :=
  ∀ (l : Nat) (J Jx : List α → World → Prop) (W : World), Alt (fun k => ¬ Rd k) w W →
    (∀ pre A B, J pre A → Alt (Rng W.heap.size K) A B → J pre B) → (∀ pre A B, Jx pre A → Alt (Rng W.heap.size K) A B → Jx pre B) →
    (∀ pre x post A, xs = pre ++ x :: post → W.heap.size + K ≤ A.heap.size → J pre A → YieldAt Fence.wide 0 P l (encs x) A fun e B =>
      ((e = .returned (.bool true) ∧ J (pre ++ [x]) B) ∨ (e = .returned (.bool false) ∧ Jx (pre ++ [x]) B)) ∧ Alt (fun k => ¬ (Rd k ∨ Rng W.heap.size K k)) A B) →
    J [] W →
    CallsIn Fence.wide 0 P g (#[.func (.yield l) #[] #[]] ++ lb) W fun e B => (∃ v, e = .returned v) ∧ (J xs B ∨ ∃ pre x post, xs = pre ++ x :: post ∧ Jx (pre ++ [x]) B)

/-- The statement over such an iterator, outside a round. -/
theorem wp_iterA {α : Type} {g : Operand} {ps : Array Tmp} {assign body : Code} {Q : Exit → Act → World → Prop} {a : Act} {w : World} {gf : Nat} {lb : Array Value}
    (hg : a.eval g = .func (.func gf) #[] lb) (eg : ∀ args w, (callFunc gf args).run P w = .ok (.enter gf args) w)
    {encs : α → Array Value} {xs : List α} {K : Nat} {Rd : Nat → Prop} (hseq : IterA P gf lb encs xs K Rd w) (hRd : ∀ k, Rd k → k < w.heap.size) (hps : ∀ x, (encs x).size = ps.size)
    (M : Nat → Prop) (hM : ∀ k, M k → ¬ Rd k ∧ ¬ Rng w.heap.size (2 + K) k)
    (I : List α → World → Prop) (Im : List α → α → Act → World → Prop) (Ix : Code → List α → World → Prop)
    (hI : ∀ pre A B, I pre A → Alt (Rng w.heap.size (2 + K)) A B → I pre B) (hIm : ∀ pre x a A B, Im pre x a A → Alt (Rng w.heap.size (2 + K)) A B → Im pre x a B) (hIx : ∀ c pre A B, Ix c pre A → Alt (Rng w.heap.size (2 + K)) A B → Ix c pre B)
    (h0 : I [] w)
    (hassign : ∀ (l : Nat) (pre : List α) (x : α) (post : List α) (A : World), xs = pre ++ x :: post → w.heap.size + (2 + K) ≤ A.heap.size → l = w.heap.size + 1 → (∃ r, A.heap[l]? = some (.loop r)) → I pre A →
      assign.wpIn (Fence.wide.inRound l) 0 P (Exit.then (fun a1 A1 => Alt M A A1 ∧ Im pre x a1 A1) (fun _ _ _ => False)) { tmps := (ps.zip (encs x)).foldl (fun t (p, v) => t.setIfInBounds p v) a.tmps, defers := [] } A)
    (hbody : ∀ (l : Nat) (pre : List α) (x : α) (post : List α) (a1 : Act) (A : World), xs = pre ++ x :: post → w.heap.size + (2 + K) ≤ A.heap.size → l = w.heap.size + 1 → (∃ r, A.heap[l]? = some (.loop r)) → Im pre x a1 A →
      body.wpIn (Fence.wide.inRound l) 0 P (rndPost M I Ix (pre ++ [x]) A) a1 A)
    (hdone : ∀ B, I xs B → w.heap.size + 2 ≤ B.heap.size → B.heap[w.heap.size]? = some (.deferred (some [])) → Q .normal { a with defers := { target := .collected w.heap.size, args := #[] } :: a.defers } B)
    (hstop : ∀ c pre x post B, xs = pre ++ x :: post → Ix c (pre ++ [x]) B → w.heap.size + (2 + K) ≤ B.heap.size → B.heap[w.heap.size]? = some (.deferred (some [])) → c.wpIn Fence.wide 0 P Q { a with defers := { target := .collected w.heap.size, args := #[] } :: a.defers } B) :
    (Code.rangeFunc g ps assign body).wpIn Fence.wide 0 P Q a w := by
  refine wpIn_rangeFunc ?_
  intro fn hfn
  show ∃ (l : Nat) (mark : List Deferred) (w₁ : World) (d : Deferred) (w₁' : World) (f : FuncId) (args : Array Value) (w₂ : World), (Instr.enterLoop fn a.tmps ps assign body none).run P w = .ok (l, mark) w₁ ∧ _
  obtain ⟨rec, hrec⟩ : ∃ rec : LoopState → Option Code → Loop, rec = fun st pe => { state := st, pending := pe, fn, tmps := a.tmps, params := ps, assign, body, defers := w.heap.size } := ⟨_, rfl⟩
  obtain ⟨W1, hW1⟩ : ∃ W1, (w.alloc (.deferred (some []))).alloc (.loop (rec .ready none)) = W1 := ⟨_, rfl⟩
  have hz : W1.heap.size = w.heap.size + 2 := by rw [← hW1]; simp
  have hL1 : W1.heap[w.heap.size + 1]? = some (.loop (rec .ready none)) := by
    rw [← hW1]; have := World.alloc_heap_new (w.alloc (.deferred (some []))) (.loop (rec .ready none)); rwa [World.size_alloc] at this
  have hK1 : W1.heap[w.heap.size]? = some (.deferred (some [])) := by
    rw [← hW1]; exact (Below.heap_alloc _ _ _ (by simp)).trans (World.alloc_heap_new w _)
  have A1 : ∀ p, Alt p w W1 := fun p => by rw [← hW1]; exact ((Alt.refl p w).alloc _).alloc _
  have zin : ∀ k, Rng W1.heap.size K k → Rng w.heap.size (2 + K) k := fun k h => by unfold Rng at *; omega
  have zl : Rng w.heap.size (2 + K) (w.heap.size + 1) := by unfold Rng; omega
  have z0 : Rng w.heap.size (2 + K) w.heap.size := by unfold Rng; omega
  have nM : ¬ M (w.heap.size + 1) := fun e => (hM _ e).2 zl
  have nM0 : ¬ M w.heap.size := fun e => (hM _ e).2 z0
  refine ⟨w.heap.size + 1, [{ target := .collected w.heap.size, args := #[] }], W1, { target := .fn (.func gf) lb, args := #[.func (.yield (w.heap.size + 1)) #[] #[]] }, W1, gf,
    #[.func (.yield (w.heap.size + 1)) #[] #[]] ++ lb, W1, ?_, ?_, ?_, ?_, fun h => by simp [Fence.wide] at h, ?_⟩
  · rw [← hW1, hrec]; exact run_enterLoop_outer _ _ _ _ _
  · simp only [resolve, hg]
    simp [go_sem]
  · intro f' hf'; trivial
  · simp [invoke, go_sem, eg]
  · have nr : ∀ j, w.heap.size ≤ j → j < w.heap.size + 2 → ¬ Rng W1.heap.size K j := fun j h1 h2 h => by unfold Rng at h; omega
    refine (hseq (w.heap.size + 1)
      (fun pre W => I pre W ∧ W.heap[w.heap.size + 1]? = some (.loop (rec .ready none)) ∧ W.heap[w.heap.size]? = some (.deferred (some [])))
      (fun pre W => ∃ c, Ix c pre W ∧ W.heap[w.heap.size + 1]? = some (.loop (rec .done (some c))) ∧ W.heap[w.heap.size]? = some (.deferred (some [])) ∧ w.heap.size + (2 + K) ≤ W.heap.size)
      W1 (A1 _)
      (fun pre A B h hAB => ⟨hI _ _ _ h.1 (hAB.mono fun k _ => zin k), hAB.obj h.2.1 (nr _ (by omega) (by omega)), hAB.obj h.2.2 (nr _ (by omega) (by omega))⟩)
      (fun pre A B h hAB => by
        obtain ⟨c, hc, h1, h2, h3⟩ := h
        exact ⟨c, hIx _ _ _ _ hc (hAB.mono fun k _ => zin k), hAB.obj h1 (nr _ (by omega) (by omega)), hAB.obj h2 (nr _ (by omega) (by omega)), Nat.le_trans h3 hAB.size⟩)
      ?_ ⟨hI _ _ _ h0 (A1 _), hL1, hK1⟩).mono ?_
    · rintro pre x post A hx hzA ⟨hi, hl, hk⟩
      have hzA' : w.heap.size + (2 + K) ≤ A.heap.size := by omega
      obtain ⟨f1, t1, as1, b1, hy, hR⟩ := yield_of_round (P := P) hps hrec (Z := Rng w.heap.size (2 + K)) (M := M) zl nM hI hIm hIx hi hl
        (fun r hr => hassign _ pre x post A hx hzA' rfl ⟨r, hr⟩ hi) (fun a1 A1 r hs hr hm => hbody _ pre x post a1 A1 hx (Nat.le_trans hzA' hs) rfl ⟨r, hr⟩ hm)
      refine ⟨f1, t1, as1, b1, hy, hR.mono ?_⟩
      rintro e B ⟨h, hA⟩
      have hk2 : B.heap[w.heap.size]? = some (.deferred (some [])) := hA.obj hk (fun e => e.elim nM0 (by omega))
      refine ⟨?_, hA.mono fun k hk h hn => ?_⟩
      · rcases h with ⟨he, h1, h2⟩ | ⟨he, c, h1, h2⟩
        · exact .inl ⟨he, h1, h2, hk2⟩
        · exact .inr ⟨he, c, h1, h2, hk2, Nat.le_trans hzA' hA.size⟩
      · rcases h with h | rfl
        · rcases hn with hn | hn
          · exact (hM _ h).1 hn
          · exact (hM _ h).2 (zin _ hn)
        · rcases hn with hn | hn
          · have := hRd _ hn; omega
          · exact nr _ (by omega) (by omega) hn
    · rintro e W2 ⟨⟨v, rfl⟩, (⟨hi, hl, hk⟩ | ⟨pre, x, post, hx, c, hi, hl, hk, hz2⟩)⟩
      · refine ⟨none, _, by have := run_endLoop (P := P) hl (by rw [hrec]; simp); rw [hrec] at this; exact this, ?_⟩
        exact hdone _ (hI _ _ _ hi (Alt.put zl _)) (by have := (Array.getElem?_eq_some_iff.1 hl).1; simp; omega) ((World.putObj_heap_other (by omega)).trans hk)
      · refine ⟨some c, _, by have := run_endLoop (P := P) hl (by rw [hrec]; simp); rw [hrec] at this; exact this, ?_⟩
        exact hstop c pre x post _ hx (hIx _ _ _ _ hi (Alt.put zl _)) (by simpa using hz2) ((World.putObj_heap_other (by omega)).trans hk)

end Go.Proofs.Ytbbndcfnpfedpaa

namespace Go.Proofs.Ytbbndcfnpfedpaa
open Go.RowKit

/-- A world in which all that lay in w lies as it lay. -/
structure Late (w : World) where
  W : World
  b : Below w.heap.size w W

instance (w : World) : Nonempty (Late w) := ⟨⟨w, Below.refl _ _⟩⟩

theorem new_cell (w : World) {cs : Array Value} {t : TypeId} {i : Nat} {v : Value} (h : cs[i]? = some v) : (w.alloc (.cells cs t)).cell? ⟨w.heap.size, i, none⟩ = some v := by
  have e := World.alloc_heap_new w (.cells cs t)
  unfold World.cell?
  simp only [e]
  simpa using h
theorem new_fr (w : World) (cs : Array Value) (t : TypeId) (i : Nat) (h : i < cs.size) : (w.alloc (.cells cs t)).frozen? ⟨w.heap.size, i, none⟩ = false := by
  have e := World.alloc_heap_new w (.cells cs t)
  unfold World.frozen?
  simp only [e]
  simp

theorem wp_region_late {P : Program} {id : Nat} {Q : Exit → Act → World → Prop} {a : Act} {w : World} {l : List Oper} (w0 : World) (h0 : Below w0.heap.size w0 w) (hm : P.follows .mixedOrders = true) (hB : Region.lexB .any l.toArray = true)
    (h : wpQuiet P l.toArray (fun W => ∃ u : Late w0, W = u.W) (fun a' => ∀ W, (∃ u : Late w0, W = u.W) → Q .normal a' W) l a) : (Code.region id l.toArray true).wp P Q a w :=
  wp_region_quiet (C := fun W => ∃ u : Late w0, W = u.W) hm hB ⟨⟨_, Below.drew h0⟩, rfl⟩ (by simpa using h)

/-- A callee's contract, met in such a world. -/
theorem Calls.late {P : Program} {f : FuncId} {args : Array Value} {w0 : World} {u : Late w0} {v : Value}
    (h : Calls P f args u.W fun e w' => e = .returned v ∧ Below u.W.heap.size u.W w') : Calls P f args u.W fun e w'' => e = .returned v ∧ ∃ u' : Late w0, w'' = u'.W :=
  h.mono fun _ _ ⟨he, hb⟩ => ⟨he, ⟨_, u.b.trans (hb.mono u.b.size)⟩, rfl⟩
theorem Calls.late_same {P : Program} {f : FuncId} {args : Array Value} {w0 : World} {u : Late w0} {v : Value}
    (h : Calls P f args u.W fun e w' => e = .returned v ∧ u.W = w') : Calls P f args u.W fun e w'' => e = .returned v ∧ ∃ u' : Late w0, w'' = u'.W :=
  h.mono fun _ _ ⟨he, hb⟩ => ⟨he, u, hb.symm⟩

theorem Late.cell {w : World} (u : Late w) {b o : Nat} {v : Value} (h : w.cell? ⟨b, o, none⟩ = some v) (hb : b < w.heap.size) : u.W.cell? ⟨b, o, none⟩ = some v := (u.b.cell (p := ⟨b, o, none⟩) hb).trans h

end Go.Proofs.Ytbbndcfnpfedpaa

namespace Go.Proofs.Ytbbndcfnpfedpaa
open Go.RowKit Go.Shelf

def inB (n lo hi : Int) : Bool := decide (lo ≤ n) && decide (n ≤ hi)

theorem inB_iff {n lo hi : Int} : inB n lo hi = true ↔ lo ≤ n ∧ n ≤ hi := by unfold inB; simp

theorem below_al (w : World) (o : Obj) : Below w.heap.size w (w.alloc o) := (Below.refl _ _).alloc (Nat.le_refl _) _

theorem below_al2 {w W : World} (h : Below w.heap.size w W) (o : Obj) : Below w.heap.size w (W.alloc o) := h.alloc h.size _

theorem below_dN {w W : World} {B : Nat} (h : Below B w W) (n : Nat) : Below B w (W.drewN n) := ⟨h.os, h.tape, h.output, h.size, h.block⟩

/-- What a call leaves of the blocks that lay. -/
theorem lo_cell {w W : World} (h : Below w.heap.size w W) (b o : Nat) (hb : b < w.heap.size) : W.cell? ⟨b, o, none⟩ = w.cell? ⟨b, o, none⟩ ∧ W.frozen? ⟨b, o, none⟩ = w.frozen? ⟨b, o, none⟩ := ⟨h.cell (p := ⟨b, o, none⟩) hb, h.frozen (p := ⟨b, o, none⟩) hb⟩

theorem below_go {w W W' : World} (h : Below w.heap.size w W) (h2 : Below W.heap.size W W') : Below w.heap.size w W' := h.trans (h2.mono h.size)

theorem cell_lt {w : World} {a : Addr} {v : Value} (h : w.cell? a = some v) : a.block < w.heap.size := by
  obtain ⟨o, ho, _⟩ := cells_of_cell h
  exact (Array.getElem?_eq_some_iff.1 ho).1

theorem cell_lo {w W : World} {a : Addr} {v : Value} (hb : Below w.heap.size w W) (h : w.cell? a = some v) : W.cell? a = some v := (hb.cell (cell_lt h)).trans h

/-- Block b is these cells. -/
def Blk (W : World) (b : Nat) (cs : Array Value) (t : TypeId) : Prop := W.heap[b]? = some (.cells cs t (0, 0))

theorem Blk.alt {W W' : World} {b : Nat} {cs : Array Value} {t : TypeId} {p : Nat → Prop} (h : Blk W b cs t) (ha : Alt p W W') (hp : ¬ p b) : Blk W' b cs t := ha.obj h hp

theorem Blk.cell {W : World} {b : Nat} {cs : Array Value} {t : TypeId} (h : Blk W b cs t) (i : Nat) {v : Value} (hv : cs[i]? = some v) : W.cell? ⟨b, i, none⟩ = some v := by
  unfold World.cell?
  simp only [show W.heap[b]? = _ from h]
  simpa using hv

theorem Blk.new (W : World) (cs : Array Value) (t : TypeId) : Blk (W.alloc (.cells cs t)) W.heap.size cs t := World.alloc_heap_new W _

theorem Blk.lt {W : World} {b : Nat} {cs : Array Value} {t : TypeId} (h : Blk W b cs t) : b < W.heap.size := (Array.getElem?_eq_some_iff.1 h).1

theorem Blk.fr {W : World} {b : Nat} {cs : Array Value} {t : TypeId} (h : Blk W b cs t) (i : Nat) : W.frozen? ⟨b, i, none⟩ = false := by
  unfold World.frozen?
  simp only [show W.heap[b]? = _ from h]
  simp

theorem Blk.set2 {W : World} {b : Nat} {x y : Value} {t : TypeId} (h : Blk W b #[x, y] t) (x' y' : Value) : Blk ((W.setCell ⟨b, 0, none⟩ x').setCell ⟨b, 1, none⟩ y') b #[x', y'] t := by
  have key : ∀ {W : World} {cs : Array Value} (h : Blk W b cs t) (i : Nat) (v : Value), Blk (W.setCell ⟨b, i, none⟩ v) b (cs.setIfInBounds i v) t := fun {W cs} h i v => by
    obtain ⟨hlt, hk⟩ := Array.getElem?_eq_some_iff.1 (show W.heap[b]? = _ from h)
    show (W.heap.modify b _)[b]? = _
    rw [Array.getElem?_eq_getElem (by rw [Array.size_modify]; exact hlt), Array.getElem_modify_self, hk]
    rfl
  exact key (key h 0 x') 1 y'

theorem Blk.setAt {W : World} {b : Nat} {cs : Array Value} {t : TypeId} (h : Blk W b cs t) (i : Nat) (v : Value) : Blk (W.setCell ⟨b, i, none⟩ v) b (cs.setIfInBounds i v) t := by
  obtain ⟨hlt, hk⟩ := Array.getElem?_eq_some_iff.1 (show W.heap[b]? = _ from h)
  show (W.heap.modify b _)[b]? = _
  rw [Array.getElem?_eq_getElem (by rw [Array.size_modify]; exact hlt), Array.getElem_modify_self, hk]
  rfl

theorem flat_split {β : Type} (f : Nat → List β) {i N : Nat} (h : i < N) : ∃ T, (List.range N).flatMap f = (List.range i).flatMap f ++ f i ++ T ∧ (List.range (i + 1)).flatMap f = (List.range i).flatMap f ++ f i := by
  obtain ⟨k, rfl⟩ : ∃ k, N = (i + 1) + k := ⟨N - (i + 1), by omega⟩
  refine ⟨((List.range k).map (i + 1 + ·)).flatMap f, ?_, ?_⟩
  · rw [List.range_add, List.flatMap_append, List.range_succ, List.flatMap_append]; simp
  · rw [List.range_succ, List.flatMap_append]; simp

theorem Boxed.alt {W W' : World} {B : Nat} {t : TypeId} {v : Value} {p : Nat → Prop} (h : Boxed W B t v) (ha : Alt p W W') (hp : ¬ p B) : Boxed W' B t v := ha.obj h hp

theorem fold_inv {β γ : Type} (P : β → Prop) (g : β → γ → β) : ∀ (xs : List γ) (b : β), P b → (∀ b x, x ∈ xs → P b → P (g b x)) → P (xs.foldl g b)
  | [], b, h, _ => h
  | x :: xs, b, h, hs => fold_inv P g xs (g b x) (hs b x (by simp) h) (fun b y hy => hs b y (by simp [hy]))

/-- Numbers lie in a slice. -/
def IntsAt (w : World) (a : Option Addr) (xs : List Int) : Prop := ∀ i v, xs[i]? = some v → ∃ g o, a = some ⟨g, o, none⟩ ∧ w.cell? ⟨g, o + i, none⟩ = some (.int .i64 v)

theorem IntsAt.lo {w W : World} {a : Option Addr} {xs : List Int} (h : IntsAt w a xs) (hb : Below w.heap.size w W) : IntsAt W a xs := by
  intro i v hv
  obtain ⟨g, o, e, h1⟩ := h i v hv
  exact ⟨g, o, e, cell_lo hb h1⟩

theorem IntsAt.alt {w W : World} {a : Option Addr} {xs : List Int} {p : Nat → Prop} (h : IntsAt w a xs) (hb : Alt p w W) (hp : ∀ g o, a = some ⟨g, o, none⟩ → ¬ p g) : IntsAt W a xs := by
  intro i v hv
  obtain ⟨g, o, e, h1⟩ := h i v hv
  exact ⟨g, o, e, (World.cell?_of_block (hb.blk g (cell_lt h1) (hp g o e))).trans h1⟩

/-- Truth values that lie in a slice. -/
def BoolsAt (w : World) (a : Option Addr) (xs : List Bool) : Prop := ∀ i v, xs[i]? = some v → ∃ g o, a = some ⟨g, o, none⟩ ∧ w.cell? ⟨g, o + i, none⟩ = some (.bool v)

theorem BoolsAt.lo {w W : World} {a : Option Addr} {xs : List Bool} (h : BoolsAt w a xs) (hb : Below w.heap.size w W) : BoolsAt W a xs := by
  intro i v hv
  obtain ⟨g, o, e, h1⟩ := h i v hv
  exact ⟨g, o, e, cell_lo hb h1⟩

theorem ownsRow_alt {W W' : World} {base : Nat} {e : TypeId} {size : Nat} {v : Value} {n : Nat} {xs : List Value} {p : Nat → Prop} (h : W.ownsRow base e size v n xs) (ha : Alt p W W') (hp : ∀ g, base ≤ g → ¬ p g) : W'.ownsRow base e size v n xs := by
  obtain ⟨h1, h2⟩ := h
  refine ⟨h1, ?_⟩
  rcases h2 with h2 | ⟨g, cap, cur, e1, e2, e3, e4⟩
  · exact .inl h2
  · exact .inr ⟨g, cap, cur, e1, e2, ha.obj e3 (hp g e2), e4⟩

theorem own_base {W : World} {base : Nat} {e : TypeId} {size : Nat} {v : Value} {n : Nat} {xs : List Value} (h : W.ownsRow base e size v n xs) {k : Nat} (hk : v.ownBlock = some k) : base ≤ k := by
  rcases h.2 with ⟨rfl, _⟩ | ⟨g, cap, cur, rfl, hb, _, _⟩
  · simp [Value.ownBlock] at hk
  · obtain rfl : g = k := by simpa [Value.ownBlock] using hk
    exact hb

theorem own_mono {W : World} {base base' : Nat} {e : TypeId} {size : Nat} {v : Value} {n : Nat} {xs : List Value} (h : W.ownsRow base e size v n xs) (hb : base' ≤ base) : W.ownsRow base' e size v n xs := by
  obtain ⟨h1, h2⟩ := h
  refine ⟨h1, h2.imp_right ?_⟩
  rintro ⟨g, cap, cur, e1, e2, e3⟩
  exact ⟨g, cap, cur, e1, Nat.le_trans hb e2, e3⟩

/-- Here an 'append' comes up. -/
theorem append_here {P : Program} {ops : Array Oper} {d : Option Tmp} {s x : Operand} {t ty : TypeId} {p : String} {af : Array Edge} {a : Act} {w : World} {K : Act → World → Prop} {Q : Exit → Act → World → Prop} {E : Prop}
    (h : if Region.wanted { dst := d, op := .call { callee := .builtin .append, args := #[s, x], argTypes := #[t, t] }, type := ty, pos := p, after := af, guard := none } (yielded ops a.tmps) = true then Oper.wp P { dst := d, op := .call { callee := .builtin .append, args := #[s, x], argTypes := #[t, t] }, type := ty, pos := p, after := af, guard := none } a w K Q else E) :
    if Region.wanted { dst := d, op := .call { callee := .builtin .append, args := #[s, x], argTypes := #[t, t] }, type := ty, pos := p, after := af, guard := none } (yielded ops a.tmps) = true then Oper.wp P { dst := d, op := .call { callee := .builtin .append, args := #[s, x], argTypes := #[t, t] }, type := ty, pos := p, after := af, guard := none } a w K Q else E := h

theorem alt_cell {p : Nat → Prop} {A B : World} (h : Alt p A B) {b o : Nat} {v : Value} (hc : A.cell? ⟨b, o, none⟩ = some v) (hp : ¬ p b) : B.cell? ⟨b, o, none⟩ = some v :=
  (World.cell?_of_block (a := ⟨b, o, none⟩) (h.blk b (cell_lt hc) hp)).trans hc

theorem alt_frz {p : Nat → Prop} {A B : World} (h : Alt p A B) {b o : Nat} (hz : A.frozen? ⟨b, o, none⟩ = false) (hb : b < A.heap.size) (hp : ¬ p b) : B.frozen? ⟨b, o, none⟩ = false :=
  (World.frozen?_of_block (a := ⟨b, o, none⟩) (h.blk b hb hp)).trans hz

def hasI (xs : List Int) (x : Int) : Bool := xs.any fun y => y == x

theorem hasI_iff {xs : List Int} {x : Int} : hasI xs x = true ↔ x ∈ xs := by unfold hasI; simp

theorem hasI_snoc (xs : List Int) (y x : Int) : hasI (xs ++ [y]) x = (hasI xs x || (y == x)) := by unfold hasI; simp

theorem take_next {α : Type} {xs : List α} {i : Nat} {x : α} (h : xs[i]? = some x) : xs.take (i + 1) = xs.take i ++ [x] := by rw [List.take_add_one, h]; rfl

theorem below_row {w w' : World} (hB : Below w.heap.size w w') : w.grownBy w' none := ⟨hB.os, hB.tape, hB.output, hB.size, fun k hk _ => hB.block k hk⟩

theorem add_pl (b o i : Nat) : (⟨b, o, none⟩ : Addr).add i = ⟨b, o + i, none⟩ := by unfold Addr.add; split <;> simp_all

/-- A row's elements, in blocks from base on. -/
def RowV (base : Nat) (W : World) (a : Option Addr) (l : List Value) : Prop := ∀ (j : Nat) (u : Value), l[j]? = some u → ∃ (g o : Nat), a = some ⟨g, o, none⟩ ∧ W.cell? ⟨g, o + j, none⟩ = some u ∧ base ≤ g

theorem RowV.lo {base : Nat} {W W' : World} {a : Option Addr} {l : List Value} (h : RowV base W a l) (hb : Below W.heap.size W W') : RowV base W' a l := fun j u hu => by
  obtain ⟨g, o, e, h1, h2⟩ := h j u hu
  exact ⟨g, o, e, cell_lo hb h1, h2⟩

theorem RowV.mono {base base' : Nat} {W : World} {a : Option Addr} {l : List Value} (h : RowV base W a l) (hb : base' ≤ base) : RowV base' W a l := fun j u hu => by
  obtain ⟨g, o, e, h1, h2⟩ := h j u hu
  exact ⟨g, o, e, h1, by omega⟩

theorem RowV.ints {base : Nat} {W : World} {a : Option Addr} {xs : List Int} (h : RowV base W a (xs.map (Value.int .i64))) : IntsAt W a xs := fun j x hx => by
  obtain ⟨g, o, e, h1, _⟩ := h j (.int .i64 x) (by rw [List.getElem?_map, hx]; rfl)
  exact ⟨g, o, e, h1⟩

theorem RowV.bools {base : Nat} {W : World} {a : Option Addr} {xs : List Bool} (h : RowV base W a (xs.map Value.bool)) : BoolsAt W a xs := fun j x hx => by
  obtain ⟨g, o, e, h1, _⟩ := h j (.bool x) (by rw [List.getElem?_map, hx]; rfl)
  exact ⟨g, o, e, h1⟩

theorem RowV.nil (base : Nat) (W : World) (a : Option Addr) : RowV base W a [] := fun j u h => by simp at h

theorem RowV.own {bo base n : Nat} {W : World} {a : Option Addr} {c : Nat} {e : TypeId} {l : List Value} (h : W.ownsRow bo e 1 (.slice a n c) n l) (hb : base ≤ bo) : RowV base W a l := fun j u hu => by
  rcases h.2 with ⟨h1, h2⟩ | ⟨g, cap, cur, h1, h2, _⟩
  · have := h.1
    have hl : l = [] := List.eq_nil_of_length_eq_zero (by omega)
    subst hl; simp at hu
  · simp only [Value.slice.injEq] at h1
    obtain ⟨rfl, _, _⟩ := h1
    have := h.cells (g := g) rfl j u hu
    rw [add_pl] at this
    exact ⟨g, 0, rfl, this, by omega⟩

/-- Rows that lie one behind the other. -/
def LLAt (base : Nat) (W : World) (a : Option Addr) (L : List (List Value)) : Prop := ∀ (i : Nat) (l : List Value), L[i]? = some l → ∃ (g o : Nat) (a' : Option Addr) (c' : Nat), a = some ⟨g, o, none⟩ ∧ W.cell? ⟨g, o + i, none⟩ = some (Value.slice a' l.length c') ∧ RowV base W a' l

theorem LLAt.lo {base : Nat} {W W' : World} {a : Option Addr} {L : List (List Value)} (h : LLAt base W a L) (hb : Below W.heap.size W W') : LLAt base W' a L := fun i l hl => by
  obtain ⟨g, o, a', c', e, h1, h2⟩ := h i l hl
  exact ⟨g, o, a', c', e, cell_lo hb h1, h2.lo hb⟩

/-- Heads of rows. -/
def RowsOk (base : Nat) (W : World) (ob : Option Nat) (L : List (List Value)) (hs : List Value) : Prop :=
  ∀ (i : Nat) (l : List Value), L[i]? = some l → ∃ (a : Option Addr) (c : Nat), hs[i]? = some (Value.slice a l.length c) ∧ ∀ (j : Nat) (u : Value), l[j]? = some u → ∃ g o, a = some ⟨g, o, none⟩ ∧ W.cell? ⟨g, o + j, none⟩ = some u ∧ base ≤ g ∧ ob ≠ some g

theorem RowsOk.lo {base : Nat} {W W' : World} {ob : Option Nat} {L : List (List Value)} {hs : List Value} (h : RowsOk base W ob L hs) (hb : Below W.heap.size W W') : RowsOk base W' ob L hs := fun i l hl => by
  obtain ⟨a, c, e1, e2⟩ := h i l hl
  exact ⟨a, c, e1, fun j u hu => by
    obtain ⟨g, o, x1, x2, x3, x4⟩ := e2 j u hu
    exact ⟨g, o, x1, cell_lo hb x2, x3, x4⟩⟩

theorem RowsOk.mono {base base' : Nat} {W : World} {ob : Option Nat} {L : List (List Value)} {hs : List Value} (h : RowsOk base W ob L hs) (hb : base' ≤ base) : RowsOk base' W ob L hs := fun i l hl => by
  obtain ⟨a, c, e1, e2⟩ := h i l hl
  exact ⟨a, c, e1, fun j u hu => by
    obtain ⟨g, o, x1, x2, x3, x4⟩ := e2 j u hu
    exact ⟨g, o, x1, x2, by omega, x4⟩⟩

theorem RowsOk.one {base : Nat} {W : World} {ob : Option Nat} {a : Option Addr} {c : Nat} {l : List Value} (h : RowV base W a l) (ho : ∀ k, ob = some k → ∀ g o, a = some ⟨g, o, none⟩ → k ≠ g) : RowsOk base W ob [l] [Value.slice a l.length c] := fun i l' hl => by
  cases i with
  | zero =>
    cases hl
    exact ⟨a, c, rfl, fun j u hu => by
      obtain ⟨g, o, e, h1, h2⟩ := h j u hu
      exact ⟨g, o, e, h1, h2, fun he => ho g he g o e rfl⟩⟩
  | succ i => simp at hl

/-- A list of lists in a block from bo on, that may grow; its rows lie from br on. -/
def OwnLL (e : TypeId) (bo br : Nat) (W : World) (v : Value) (L : List (List Value)) : Prop := ∃ hs, W.ownsRow bo e 1 v L.length hs ∧ RowsOk br W v.ownBlock L hs

theorem OwnLL.nil (e : TypeId) (bo br : Nat) (W : World) : OwnLL e bo br W (Value.slice none 0 0) [] := ⟨[], ⟨rfl, .inl ⟨rfl, rfl⟩⟩, fun i l h => by simp at h⟩

theorem OwnLL.lo {e : TypeId} {bo br : Nat} {W W' : World} {v : Value} {L : List (List Value)} (h : OwnLL e bo br W v L) (hb : Below W.heap.size W W') : OwnLL e bo br W' v L := by
  obtain ⟨hs, h1, h2⟩ := h
  exact ⟨hs, h1.kept (below_row hb) (by cases hk : v.ownBlock with | none => exact .inl rfl | some k => exact .inr (fun e => by cases e)), h2.lo hb⟩

theorem OwnLL.mono {e : TypeId} {bo br bo' br' : Nat} {W : World} {v : Value} {L : List (List Value)} (h : OwnLL e bo br W v L) (h1 : bo' ≤ bo) (h2 : br' ≤ br) : OwnLL e bo' br' W v L := by
  obtain ⟨hs, g1, g2⟩ := h
  exact ⟨hs, own_mono g1 h1, fun i l hl => by
    obtain ⟨a, c, e1, e2⟩ := g2 i l hl
    exact ⟨a, c, e1, fun j u hu => by
      obtain ⟨g, o, x1, x2, x3, x4⟩ := e2 j u hu
      exact ⟨g, o, x1, x2, by omega, x4⟩⟩⟩

theorem OwnLL.push {e : TypeId} {bo br : Nat} {W0 W1 : World} {v v' : Value} {L L' : List (List Value)} {hs hs' : List Value} (ho0 : W0.ownsRow bo e 1 v L.length hs) (hr : RowsOk br W0 v.ownBlock L hs) (hr' : RowsOk br W0 v.ownBlock L' hs')
    (hg : W0.grownBy W1 v.ownBlock) (ho : W1.ownsRow bo e 1 v' (L.length + L'.length) (hs ++ hs')) (hat : v'.ownBlock = v.ownBlock ∨ v'.ownBlock = some W0.heap.size) : OwnLL e bo br W1 v' (L ++ L') := by
  have hlen : hs.length = L.length := by have := ho0.1; omega
  have keep : ∀ g o u, W0.cell? ⟨g, o, none⟩ = some u → v.ownBlock ≠ some g → W1.cell? ⟨g, o, none⟩ = some u ∧ v'.ownBlock ≠ some g := fun g o u h hne => by
    have hlt : g < W0.heap.size := cell_lt h
    refine ⟨(hg.cell_far ⟨g, o, none⟩ hlt (Ne.symm hne)).trans h, ?_⟩
    rcases hat with e | e
    · rw [e]; exact hne
    · rw [e]; intro e'; cases e'; exact absurd hlt (Nat.lt_irrefl _)
  refine ⟨hs ++ hs', by rw [List.length_append]; exact ho, fun i l hl => ?_⟩
  by_cases hi : i < L.length
  · rw [List.getElem?_append_left hi] at hl
    obtain ⟨a, c, e1, e2⟩ := hr i l hl
    refine ⟨a, c, by rw [List.getElem?_append_left (by omega)]; exact e1, fun j u hu => ?_⟩
    obtain ⟨g, o, x1, x2, x3, x4⟩ := e2 j u hu
    have k := keep g (o + j) u x2 x4
    exact ⟨g, o, x1, k.1, x3, k.2⟩
  · rw [List.getElem?_append_right (by omega)] at hl
    obtain ⟨a, c, e1, e2⟩ := hr' _ l hl
    refine ⟨a, c, by rw [List.getElem?_append_right (by omega), hlen]; exact e1, fun j u hu => ?_⟩
    obtain ⟨g, o, x1, x2, x3, x4⟩ := e2 j u hu
    have k := keep g (o + j) u x2 x4
    exact ⟨g, o, x1, k.1, x3, k.2⟩

theorem OwnLL.out {e : TypeId} {bo br : Nat} {W : World} {v : Value} {L : List (List Value)} (h : OwnLL e bo br W v L) : ∃ a c, v = .slice a L.length c ∧ LLAt br W a L ∧ (∀ g o, a = some ⟨g, o, none⟩ → bo ≤ g ∧ g < W.heap.size) := by
  obtain ⟨hs, h1, h2⟩ := h
  have hlt := h1.lt
  rcases h1.2 with ⟨e1, e2⟩ | ⟨g, cap, cur, e1, e2, e3, e4⟩
  · refine ⟨none, 0, by rw [e1, e2], fun i l hl => ?_, fun g o e => by cases e⟩
    have : L = [] := List.eq_nil_of_length_eq_zero e2
    subst this; simp at hl
  · refine ⟨some ⟨g, 0, none⟩, cap, e1, fun i l hl => ?_, fun g' o e => ?_⟩
    · obtain ⟨a, c, x1, x2⟩ := h2 i l hl
      have := h1.cells (g := g) (by rw [e1]; rfl) i _ x1
      rw [add_pl] at this
      refine ⟨g, 0, a, c, rfl, this, fun j u hu => ?_⟩
      obtain ⟨g', o, y1, y2, y3, _⟩ := x2 j u hu
      exact ⟨g', o, y1, y2, y3⟩
    · cases e
      exact hlt g (by rw [e1]; rfl)

/-- The heads of rows that lie one behind the other. -/
theorem LLAt.heads {base : Nat} {W : World} {g o : Nat} {L : List (List Value)} (h : LLAt base W (some ⟨g, o, none⟩) L) (ob : Option Nat) (hob : ∀ k, base ≤ k → ob ≠ some k) :
    ∃ hs, hs.length = L.length * 1 ∧ (∀ j u, hs[j]? = some u → W.cell? ((⟨g, o, none⟩ : Addr).add j) = some u) ∧ (∀ u ∈ hs, u.oneCell' = true) ∧ RowsOk base W ob L hs := by
  have key : ∀ i, i < L.length → ∃ a c l, L[i]? = some l ∧ W.cell? ⟨g, o + i, none⟩ = some (Value.slice a l.length c) ∧ RowV base W a l := fun i hi => by
    obtain ⟨g', o', a, c, e, h1, h2⟩ := h i _ (List.getElem?_eq_getElem hi)
    cases e
    exact ⟨a, c, _, List.getElem?_eq_getElem hi, h1, h2⟩
  refine ⟨(List.range L.length).map fun i => (W.cell? ⟨g, o + i, none⟩).getD (.bool false), by simp, fun j u hu => ?_, fun u hu => ?_, fun i l hl => ?_⟩
  · rw [List.getElem?_map] at hu
    by_cases hj : j < L.length
    · rw [List.getElem?_range hj] at hu
      obtain ⟨a, c, l, _, h1, _⟩ := key j hj
      simp only [Option.map_some, h1, Option.getD_some, Option.some.injEq] at hu
      rw [add_pl, h1, hu]
    · rw [List.getElem?_eq_none (by simp; omega)] at hu; cases hu
  · obtain ⟨i, hi, rfl⟩ := List.mem_map.1 hu
    obtain ⟨a, c, l, _, h1, _⟩ := key i (List.mem_range.1 hi)
    rw [h1]; rfl
  · have hi : i < L.length := (List.getElem?_eq_some_iff.1 hl).1
    obtain ⟨a, c, l', e, h1, h2⟩ := key i hi
    rw [hl] at e; cases e
    refine ⟨a, c, by rw [List.getElem?_map, List.getElem?_range hi]; simp [h1], fun j u hu => ?_⟩
    obtain ⟨g', o', y1, y2, y3⟩ := h2 j u hu
    exact ⟨g', o', y1, y2, y3, hob g' y3⟩

/-- A list is copied behind an empty one of the call's own. -/
theorem app_copy (t e : TypeId) (i : TypeInfo) (z : Value) (bytes : Nat) (ht : Try.prog.underlying t = some (.slice e)) (hi : Try.prog.info? e = some i) (hz : i.zero = some z) (hs : i.size = 1) (hby : i.bytes = bytes) (hb8 : bytes ≤ 8) (hzs : z.cells.size = 1)
    (p : List Value) (h1 : ∀ u ∈ p, u.oneCell' = true) (a : Option Addr) (c base : Nat) (W : World) (g : Nat) (hB : Blk W g #[] e) (hg : base ≤ g) (hbase : base ≤ W.heap.size) (hp : RowV 0 W a p) (ha : a = none → p = [] ∧ c = 0) (hn : p.length ≤ 1000) :
    ∃ v1 w1, (Builtin.append_ #[t, t] t #[.slice (some ⟨g, 0, none⟩) 0 0, .slice a p.length c]).run Try.prog W = .ok v1 w1 ∧ w1.ownsRow base e 1 v1 p.length p ∧ W.grownBy w1 (some g) := by
  have HO : W.ownsRow base e 1 (.slice (some ⟨g, 0, none⟩) 0 0) 0 [] := ⟨rfl, .inr ⟨g, 0, #[], rfl, hg, hB, Nat.le_refl _, by unfold maxLen; omega, rfl, rfl⟩⟩
  cases a with
  | none =>
    obtain ⟨rfl, rfl⟩ := ha rfl
    refine ⟨.slice (some ⟨g, 0, none⟩) 0 0, W, ?_, HO, ⟨rfl, rfl, rfl, Nat.le_refl _, fun _ _ _ => rfl⟩⟩
    have hu := run_underlying (P := Try.prog) (w := W) ht
    simp [Builtin.append_, hu, sizeOf, typeInfo, hi, go_sem]
  | some ad =>
    have hnews : ∀ j u, p[j]? = some u → W.cell? (ad.add j) = some u := fun j u hj => by
      obtain ⟨g', o', e', hc, _⟩ := hp j u hj
      cases e'
      rw [add_pl]; exact hc
    obtain ⟨v', w', hr, ho, hgr, _, _⟩ := run_append_own_at (P := Try.prog) (w := W) base t t e i z 1 bytes ht hi hz hs hby hzs (by decide) (.slice (some ⟨g, 0, none⟩) 0 0) 0 [] HO ad p.length c p (by simp) hnews h1 (by unfold maxLen; omega) (by rw [Nat.zero_add]; exact Nat.le_trans (Nat.mul_le_mul hn hb8) (by decide)) hbase
    rw [Nat.zero_add, List.nil_append] at ho
    exact ⟨v', w', hr, ho, hgr⟩

/-- One element more. -/
theorem app_one (t e : TypeId) (i : TypeInfo) (z : Value) (bytes : Nat) (ht : Try.prog.underlying t = some (.slice e)) (hi : Try.prog.info? e = some i) (hz : i.zero = some z) (hs : i.size = 1) (hby : i.bytes = bytes) (hb8 : bytes ≤ 8) (hzs : z.cells.size = 1)
    (p : List Value) (u : Value) (h1 : u.oneCell' = true) (v : Value) (base : Nat) (W : World) (hO : W.ownsRow base e 1 v p.length p) (B : Nat) (hB : Blk W B #[u] e) (hbase : base ≤ W.heap.size) (hn : p.length ≤ 1000) :
    ∃ g c w2, (Builtin.append_ #[t, t] t #[v, .slice (some ⟨B, 0, none⟩) 1 1]).run Try.prog W = .ok (.slice (some ⟨g, 0, none⟩) (p.length + 1) c) w2 ∧ RowV base w2 (some ⟨g, 0, none⟩) (p ++ [u]) ∧ W.grownBy w2 v.ownBlock := by
  obtain ⟨g, cap, w', hr, ho, hgr, _, _⟩ := run_append_lies (P := Try.prog) (w := W) t t base e i z 1 bytes ht hi hz hs hby hzs (by decide) v p.length p hO ⟨B, 0, none⟩ 1 1 [u] rfl (World.news_of_block (cs := #[u]) hB) (by intro x hx; rw [List.mem_singleton.1 hx]; exact h1) (by decide) (by unfold maxLen; omega) (Nat.le_trans (Nat.mul_le_mul (show p.length + 1 ≤ 1001 by omega) hb8) (by decide)) hbase W.heap.size rfl
  exact ⟨g, cap, w', hr, RowV.own ho (Nat.le_refl _), hgr⟩

theorem below_grow {w W W' : World} {ob : Option Nat} (hB : Below w.heap.size w W) (hg : W.grownBy W' ob) (ho : ∀ k, ob = some k → w.heap.size ≤ k) : Below w.heap.size w W' := hB.grown hg hB.size ho

/-- A list with one element more, made anew: in the order of the text. -/
theorem copy_one (t e : TypeId) (i : TypeInfo) (z : Value) (bytes : Nat) (ht : Try.prog.underlying t = some (.slice e)) (hi : Try.prog.info? e = some i) (hz : i.zero = some z) (hs : i.size = 1) (hby : i.bytes = bytes) (hb8 : bytes ≤ 8) (hzs : z.cells.size = 1)
    (p : List Value) (h1 : ∀ u ∈ p, u.oneCell' = true) (u : Value) (h2 : u.oneCell' = true) (a : Option Addr) (c : Nat) (W : World) (hp : RowV 0 W a p) (ha : a = none → p = [] ∧ c = 0) (hn : p.length ≤ 1000) :
    ∃ v1 w1 g2 c2 w2, (Builtin.append_ #[t, t] t #[.slice (some ⟨W.heap.size, 0, none⟩) 0 0, .slice a p.length c]).run Try.prog (W.alloc (.cells #[] e)) = .ok v1 w1 ∧
      (Builtin.append_ #[t, t] t #[v1, .slice (some ⟨w1.heap.size, 0, none⟩) 1 1]).run Try.prog (w1.alloc (.cells #[u] e)) = .ok (.slice (some ⟨g2, 0, none⟩) (p.length + 1) c2) w2 ∧
      RowV W.heap.size w2 (some ⟨g2, 0, none⟩) (p ++ [u]) ∧ Below W.heap.size W w2 ∧ Below W.heap.size W w1 := by
  have bA := below_al W (.cells #[] e)
  obtain ⟨v1, w1, hr, ho, hg⟩ := app_copy t e i z bytes ht hi hz hs hby hb8 hzs p h1 a c W.heap.size (W.alloc (.cells #[] e)) W.heap.size (Blk.new W #[] e) (Nat.le_refl _) bA.size (hp.lo bA) ha hn
  have b1 := below_grow bA hg (fun k e => by cases e; exact Nat.le_refl _)
  have b2 := below_al2 b1 (.cells #[u] e)
  obtain ⟨g2, c2, w2, hr2, hR, hg2⟩ := app_one t e i z bytes ht hi hz hs hby hb8 hzs p u h2 v1 W.heap.size (w1.alloc (.cells #[u] e)) (ho.alloc _) w1.heap.size (Blk.new w1 _ _) b2.size hn
  exact ⟨v1, w1, g2, c2, w2, hr, hr2, hR, below_grow b2 hg2 (fun k e => (ho.lt k e).1), b1⟩

/-- The new element is made ahead of the copy. -/
theorem copy_one2 (t e : TypeId) (i : TypeInfo) (z : Value) (bytes : Nat) (ht : Try.prog.underlying t = some (.slice e)) (hi : Try.prog.info? e = some i) (hz : i.zero = some z) (hs : i.size = 1) (hby : i.bytes = bytes) (hb8 : bytes ≤ 8) (hzs : z.cells.size = 1)
    (p : List Value) (h1 : ∀ u ∈ p, u.oneCell' = true) (u : Value) (h2 : u.oneCell' = true) (a : Option Addr) (c : Nat) (W W2 : World) (gE gU : Nat) (hE : Blk W2 gE #[] e) (hU : Blk W2 gU #[u] e) (hne : gE ≠ gU) (hgE : W.heap.size ≤ gE) (hB : Below W.heap.size W W2) (hp : RowV 0 W a p) (ha : a = none → p = [] ∧ c = 0) (hn : p.length ≤ 1000) :
    ∃ v1 w1 g2 c2 w2, (Builtin.append_ #[t, t] t #[.slice (some ⟨gE, 0, none⟩) 0 0, .slice a p.length c]).run Try.prog W2 = .ok v1 w1 ∧
      (Builtin.append_ #[t, t] t #[v1, .slice (some ⟨gU, 0, none⟩) 1 1]).run Try.prog w1 = .ok (.slice (some ⟨g2, 0, none⟩) (p.length + 1) c2) w2 ∧
      RowV W.heap.size w2 (some ⟨g2, 0, none⟩) (p ++ [u]) ∧ Below W.heap.size W w2 ∧ Below W.heap.size W w1 := by
  obtain ⟨v1, w1, hr, ho, hg⟩ := app_copy t e i z bytes ht hi hz hs hby hb8 hzs p h1 a c W.heap.size W2 gE hE hgE hB.size (hp.lo hB) ha hn
  have b1 := below_grow hB hg (fun k e => by cases e; exact hgE)
  have hU1 : Blk w1 gU #[u] e := (hg.block gU hU.lt (fun e => hne (by cases e; rfl))).trans hU
  obtain ⟨g2, c2, w2, hr2, hR, hg2⟩ := app_one t e i z bytes ht hi hz hs hby hb8 hzs p u h2 v1 W.heap.size w1 ho gU hU1 b1.size hn
  exact ⟨v1, w1, g2, c2, w2, hr, hr2, hR, below_grow b1 hg2 (fun k e => (ho.lt k e).1), b1⟩

/-- An append whose run is known: at the operation, and where it stands in a region. -/
theorem wp_run2 {P : Program} {o : Oper} {a : Act} {w : World} {K : Act → World → Prop} {Q : Exit → Act → World → Prop} (s x : Operand) (t : TypeId)
    (ho : o.op = .call { callee := .builtin .append, args := #[s, x], argTypes := #[t, t] }) (v1 v2 v' : Value) (w' : World) (hs : a.eval s = v1) (hx : a.eval x = v2)
    (hr : (Builtin.append_ #[t, t] o.type #[v1, v2]).run P w = .ok v' w') (h : K (a.put o.dst v') w') : o.wp P a w K Q := by
  unfold Oper.wp execOp
  simp only [ho, resolve, invoke, builtin, Sem.run_bind, Sem.run_pure, Result.andThen_ok, List.map_toArray, List.map_cons, List.map_nil, hs, hx, hr]
  exact h

theorem wpList_run2 {P : Program} {ops : Array Oper} {rest : List Oper} {o : Oper} {a : Act} {w : World} {Q : Exit → Act → World → Prop} (hgd : o.guard = none) (s x : Operand) (t : TypeId)
    (ho : o.op = .call { callee := .builtin .append, args := #[s, x], argTypes := #[t, t] }) (v1 v2 v' : Value) (w' : World) (hs : a.eval s = v1) (hx : a.eval x = v2)
    (hr : (Builtin.append_ #[t, t] o.type #[v1, v2]).run P w = .ok v' w') (h : wpList P ops Q rest (a.put o.dst v') w') : wpList P ops Q (o :: rest) a w :=
  wpList_plain hgd fun K hK => wp_run2 s x t ho v1 v2 v' w' hs hx hr (hK _ _ h)

theorem step_run2 {P : Program} {ops : Array Oper} {o : Oper} {a : Act} {w : World} {K : Act → World → Prop} {Q : Exit → Act → World → Prop} {E : Prop} (hgd : o.guard = none) (s x : Operand) (t : TypeId)
    (ho : o.op = .call { callee := .builtin .append, args := #[s, x], argTypes := #[t, t] }) (v1 v2 v' : Value) (w' : World) (hs : a.eval s = v1) (hx : a.eval x = v2)
    (hr : (Builtin.append_ #[t, t] o.type #[v1, v2]).run P w = .ok v' w') (h : K (a.put o.dst v') w') : if Region.wanted o (yielded ops a.tmps) = true then Oper.wp P o a w K Q else E := by
  have hw : Region.wanted o (yielded ops a.tmps) = true := by simp [Region.wanted, hgd]
  rw [if_pos hw]
  exact wp_run2 s x t ho v1 v2 v' w' hs hx hr h

theorem step_run4 {P : Program} {t ty : TypeId} {v1 v2 v' : Value} {w w' : World} (hr : (Builtin.append_ #[t, t] ty #[v1, v2]).run P w = .ok v' w') {ops : Array Oper} {d : Option Tmp} {s x : Operand} {p : String} {af : Array Edge} {a : Act} {K : Act → World → Prop} {Q : Exit → Act → World → Prop} {E : Prop}
    (hs : a.eval s = v1) (hx : a.eval x = v2) (h : K (a.put d v') w') : if Region.wanted { dst := d, op := .call { callee := .builtin .append, args := #[s, x], argTypes := #[t, t] }, type := ty, pos := p, after := af, guard := none } (yielded ops a.tmps) = true then Oper.wp P { dst := d, op := .call { callee := .builtin .append, args := #[s, x], argTypes := #[t, t] }, type := ty, pos := p, after := af, guard := none } a w K Q else E :=
  step_run2 rfl s x t rfl v1 v2 v' w' hs hx hr h

/-- A list with one element more, made anew, whatever is made first. -/
theorem orders3 (t e : TypeId) (i : TypeInfo) (z : Value) (bytes : Nat) (ht : Try.prog.underlying t = some (.slice e)) (hi : Try.prog.info? e = some i) (hz : i.zero = some z) (hs : i.size = 1) (hby : i.bytes = bytes) (hb8 : bytes ≤ 8) (hzs : z.cells.size = 1)
    (p : List Value) (h1 : ∀ u ∈ p, u.oneCell' = true) (u : Value) (h2 : u.oneCell' = true) (a : Option Addr) (c : Nat) (W : World) (hp : RowV 0 W a p) (ha : a = none → p = [] ∧ c = 0) (hn : p.length ≤ 1000) :
    (∃ v1 w1 g2 c2 w2, (Builtin.append_ #[t, t] t #[.slice (some ⟨W.heap.size, 0, none⟩) 0 0, .slice a p.length c]).run Try.prog (W.alloc (.cells #[] e)) = .ok v1 w1 ∧
      (Builtin.append_ #[t, t] t #[v1, .slice (some ⟨w1.heap.size, 0, none⟩) 1 1]).run Try.prog (w1.alloc (.cells #[u] e)) = .ok (.slice (some ⟨g2, 0, none⟩) (p.length + 1) c2) w2 ∧
      RowV W.heap.size w2 (some ⟨g2, 0, none⟩) (p ++ [u]) ∧ Below W.heap.size W w2 ∧ Below W.heap.size W w1) ∧
    (∃ v1 w1 g2 c2 w2, (Builtin.append_ #[t, t] t #[.slice (some ⟨W.heap.size, 0, none⟩) 0 0, .slice a p.length c]).run Try.prog ((W.alloc (.cells #[] e)).alloc (.cells #[u] e)) = .ok v1 w1 ∧
      (Builtin.append_ #[t, t] t #[v1, .slice (some ⟨W.heap.size + 1, 0, none⟩) 1 1]).run Try.prog w1 = .ok (.slice (some ⟨g2, 0, none⟩) (p.length + 1) c2) w2 ∧
      RowV W.heap.size w2 (some ⟨g2, 0, none⟩) (p ++ [u]) ∧ Below W.heap.size W w2 ∧ Below W.heap.size W w1) ∧
    (∃ v1 w1 g2 c2 w2, (Builtin.append_ #[t, t] t #[.slice (some ⟨W.heap.size + 1, 0, none⟩) 0 0, .slice a p.length c]).run Try.prog ((W.alloc (.cells #[u] e)).alloc (.cells #[] e)) = .ok v1 w1 ∧
      (Builtin.append_ #[t, t] t #[v1, .slice (some ⟨W.heap.size, 0, none⟩) 1 1]).run Try.prog w1 = .ok (.slice (some ⟨g2, 0, none⟩) (p.length + 1) c2) w2 ∧
      RowV W.heap.size w2 (some ⟨g2, 0, none⟩) (p ++ [u]) ∧ Below W.heap.size W w2 ∧ Below W.heap.size W w1) := by
  have nw : ∀ (o o' : Array Value), Blk ((W.alloc (.cells o e)).alloc (.cells o' e)) W.heap.size o e ∧ Blk ((W.alloc (.cells o e)).alloc (.cells o' e)) (W.heap.size + 1) o' e ∧ Below W.heap.size W ((W.alloc (.cells o e)).alloc (.cells o' e)) := fun o o' => by
    refine ⟨Blk.alt (p := fun _ => False) (Blk.new W _ _) ((Alt.refl _ _).alloc _) id, ?_, below_al2 (below_al W _) _⟩
    have := Blk.new (W.alloc (.cells o e)) o' e
    rwa [World.size_alloc] at this
  refine ⟨copy_one t e i z bytes ht hi hz hs hby hb8 hzs p h1 u h2 a c W hp ha hn, ?_, ?_⟩
  · obtain ⟨n1, n2, n3⟩ := nw #[] #[u]
    exact copy_one2 t e i z bytes ht hi hz hs hby hb8 hzs p h1 u h2 a c W _ W.heap.size (W.heap.size + 1) n1 n2 (by omega) (Nat.le_refl _) n3 hp ha hn
  · obtain ⟨n1, n2, n3⟩ := nw #[u] #[]
    exact copy_one2 t e i z bytes ht hi hz hs hby hb8 hzs p h1 u h2 a c W _ (W.heap.size + 1) W.heap.size n2 n1 (by omega) (by omega) n3 hp ha hn

/-- Rows behind rows. -/
theorem app_rows (t e : TypeId) (i : TypeInfo) (ht : Try.prog.underlying t = some (.slice e)) (hi : Try.prog.info? e = some i) (hz : i.zero = some (.slice none 0 0)) (hs : i.size = 1) (hby : i.bytes = 24)
    {bo br b3 : Nat} {w Wr W : World} {v v3 : Value} {L L' : List (List Value)} (hO : OwnLL e bo br Wr v L) (hb : Below Wr.heap.size Wr W) (hO3 : OwnLL e b3 Wr.heap.size W v3 L') (hne : L' ≠ []) (hbr : br ≤ Wr.heap.size) (hbo : bo ≤ W.heap.size)
    (hlen : L.length + L'.length ≤ 1000000) (hB : Below w.heap.size w W) (hw : w.heap.size ≤ bo) :
    ∃ v4 w4, (Builtin.append_ #[t, t] t #[v, v3]).run Try.prog W = .ok v4 w4 ∧ OwnLL e bo br w4 v4 (L ++ L') ∧ Below w.heap.size w w4 := by
  obtain ⟨hs0, ho, hr⟩ := hO.lo hb
  obtain ⟨hsW, hoW, _⟩ := hO
  obtain ⟨a3, c3, rfl, hL3, _⟩ := hO3.out
  obtain ⟨l0, hl0⟩ : ∃ l, L'[0]? = some l := by
    cases hL : L' with
    | nil => exact absurd hL hne
    | cons x y => exact ⟨x, rfl⟩
  obtain ⟨g3, o3, _, _, rfl, _⟩ := hL3 0 l0 hl0
  obtain ⟨hs', x1, x2, x3, x4⟩ := hL3.heads v.ownBlock (fun k hk e => by have := (hoW.lt k e).2; omega)
  obtain ⟨v4, w4, hr4, ho4, hg4, _, hat⟩ := run_append_own_at (P := Try.prog) (w := W) bo t t e i (.slice none 0 0) 1 24 ht hi hz hs hby rfl (by decide) v L.length hs0 ho ⟨g3, o3, none⟩ L'.length c3 hs' x1 x2 x3 (by unfold maxLen; omega) (Nat.le_trans (Nat.mul_le_mul hlen (Nat.le_refl 24)) (by decide)) hbo
  exact ⟨v4, w4, hr4, OwnLL.push ho hr (x4.mono hbr) hg4 ho4 hat, below_grow hB hg4 (fun k e => Nat.le_trans hw (ho.lt k e).1)⟩

theorem flat_take {β : Type} (f : Nat → List β) (i : Nat) : (List.range (i + 1)).flatMap f = (List.range i).flatMap f ++ f i := by
  rw [List.range_succ, List.flatMap_append]; simp

theorem flat_le {β : Type} (f : Nat → List β) {i N : Nat} (h : i ≤ N) : ((List.range i).flatMap f).length ≤ ((List.range N).flatMap f).length := by
  obtain ⟨k, rfl⟩ : ∃ k, N = i + k := ⟨N - i, by omega⟩
  clear h
  induction k with
  | zero => exact Nat.le_refl _
  | succ k ih => rw [← Nat.add_assoc, flat_take, List.length_append]; omega

/-- What a function returns that makes lists of lists. -/
def RetLL (e : TypeId) (base : Nat) (L : List (List Value)) (w : World) (x : Ending) (w' : World) : Prop := ∃ v, x = .returned v ∧ OwnLL e w.heap.size base w' v L ∧ Below w.heap.size w w'

theorem LLAt.mono {base base' : Nat} {W : World} {a : Option Addr} {L : List (List Value)} (h : LLAt base W a L) (hb : base' ≤ base) : LLAt base' W a L := fun i l hl => by
  obtain ⟨g, o, a', c', e, h1, h2⟩ := h i l hl
  exact ⟨g, o, a', c', e, h1, h2.mono hb⟩

theorem RowsOk.one' {base : Nat} {W : World} {ob : Option Nat} {a : Option Addr} {c : Nat} {l : List Value} (h : RowV base W a l) (ho : ∀ k, ob = some k → k < base) : RowsOk base W ob [l] [Value.slice a l.length c] := fun i l' hl => by
  cases i with
  | zero =>
    cases hl
    exact ⟨a, c, rfl, fun j u hu => by
      obtain ⟨g, o, e, h1, h2⟩ := h j u hu
      exact ⟨g, o, e, h1, h2, fun he => by have := ho g he; omega⟩⟩
  | succ i => simp at hl

/-- A row behind rows. -/
theorem app_row1 (t e : TypeId) (i : TypeInfo) (ht : Try.prog.underlying t = some (.slice e)) (hi : Try.prog.info? e = some i) (hz : i.zero = some (.slice none 0 0)) (hs : i.size = 1) (hby : i.bytes = 24)
    {bo br : Nat} {w Wr W : World} {v : Value} {L : List (List Value)} {l : List Value} {a : Option Addr} {c n : Nat} (hnl : l.length = n) (hO : OwnLL e bo br Wr v L) (hb : Below Wr.heap.size Wr W) (hR : RowV Wr.heap.size W a l) (hbr : br ≤ Wr.heap.size) (hbo : bo ≤ W.heap.size)
    (hlen : L.length + 1 ≤ 100000000) (hB : Below w.heap.size w W) (hw : w.heap.size ≤ bo) :
    ∃ v4 w4, (Builtin.append_ #[t, t] t #[v, .slice (some ⟨W.heap.size, 0, none⟩) 1 1]).run Try.prog (W.alloc (.cells #[.slice a n c] e)) = .ok v4 w4 ∧ OwnLL e bo br w4 v4 (L ++ [l]) ∧ Below w.heap.size w w4 := by
  subst hnl
  obtain ⟨hs0, ho, hr⟩ := hO.lo hb
  obtain ⟨hsW, hoW, _⟩ := hO
  have bA := below_al W (.cells #[.slice a l.length c] e)
  obtain ⟨v4, w4, hr4, ho4, hg4, _, hat⟩ := run_append_own_at (P := Try.prog) (w := W.alloc (.cells #[.slice a l.length c] e)) bo t t e i (.slice none 0 0) 1 24 ht hi hz hs hby rfl (by decide) v L.length hs0 (ho.alloc _) ⟨W.heap.size, 0, none⟩ 1 1 [.slice a l.length c] rfl (World.news_of_block (cs := #[.slice a l.length c]) (Blk.new W _ _)) (by simp [Value.oneCell']) (by unfold maxLen; omega) (Nat.le_trans (Nat.mul_le_mul hlen (Nat.le_refl 24)) (by decide)) (Nat.le_trans hbo bA.size)
  have hR1 := (RowsOk.one' (ob := v.ownBlock) (c := c) hR (fun k e => (hoW.lt k e).2)).lo bA
  exact ⟨v4, w4, hr4, OwnLL.push (ho.alloc _) (hr.lo bA) (hR1.mono hbr) hg4 ho4 hat, below_grow (below_al2 hB _) hg4 (fun k e => Nat.le_trans hw (ho.lt k e).1)⟩

theorem below_own {w W W' : World} {v : Value} {n : Nat} {e : TypeId} {xs : List Value} (hB : Below w.heap.size w W) (ho : W.ownsRow w.heap.size e 1 v n xs) (hg : W.grownBy W' v.ownBlock) : Below w.heap.size w W' :=
  hB.grown hg hB.size (fun k e => (ho.lt k e).1)

theorem own_len {w : World} {base n : Nat} {e : TypeId} {v : Value} {xs : List Value} (h : w.ownsRow base e 1 v n xs) : ∃ a c, v = .slice a n c := by
  rcases h.2 with ⟨h1, h0⟩ | ⟨g, cap, cur, hv, hb, hg, hc, hm, _⟩
  · exact ⟨none, 0, by rw [h1, h0]⟩
  · exact ⟨_, _, hv⟩

/-- .. that held two of them. -/
theorem leave_ret2 {P : Program} {fn : Func} {R : Ending → World → Prop} {tmps : Array Value} {D2 D1 : Nat} {W : World} {v : Value} (hK : W.heap[D2]? = some (.deferred (some []))) (hK1 : W.heap[D1]? = some (.deferred (some []))) (hne : D1 ≠ D2)
    (hr : (results fn tmps).run P ((W.putObj D2 (.deferred none)).putObj D1 (.deferred none)) = .ok v ((W.putObj D2 (.deferred none)).putObj D1 (.deferred none))) (hR : R (.returned v) ((W.putObj D2 (.deferred none)).putObj D1 (.deferred none))) :
    bodyPostM Fence.wide 0 P fn R .ret { tmps := tmps, defers := [{ target := .collected D2, args := #[] }, { target := .collected D1, args := #[] }] } W :=
  ⟨by simp, .inl ⟨_, _, rfl, run_takeDeferred hK, ⟨by simp, .inl ⟨_, _, rfl, run_takeDeferred ((World.putObj_heap_other hne).trans hK1), ⟨v, hr, hR⟩⟩⟩⟩⟩

/-- .. that held none of them yet. -/
theorem bodyPostM_ret0 {P : Program} {fn : Func} {R : Ending → World → Prop} {tmps : Array Value} {W : World} {v : Value} (hr : (results fn tmps).run P W = .ok v W) (hR : R (.returned v) W) :
    bodyPostM Fence.wide 0 P fn R .ret { tmps := tmps, defers := [] } W := ⟨v, hr, hR⟩

end Go.Proofs.Ytbbndcfnpfedpaa
