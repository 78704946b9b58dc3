/- A range over a function, where the iterator may keep cells and maps of its own: what each side may turn, told by numbers of blocks; the statement's law outside a round, and within one; the return of a function that held one. -/
import Derived.RangeFuncNested
import Derived.RangeFuncLeaves
import Derived.Deep.QuietTactic
import Derived.BigQuiet
set_option linter.unusedVariables false
set_option linter.unusedSimpArgs false
namespace Go.Proofs.Ytbbndcfnpfedpaa
open Go.RowKit

/-- Of the blocks that lay, only such as p names may have turned; none has gone; the streams are as they were. -/
structure Alt (p : Nat → Prop) (w w' : World) : Prop where
  os : w'.os = w.os
  tape : w'.tape = w.tape
  out : w'.output = w.output
  size : w.heap.size ≤ w'.heap.size
  blk : ∀ k, k < w.heap.size → ¬ p k → w'.heap[k]? = w.heap[k]?

theorem Alt.refl (p : Nat → Prop) (w : World) : Alt p w w := ⟨rfl, rfl, rfl, Nat.le_refl _, fun _ _ _ => rfl⟩
theorem Alt.trans {p : Nat → Prop} {a b c : World} (h : Alt p a b) (k : Alt p b c) : Alt p a c :=
  ⟨k.os.trans h.os, k.tape.trans h.tape, k.out.trans h.out, Nat.le_trans h.size k.size, fun i hi hp => (k.blk i (Nat.lt_of_lt_of_le hi h.size) hp).trans (h.blk i hi hp)⟩
theorem Alt.mono {p q : Nat → Prop} {a b : World} (h : Alt p a b) (hq : ∀ k, k < a.heap.size → p k → q k) : Alt q a b :=
  ⟨h.os, h.tape, h.out, h.size, fun k hk hp => h.blk k hk (fun e => hp (hq k hk e))⟩
theorem Alt.alloc {p : Nat → Prop} {a w : World} (h : Alt p a w) (o : Obj) : Alt p a (w.alloc o) :=
  h.trans ⟨rfl, rfl, rfl, by simp, fun k hk _ => Below.heap_alloc _ _ _ hk⟩
theorem Alt.setCell {p : Nat → Prop} {a w : World} (h : Alt p a w) {q : Addr} (hq : p q.block) (u : Value) : Alt p a (w.setCell q u) :=
  h.trans ⟨rfl, rfl, rfl, by simp [World.setCell], fun k hk hp => Below.heap_setCell _ _ _ _ (fun e => hp (e ▸ hq))⟩
theorem Alt.putObj {p : Nat → Prop} {a w : World} (h : Alt p a w) {l : Nat} (hl : p l) (o : Obj) : Alt p a (w.putObj l o) :=
  h.trans ⟨rfl, rfl, rfl, by simp, fun k hk hp => World.putObj_heap_other (fun e => hp (e ▸ hl))⟩
theorem Alt.drew {p : Nat → Prop} {a w : World} (h : Alt p a w) : Alt p a w.drew := ⟨h.os, h.tape, h.out, h.size, h.blk⟩
theorem Alt.drewN {p : Nat → Prop} {a w : World} (h : Alt p a w) (n : Nat) : Alt p a (w.drewN n) := h.trans ⟨rfl, rfl, rfl, Nat.le_refl _, fun _ _ _ => rfl⟩
theorem Alt.grown {p : Nat → Prop} {a w w' : World} {row : Option Nat} (h : Alt p a w) (hg : w.grownBy w' row) (hr : ∀ k, row = some k → p k) : Alt p a w' :=
  h.trans ⟨hg.os, hg.tape, hg.output, hg.size, fun k hk hp => hg.block k hk (fun e => hp (hr k e.symm))⟩
theorem Alt.of_below {p : Nat → Prop} {a b : World} {B : Nat} (h : Below B a b) (hp : ∀ k, k < a.heap.size → B ≤ k → p k) : Alt p a b :=
  ⟨h.os, h.tape, h.output, h.size, fun k hk hq => h.block k (Nat.lt_of_not_le fun e => hq (hp k hk e))⟩
theorem Alt.below {p : Nat → Prop} {a b : World} {B : Nat} (h : Alt p a b) (hB : B ≤ a.heap.size) (hp : ∀ k, p k → B ≤ k) : Below B a b :=
  ⟨h.os, h.tape, h.out, h.size, fun k hk => h.blk k (Nat.lt_of_lt_of_le hk hB) (fun e => by have := hp k e; omega)⟩
theorem Alt.put {p : Nat → Prop} {w : World} {l : Nat} (hl : p l) (o : Obj) : Alt p w (w.putObj l o) := (Alt.refl p w).putObj hl o
theorem Alt.obj {p : Nat → Prop} {a b : World} (h : Alt p a b) {k : Nat} {o : Obj} (hk : a.heap[k]? = some o) (hp : ¬ p k) : b.heap[k]? = some o :=
  (h.blk k (Array.getElem?_eq_some_iff.1 hk).1 hp).trans hk

/-- The n blocks from lo on. -/
def Rng (lo n k : Nat) : Prop := lo ≤ k ∧ k < lo + n

/-- An iterator that gives xs, one after the other, until a round says 'no more'. It lays K blocks of its own first, and may turn them; it reads blocks that Rd names; a round leaves both as they were. -/
def Iter {α : Type} (P : Program) (g : Nat) (lb : Array Value) (encs : α → Array Value) (xs : List α) (K : Nat) (Rd : Nat → Prop) (w : World) : Prop :=
  ∀ (l : Nat) (J Jx : List α → World → Prop) (W : World), Alt (fun k => ¬ Rd k) w W →
    (∀ pre A B, J pre A → Alt (Rng W.heap.size K) A B → J pre B) → (∀ pre A B, Jx pre A → Alt (Rng W.heap.size K) A B → Jx pre B) →
    (∀ pre x post A, xs = pre ++ x :: post → W.heap.size + K ≤ A.heap.size → J pre A → YieldAt Fence.wide 0 P l (encs x) A fun e B =>
      (e = .returned (.bool true) ∧ J (pre ++ [x]) B ∧ Alt (fun k => ¬ (Rd k ∨ Rng W.heap.size K k)) A B) ∨ (e = .returned (.bool false) ∧ Jx (pre ++ [x]) B)) →
    J [] W →
    CallsIn Fence.wide 0 P g (#[.func (.yield l) #[] #[]] ++ lb) W fun e B => (∃ v, e = .returned v) ∧ (J xs B ∨ ∃ pre x post, xs = pre ++ x :: post ∧ Jx (pre ++ [x]) B)

/-- How a round's body may be left. -/
def rndPost {α : Type} (M : Nat → Prop) (I : List α → World → Prop) (Ix : Code → List α → World → Prop) (xs : List α) (W : World) : Exit → Act → World → Prop
  | .normal, _, B => Alt M W B ∧ I xs B
  | .ret, _, B => Alt M W B ∧ Ix .ret xs B
  | .exit id, _, B => Alt M W B ∧ Ix (.exit id) xs B
  | .goto t, _, B => Alt M W B ∧ Ix (.goto t) xs B
  | .panic _, _, _ => False
  | .outgrown, _, _ => False

variable {P : Program}

/-- One call of yield, out of the walks of the assignment and of the body. M: what a round may turn; it is neither the loop's record nor the block for deferred calls (D). -/
theorem yield_of_round {α : Type} {ps : Array Tmp} {assign body : Code} {tmps : Array Value} {fn : FuncId} {D l : Nat} {encs : α → Array Value} (hps : ∀ x, (encs x).size = ps.size)
    {rec : LoopState → Option Code → Loop} (hrec : rec = fun st pe => { state := st, pending := pe, fn, tmps, params := ps, assign, body, defers := D })
    {Z M : Nat → Prop} (hZ : Z l) (hM : ¬ M l)
    {I : List α → World → Prop} {Im : List α → α → Act → World → Prop} {Ix : Code → List α → World → Prop}
    (hI : ∀ pre A B, I pre A → Alt Z A B → I pre B) (hIm : ∀ pre x a A B, Im pre x a A → Alt Z A B → Im pre x a B) (hIx : ∀ c pre A B, Ix c pre A → Alt Z A B → Ix c pre B)
    {pre : List α} {x : α} {A : World} (hi : I pre A) (hl : A.heap[l]? = some (.loop (rec .ready none)))
    (hassign : ∀ r, A.heap[l]? = some (.loop r) → assign.wpIn (Fence.wide.inRound l) 0 P (Exit.then (fun a1 A1 => Alt M A A1 ∧ Im pre x a1 A1) (fun _ _ _ => False)) { tmps := (ps.zip (encs x)).foldl (fun t (p, v) => t.setIfInBounds p v) tmps, defers := [] } A)
    (hbody : ∀ a1 A1 r, A.heap.size ≤ A1.heap.size → A1.heap[l]? = some (.loop r) → Im pre x a1 A1 → body.wpIn (Fence.wide.inRound l) 0 P (rndPost M I Ix (pre ++ [x]) A1) a1 A1) :
    YieldAt Fence.wide 0 P l (encs x) A fun e B =>
      ((e = .returned (.bool true) ∧ I (pre ++ [x]) B ∧ B.heap[l]? = some (.loop (rec .ready none))) ∨
       (e = .returned (.bool false) ∧ ∃ c, Ix c (pre ++ [x]) B ∧ B.heap[l]? = some (.loop (rec .done (some c))))) ∧
      Alt (fun k => M k ∨ k = l) A B := by
  have hy := run_yield (P := P) (args := encs x) hl (by rw [hrec]; exact hps x)
  rw [hrec] at hy
  refine ⟨fn, _, assign, body, hy, roundIn_of_wpIn trivial ?_⟩
  refine wpIn_mono (hassign _ hl) ?_
  intro e a1 A1 h1
  cases e with
  | normal =>
    obtain ⟨hA1, hm⟩ := h1
    have hl1 := hA1.obj hl hM
    refine ⟨_, run_beginRound hl1 (by rw [hrec]), ?_⟩
    have hlt : l < A1.heap.size := (Array.getElem?_eq_some_iff.1 hl1).1
    have hl2 : (A1.putObj l (.loop { rec .ready none with state := .busy })).heap[l]? = some (.loop { rec .ready none with state := .busy }) := World.putObj_heap_same hlt
    refine wpIn_mono (hbody a1 _ _ (by simpa using hA1.size) hl2 (hIm _ _ _ _ _ hm (Alt.put hZ _))) ?_
    have A2 : Alt (fun k => M k ∨ k = l) A (A1.putObj l (.loop { rec .ready none with state := .busy })) := (hA1.mono fun k _ h => .inl h).putObj (.inr rfl) _
    have fin : ∀ (jump : Option Code) (B : World), Alt M (A1.putObj l (.loop { rec .ready none with state := .busy })) B →
        (Instr.endRound l jump).run P B = .ok (.bool jump.isNone) (B.putObj l (.loop (rec (if jump.isNone then .ready else .done) jump))) ∧
        (B.putObj l (.loop (rec (if jump.isNone then .ready else .done) jump))).heap[l]? = some (.loop (rec (if jump.isNone then .ready else .done) jump)) ∧
        Alt (fun k => M k ∨ k = l) A (B.putObj l (.loop (rec (if jump.isNone then .ready else .done) jump))) := fun jump B hB => by
      have hl3 := hB.obj hl2 hM
      have := run_endRound (P := P) jump hl3
      rw [hrec] at this ⊢
      exact ⟨this, World.putObj_heap_same (Array.getElem?_eq_some_iff.1 hl3).1, by rw [hrec] at A2 hB; exact (A2.trans (hB.mono fun k _ h => .inl h)).putObj (.inr rfl) _⟩
    intro e a3 B hp
    cases e with
    | normal =>
      obtain ⟨hB, hi3⟩ := hp
      obtain ⟨hr, hl4, hA4⟩ := fin none B hB
      exact ⟨_, _, hr, .inl ⟨rfl, hI _ _ _ hi3 (Alt.put hZ _), hl4⟩, hA4⟩
    | ret =>
      obtain ⟨hB, hi3⟩ := hp
      obtain ⟨hr, hl4, hA4⟩ := fin (some .ret) B hB
      exact ⟨_, _, hr, .inr ⟨rfl, .ret, hIx _ _ _ _ hi3 (Alt.put hZ _), hl4⟩, hA4⟩
    | exit id =>
      obtain ⟨hB, hi3⟩ := hp
      obtain ⟨hr, hl4, hA4⟩ := fin (some (.exit id)) B hB
      exact ⟨_, _, hr, .inr ⟨rfl, .exit id, hIx _ _ _ _ hi3 (Alt.put hZ _), hl4⟩, hA4⟩
    | goto t =>
      obtain ⟨hB, hi3⟩ := hp
      obtain ⟨hr, hl4, hA4⟩ := fin (some (.goto t)) B hB
      exact ⟨_, _, hr, .inr ⟨rfl, .goto t, hIx _ _ _ _ hi3 (Alt.put hZ _), hl4⟩, hA4⟩
    | panic ch => exact hp.elim
    | outgrown => exact hp.elim
  | exit id => exact h1.elim
  | goto t => exact h1.elim
  | ret => exact h1.elim
  | panic ch => exact h1.elim
  | outgrown => exact h1.elim

/-- The statement, outside a round. -/
theorem wp_iter {α : Type} {g : Operand} {ps : Array Tmp} {assign body : Code} {Q : Exit → Act → World → Prop} {a : Act} {w : World} {gf : Nat} {lb : Array Value}
    (hg : a.eval g = .func (.func gf) #[] lb) (eg : ∀ args w, (callFunc gf args).run P w = .ok (.enter gf args) w)
    {encs : α → Array Value} {xs : List α} {K : Nat} {Rd : Nat → Prop} (hseq : Iter P gf lb encs xs K Rd w) (hRd : ∀ k, Rd k → k < w.heap.size) (hps : ∀ x, (encs x).size = ps.size)
    (M : Nat → Prop) (hM : ∀ k, M k → ¬ Rd k ∧ ¬ Rng w.heap.size (2 + K) k)
    (I : List α → World → Prop) (Im : List α → α → Act → World → Prop) (Ix : Code → List α → World → Prop)
    (hI : ∀ pre A B, I pre A → Alt (Rng w.heap.size (2 + K)) A B → I pre B) (hIm : ∀ pre x a A B, Im pre x a A → Alt (Rng w.heap.size (2 + K)) A B → Im pre x a B) (hIx : ∀ c pre A B, Ix c pre A → Alt (Rng w.heap.size (2 + K)) A B → Ix c pre B)
    (h0 : I [] w)
    (hassign : ∀ (l : Nat) (pre : List α) (x : α) (post : List α) (A : World), xs = pre ++ x :: post → w.heap.size + (2 + K) ≤ A.heap.size → l = w.heap.size + 1 → (∃ r, A.heap[l]? = some (.loop r)) → I pre A →
      assign.wpIn (Fence.wide.inRound l) 0 P (Exit.then (fun a1 A1 => Alt M A A1 ∧ Im pre x a1 A1) (fun _ _ _ => False)) { tmps := (ps.zip (encs x)).foldl (fun t (p, v) => t.setIfInBounds p v) a.tmps, defers := [] } A)
    (hbody : ∀ (l : Nat) (pre : List α) (x : α) (post : List α) (a1 : Act) (A : World), xs = pre ++ x :: post → w.heap.size + (2 + K) ≤ A.heap.size → l = w.heap.size + 1 → (∃ r, A.heap[l]? = some (.loop r)) → Im pre x a1 A →
      body.wpIn (Fence.wide.inRound l) 0 P (rndPost M I Ix (pre ++ [x]) A) a1 A)
    (hdone : ∀ B, I xs B → w.heap.size + 2 ≤ B.heap.size → B.heap[w.heap.size]? = some (.deferred (some [])) → Q .normal { a with defers := { target := .collected w.heap.size, args := #[] } :: a.defers } B)
    (hstop : ∀ c pre x post B, xs = pre ++ x :: post → Ix c (pre ++ [x]) B → w.heap.size + (2 + K) ≤ B.heap.size → B.heap[w.heap.size]? = some (.deferred (some [])) → c.wpIn Fence.wide 0 P Q { a with defers := { target := .collected w.heap.size, args := #[] } :: a.defers } B) :
    (Code.rangeFunc g ps assign body).wpIn Fence.wide 0 P Q a w := by
  refine wpIn_rangeFunc ?_
  intro fn hfn
  show ∃ (l : Nat) (mark : List Deferred) (w₁ : World) (d : Deferred) (w₁' : World) (f : FuncId) (args : Array Value) (w₂ : World), (Instr.enterLoop fn a.tmps ps assign body none).run P w = .ok (l, mark) w₁ ∧ _
  obtain ⟨rec, hrec⟩ : ∃ rec : LoopState → Option Code → Loop, rec = fun st pe => { state := st, pending := pe, fn, tmps := a.tmps, params := ps, assign, body, defers := w.heap.size } := ⟨_, rfl⟩
  obtain ⟨W1, hW1⟩ : ∃ W1, (w.alloc (.deferred (some []))).alloc (.loop (rec .ready none)) = W1 := ⟨_, rfl⟩
  have hz : W1.heap.size = w.heap.size + 2 := by rw [← hW1]; simp
  have hL1 : W1.heap[w.heap.size + 1]? = some (.loop (rec .ready none)) := by
    rw [← hW1]; have := World.alloc_heap_new (w.alloc (.deferred (some []))) (.loop (rec .ready none)); rwa [World.size_alloc] at this
  have hK1 : W1.heap[w.heap.size]? = some (.deferred (some [])) := by
    rw [← hW1]; exact (Below.heap_alloc _ _ _ (by simp)).trans (World.alloc_heap_new w _)
  have A1 : ∀ p, Alt p w W1 := fun p => by rw [← hW1]; exact ((Alt.refl p w).alloc _).alloc _
  have zin : ∀ k, Rng W1.heap.size K k → Rng w.heap.size (2 + K) k := fun k h => by unfold Rng at *; omega
  have zl : Rng w.heap.size (2 + K) (w.heap.size + 1) := by unfold Rng; omega
  have z0 : Rng w.heap.size (2 + K) w.heap.size := by unfold Rng; omega
  have nM : ¬ M (w.heap.size + 1) := fun e => (hM _ e).2 zl
  have nM0 : ¬ M w.heap.size := fun e => (hM _ e).2 z0
  refine ⟨w.heap.size + 1, [{ target := .collected w.heap.size, args := #[] }], W1, { target := .fn (.func gf) lb, args := #[.func (.yield (w.heap.size + 1)) #[] #[]] }, W1, gf,
    #[.func (.yield (w.heap.size + 1)) #[] #[]] ++ lb, W1, ?_, ?_, ?_, ?_, fun h => by simp [Fence.wide] at h, ?_⟩
  · rw [← hW1, hrec]; exact run_enterLoop_outer _ _ _ _ _
  · simp only [resolve, hg]
    simp [go_sem]
  · intro f' hf'; trivial
  · simp [invoke, go_sem, eg]
  · have nr : ∀ j, w.heap.size ≤ j → j < w.heap.size + 2 → ¬ Rng W1.heap.size K j := fun j h1 h2 h => by unfold Rng at h; omega
    refine (hseq (w.heap.size + 1)
      (fun pre W => I pre W ∧ W.heap[w.heap.size + 1]? = some (.loop (rec .ready none)) ∧ W.heap[w.heap.size]? = some (.deferred (some [])))
      (fun pre W => ∃ c, Ix c pre W ∧ W.heap[w.heap.size + 1]? = some (.loop (rec .done (some c))) ∧ W.heap[w.heap.size]? = some (.deferred (some [])) ∧ w.heap.size + (2 + K) ≤ W.heap.size)
      W1 (A1 _)
      (fun pre A B h hAB => ⟨hI _ _ _ h.1 (hAB.mono fun k _ => zin k), hAB.obj h.2.1 (nr _ (by omega) (by omega)), hAB.obj h.2.2 (nr _ (by omega) (by omega))⟩)
      (fun pre A B h hAB => by
        obtain ⟨c, hc, h1, h2, h3⟩ := h
        exact ⟨c, hIx _ _ _ _ hc (hAB.mono fun k _ => zin k), hAB.obj h1 (nr _ (by omega) (by omega)), hAB.obj h2 (nr _ (by omega) (by omega)), Nat.le_trans h3 hAB.size⟩)
      ?_ ⟨hI _ _ _ h0 (A1 _), hL1, hK1⟩).mono ?_
    · rintro pre x post A hx hzA ⟨hi, hl, hk⟩
      have hzA' : w.heap.size + (2 + K) ≤ A.heap.size := by omega
      obtain ⟨f1, t1, as1, b1, hy, hR⟩ := yield_of_round (P := P) hps hrec (Z := Rng w.heap.size (2 + K)) (M := M) zl nM hI hIm hIx hi hl
        (fun r hr => hassign _ pre x post A hx hzA' rfl ⟨r, hr⟩ hi) (fun a1 A1 r hs hr hm => hbody _ pre x post a1 A1 hx (Nat.le_trans hzA' hs) rfl ⟨r, hr⟩ hm)
      refine ⟨f1, t1, as1, b1, hy, hR.mono ?_⟩
      rintro e B ⟨h, hA⟩
      have hk2 : B.heap[w.heap.size]? = some (.deferred (some [])) := hA.obj hk (fun e => e.elim nM0 (by omega))
      rcases h with ⟨he, h1, h2⟩ | ⟨he, c, h1, h2⟩
      · refine .inl ⟨he, ⟨h1, h2, hk2⟩, hA.mono fun k hk h hn => ?_⟩
        rcases h with h | rfl
        · rcases hn with hn | hn
          · exact (hM _ h).1 hn
          · exact (hM _ h).2 (zin _ hn)
        · rcases hn with hn | hn
          · have := hRd _ hn; omega
          · exact nr _ (by omega) (by omega) hn
      · exact .inr ⟨he, c, h1, h2, hk2, Nat.le_trans hzA' hA.size⟩
    · rintro e W2 ⟨⟨v, rfl⟩, (⟨hi, hl, hk⟩ | ⟨pre, x, post, hx, c, hi, hl, hk, hz2⟩)⟩
      · refine ⟨none, _, by have := run_endLoop (P := P) hl (by rw [hrec]; simp); rw [hrec] at this; exact this, ?_⟩
        exact hdone _ (hI _ _ _ hi (Alt.put zl _)) (by have := (Array.getElem?_eq_some_iff.1 hl).1; simp; omega) ((World.putObj_heap_other (by omega)).trans hk)
      · refine ⟨some c, _, by have := run_endLoop (P := P) hl (by rw [hrec]; simp); rw [hrec] at this; exact this, ?_⟩
        exact hstop c pre x post _ hx (hIx _ _ _ _ hi (Alt.put zl _)) (by simpa using hz2) ((World.putObj_heap_other (by omega)).trans hk)

/-- The statement, within a round of loop l₀. -/
theorem wp_iter_in {α : Type} {g : Operand} {ps : Array Tmp} {assign body : Code} {Q : Exit → Act → World → Prop} {a : Act} {w : World} {gf : Nat} {lb : Array Value} {l₀ : Nat} {r₀ : Loop} (hl₀ : w.heap[l₀]? = some (.loop r₀))
    (hg : a.eval g = .func (.func gf) #[] lb) (eg : ∀ args w, (callFunc gf args).run P w = .ok (.enter gf args) w)
    {encs : α → Array Value} {xs : List α} {K : Nat} {Rd : Nat → Prop} (hseq : Iter P gf lb encs xs K Rd w) (hRd : ∀ k, Rd k → k < w.heap.size) (hps : ∀ x, (encs x).size = ps.size)
    (M : Nat → Prop) (hM : ∀ k, M k → ¬ Rd k ∧ ¬ Rng w.heap.size (1 + K) k)
    (I : List α → World → Prop) (Im : List α → α → Act → World → Prop) (Ix : Code → List α → World → Prop)
    (hI : ∀ pre A B, I pre A → Alt (Rng w.heap.size (1 + K)) A B → I pre B) (hIm : ∀ pre x a A B, Im pre x a A → Alt (Rng w.heap.size (1 + K)) A B → Im pre x a B) (hIx : ∀ c pre A B, Ix c pre A → Alt (Rng w.heap.size (1 + K)) A B → Ix c pre B)
    (h0 : I [] w)
    (hassign : ∀ (l : Nat) (pre : List α) (x : α) (post : List α) (A : World), xs = pre ++ x :: post → w.heap.size + (1 + K) ≤ A.heap.size → l = w.heap.size → (∃ r, A.heap[l]? = some (.loop r)) → I pre A →
      assign.wpIn (Fence.wide.inRound l) 0 P (Exit.then (fun a1 A1 => Alt M A A1 ∧ Im pre x a1 A1) (fun _ _ _ => False)) { tmps := (ps.zip (encs x)).foldl (fun t (p, v) => t.setIfInBounds p v) a.tmps, defers := [] } A)
    (hbody : ∀ (l : Nat) (pre : List α) (x : α) (post : List α) (a1 : Act) (A : World), xs = pre ++ x :: post → w.heap.size + (1 + K) ≤ A.heap.size → l = w.heap.size → (∃ r, A.heap[l]? = some (.loop r)) → Im pre x a1 A →
      body.wpIn (Fence.wide.inRound l) 0 P (rndPost M I Ix (pre ++ [x]) A) a1 A)
    (hdone : ∀ B, I xs B → w.heap.size + 1 ≤ B.heap.size → Q .normal a B)
    (hstop : ∀ c pre x post B, xs = pre ++ x :: post → Ix c (pre ++ [x]) B → w.heap.size + (1 + K) ≤ B.heap.size → c.wpIn (Fence.wide.inRound l₀) 0 P Q a B) :
    (Code.rangeFunc g ps assign body).wpIn (Fence.wide.inRound l₀) 0 P Q a w := by
  refine wpIn_rangeFunc ?_
  intro fn hfn
  show ∃ (l : Nat) (mark : List Deferred) (w₁ : World) (d : Deferred) (w₁' : World) (f : FuncId) (args : Array Value) (w₂ : World), (Instr.enterLoop fn a.tmps ps assign body (some l₀)).run P w = .ok (l, mark) w₁ ∧ _
  obtain ⟨rec, hrec⟩ : ∃ rec : LoopState → Option Code → Loop, rec = fun st pe => { state := st, pending := pe, fn, tmps := a.tmps, params := ps, assign, body, defers := r₀.defers } := ⟨_, rfl⟩
  obtain ⟨W1, hW1⟩ : ∃ W1, w.alloc (.loop (rec .ready none)) = W1 := ⟨_, rfl⟩
  have hz : W1.heap.size = w.heap.size + 1 := by rw [← hW1]; simp
  have hL1 : W1.heap[w.heap.size]? = some (.loop (rec .ready none)) := by rw [← hW1]; exact World.alloc_heap_new w _
  have A1 : ∀ p, Alt p w W1 := fun p => by rw [← hW1]; exact (Alt.refl p w).alloc _
  have zin : ∀ k, Rng W1.heap.size K k → Rng w.heap.size (1 + K) k := fun k h => by unfold Rng at *; omega
  have zl : Rng w.heap.size (1 + K) w.heap.size := by unfold Rng; omega
  have nM : ¬ M w.heap.size := fun e => (hM _ e).2 zl
  refine ⟨w.heap.size, [], W1, { target := .fn (.func gf) lb, args := #[.func (.yield w.heap.size) #[] #[]] }, W1, gf,
    #[.func (.yield w.heap.size) #[] #[]] ++ lb, W1, ?_, ?_, ?_, ?_, fun h => by simp [Fence.wide] at h, ?_⟩
  · rw [← hW1, hrec]; exact run_enterLoop_inner hl₀ _ _ _ _ _
  · simp only [resolve, hg]
    simp [go_sem]
  · intro f' hf'; trivial
  · simp [invoke, go_sem, eg]
  · have nr : ∀ j, w.heap.size ≤ j → j < w.heap.size + 1 → ¬ Rng W1.heap.size K j := fun j h1 h2 h => by unfold Rng at h; omega
    refine (hseq w.heap.size
      (fun pre W => I pre W ∧ W.heap[w.heap.size]? = some (.loop (rec .ready none)))
      (fun pre W => ∃ c, Ix c pre W ∧ W.heap[w.heap.size]? = some (.loop (rec .done (some c))) ∧ w.heap.size + (1 + K) ≤ W.heap.size)
      W1 (A1 _)
      (fun pre A B h hAB => ⟨hI _ _ _ h.1 (hAB.mono fun k _ => zin k), hAB.obj h.2 (nr _ (by omega) (by omega))⟩)
      (fun pre A B h hAB => by
        obtain ⟨c, hc, h1, h3⟩ := h
        exact ⟨c, hIx _ _ _ _ hc (hAB.mono fun k _ => zin k), hAB.obj h1 (nr _ (by omega) (by omega)), Nat.le_trans h3 hAB.size⟩)
      ?_ ⟨hI _ _ _ h0 (A1 _), hL1⟩).mono ?_
    · rintro pre x post A hx hzA ⟨hi, hl⟩
      have hzA' : w.heap.size + (1 + K) ≤ A.heap.size := by omega
      obtain ⟨f1, t1, as1, b1, hy, hR⟩ := yield_of_round (P := P) hps hrec (Z := Rng w.heap.size (1 + K)) (M := M) zl nM hI hIm hIx hi hl
        (fun r hr => hassign _ pre x post A hx hzA' rfl ⟨r, hr⟩ hi) (fun a1 A1 r hs hr hm => hbody _ pre x post a1 A1 hx (Nat.le_trans hzA' hs) rfl ⟨r, hr⟩ hm)
      refine ⟨f1, t1, as1, b1, hy, hR.mono ?_⟩
      rintro e B ⟨h, hA⟩
      rcases h with ⟨he, h1, h2⟩ | ⟨he, c, h1, h2⟩
      · refine .inl ⟨he, ⟨h1, h2⟩, hA.mono fun k hk h hn => ?_⟩
        rcases h with h | rfl
        · rcases hn with hn | hn
          · exact (hM _ h).1 hn
          · exact (hM _ h).2 (zin _ hn)
        · rcases hn with hn | hn
          · have := hRd _ hn; omega
          · exact nr _ (by omega) (by omega) hn
      · exact .inr ⟨he, c, h1, h2, Nat.le_trans hzA' hA.size⟩
    · rintro e W2 ⟨⟨v, rfl⟩, (⟨hi, hl⟩ | ⟨pre, x, post, hx, c, hi, hl, hz2⟩)⟩
      · refine ⟨none, _, by have := run_endLoop (P := P) hl (by rw [hrec]; simp); rw [hrec] at this; exact this, ?_⟩
        exact hdone _ (hI _ _ _ hi (Alt.put zl _)) (by have := (Array.getElem?_eq_some_iff.1 hl).1; simp; omega)
      · refine ⟨some c, _, by have := run_endLoop (P := P) hl (by rw [hrec]; simp); rw [hrec] at this; exact this, ?_⟩
        exact hstop c pre x post _ hx (hIx _ _ _ _ hi (Alt.put zl _)) (by simpa using hz2)

/-- A function that held such a statement returns: the block for deferred calls is shut. -/
theorem leave_ret {fn : Func} {R : Ending → World → Prop} {tmps : Array Value} {D : Nat} {W : World} {v : Value} (hK : W.heap[D]? = some (.deferred (some [])))
    (hr : (results fn tmps).run P (W.putObj D (.deferred none)) = .ok v (W.putObj D (.deferred none))) (hR : R (.returned v) (W.putObj D (.deferred none))) :
    bodyPostM Fence.wide 0 P fn R .ret { tmps := tmps, defers := [{ target := .collected D, args := #[] }] } W :=
  ⟨by simp, .inl ⟨_, _, rfl, run_takeDeferred hK, ⟨v, hr, hR⟩⟩⟩

end Go.Proofs.Ytbbndcfnpfedpaa
