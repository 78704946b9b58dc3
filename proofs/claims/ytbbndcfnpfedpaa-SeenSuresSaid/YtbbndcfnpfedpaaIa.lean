/- The law of a range over an iterator that passes a round's frame on, even where the round says 'no more'. -/
import Derived.Test.YtbbndcfnpfedpaaIt
set_option linter.unusedVariables false
set_option linter.unusedSimpArgs false
namespace Go.Proofs.Ytbbndcfnpfedpaa
open Go.RowKit

variable {P : Program}

/-- An iterator like Iter, whose rounds leave its blocks as they were, be they the last or not. -/
def IterA {α : Type} (P : Program) (g : Nat) (lb : Array Value) (encs : α → Array Value) (xs : List α) (K : Nat) (Rd : Nat → Prop) (w : World) : Prop :=
  ∀ (l : Nat) (J Jx : List α → World → Prop) (W : World), Alt (fun k => ¬ Rd k) w W →
    (∀ pre A B, J pre A → Alt (Rng W.heap.size K) A B → J pre B) → (∀ pre A B, Jx pre A → Alt (Rng W.heap.size K) A B → Jx pre B) →
    (∀ pre x post A, xs = pre ++ x :: post → W.heap.size + K ≤ A.heap.size → J pre A → YieldAt Fence.wide 0 P l (encs x) A fun e B =>
      ((e = .returned (.bool true) ∧ J (pre ++ [x]) B) ∨ (e = .returned (.bool false) ∧ Jx (pre ++ [x]) B)) ∧ Alt (fun k => ¬ (Rd k ∨ Rng W.heap.size K k)) A B) →
    J [] W →
    CallsIn Fence.wide 0 P g (#[.func (.yield l) #[] #[]] ++ lb) W fun e B => (∃ v, e = .returned v) ∧ (J xs B ∨ ∃ pre x post, xs = pre ++ x :: post ∧ Jx (pre ++ [x]) B)

/-- The statement over such an iterator, outside a round. -/
theorem wp_iterA {α : Type} {g : Operand} {ps : Array Tmp} {assign body : Code} {Q : Exit → Act → World → Prop} {a : Act} {w : World} {gf : Nat} {lb : Array Value}
    (hg : a.eval g = .func (.func gf) #[] lb) (eg : ∀ args w, (callFunc gf args).run P w = .ok (.enter gf args) w)
    {encs : α → Array Value} {xs : List α} {K : Nat} {Rd : Nat → Prop} (hseq : IterA P gf lb encs xs K Rd w) (hRd : ∀ k, Rd k → k < w.heap.size) (hps : ∀ x, (encs x).size = ps.size)
    (M : Nat → Prop) (hM : ∀ k, M k → ¬ Rd k ∧ ¬ Rng w.heap.size (2 + K) k)
    (I : List α → World → Prop) (Im : List α → α → Act → World → Prop) (Ix : Code → List α → World → Prop)
    (hI : ∀ pre A B, I pre A → Alt (Rng w.heap.size (2 + K)) A B → I pre B) (hIm : ∀ pre x a A B, Im pre x a A → Alt (Rng w.heap.size (2 + K)) A B → Im pre x a B) (hIx : ∀ c pre A B, Ix c pre A → Alt (Rng w.heap.size (2 + K)) A B → Ix c pre B)
    (h0 : I [] w)
    (hassign : ∀ (l : Nat) (pre : List α) (x : α) (post : List α) (A : World), xs = pre ++ x :: post → w.heap.size + (2 + K) ≤ A.heap.size → l = w.heap.size + 1 → (∃ r, A.heap[l]? = some (.loop r)) → I pre A →
      assign.wpIn (Fence.wide.inRound l) 0 P (Exit.then (fun a1 A1 => Alt M A A1 ∧ Im pre x a1 A1) (fun _ _ _ => False)) { tmps := (ps.zip (encs x)).foldl (fun t (p, v) => t.setIfInBounds p v) a.tmps, defers := [] } A)
    (hbody : ∀ (l : Nat) (pre : List α) (x : α) (post : List α) (a1 : Act) (A : World), xs = pre ++ x :: post → w.heap.size + (2 + K) ≤ A.heap.size → l = w.heap.size + 1 → (∃ r, A.heap[l]? = some (.loop r)) → Im pre x a1 A →
      body.wpIn (Fence.wide.inRound l) 0 P (rndPost M I Ix (pre ++ [x]) A) a1 A)
    (hdone : ∀ B, I xs B → w.heap.size + 2 ≤ B.heap.size → B.heap[w.heap.size]? = some (.deferred (some [])) → Q .normal { a with defers := { target := .collected w.heap.size, args := #[] } :: a.defers } B)
    (hstop : ∀ c pre x post B, xs = pre ++ x :: post → Ix c (pre ++ [x]) B → w.heap.size + (2 + K) ≤ B.heap.size → B.heap[w.heap.size]? = some (.deferred (some [])) → c.wpIn Fence.wide 0 P Q { a with defers := { target := .collected w.heap.size, args := #[] } :: a.defers } B) :
    (Code.rangeFunc g ps assign body).wpIn Fence.wide 0 P Q a w := by
  refine wpIn_rangeFunc ?_
  intro fn hfn
  show ∃ (l : Nat) (mark : List Deferred) (w₁ : World) (d : Deferred) (w₁' : World) (f : FuncId) (args : Array Value) (w₂ : World), (Instr.enterLoop fn a.tmps ps assign body none).run P w = .ok (l, mark) w₁ ∧ _
  obtain ⟨rec, hrec⟩ : ∃ rec : LoopState → Option Code → Loop, rec = fun st pe => { state := st, pending := pe, fn, tmps := a.tmps, params := ps, assign, body, defers := w.heap.size } := ⟨_, rfl⟩
  obtain ⟨W1, hW1⟩ : ∃ W1, (w.alloc (.deferred (some []))).alloc (.loop (rec .ready none)) = W1 := ⟨_, rfl⟩
  have hz : W1.heap.size = w.heap.size + 2 := by rw [← hW1]; simp
  have hL1 : W1.heap[w.heap.size + 1]? = some (.loop (rec .ready none)) := by
    rw [← hW1]; have := World.alloc_heap_new (w.alloc (.deferred (some []))) (.loop (rec .ready none)); rwa [World.size_alloc] at this
  have hK1 : W1.heap[w.heap.size]? = some (.deferred (some [])) := by
    rw [← hW1]; exact (Below.heap_alloc _ _ _ (by simp)).trans (World.alloc_heap_new w _)
  have A1 : ∀ p, Alt p w W1 := fun p => by rw [← hW1]; exact ((Alt.refl p w).alloc _).alloc _
  have zin : ∀ k, Rng W1.heap.size K k → Rng w.heap.size (2 + K) k := fun k h => by unfold Rng at *; omega
  have zl : Rng w.heap.size (2 + K) (w.heap.size + 1) := by unfold Rng; omega
  have z0 : Rng w.heap.size (2 + K) w.heap.size := by unfold Rng; omega
  have nM : ¬ M (w.heap.size + 1) := fun e => (hM _ e).2 zl
  have nM0 : ¬ M w.heap.size := fun e => (hM _ e).2 z0
  refine ⟨w.heap.size + 1, [{ target := .collected w.heap.size, args := #[] }], W1, { target := .fn (.func gf) lb, args := #[.func (.yield (w.heap.size + 1)) #[] #[]] }, W1, gf,
    #[.func (.yield (w.heap.size + 1)) #[] #[]] ++ lb, W1, ?_, ?_, ?_, ?_, fun h => by simp [Fence.wide] at h, ?_⟩
  · rw [← hW1, hrec]; exact run_enterLoop_outer _ _ _ _ _
  · simp only [resolve, hg]
    simp [go_sem]
  · intro f' hf'; trivial
  · simp [invoke, go_sem, eg]
  · have nr : ∀ j, w.heap.size ≤ j → j < w.heap.size + 2 → ¬ Rng W1.heap.size K j := fun j h1 h2 h => by unfold Rng at h; omega
    refine (hseq (w.heap.size + 1)
      (fun pre W => I pre W ∧ W.heap[w.heap.size + 1]? = some (.loop (rec .ready none)) ∧ W.heap[w.heap.size]? = some (.deferred (some [])))
      (fun pre W => ∃ c, Ix c pre W ∧ W.heap[w.heap.size + 1]? = some (.loop (rec .done (some c))) ∧ W.heap[w.heap.size]? = some (.deferred (some [])) ∧ w.heap.size + (2 + K) ≤ W.heap.size)
      W1 (A1 _)
      (fun pre A B h hAB => ⟨hI _ _ _ h.1 (hAB.mono fun k _ => zin k), hAB.obj h.2.1 (nr _ (by omega) (by omega)), hAB.obj h.2.2 (nr _ (by omega) (by omega))⟩)
      (fun pre A B h hAB => by
        obtain ⟨c, hc, h1, h2, h3⟩ := h
        exact ⟨c, hIx _ _ _ _ hc (hAB.mono fun k _ => zin k), hAB.obj h1 (nr _ (by omega) (by omega)), hAB.obj h2 (nr _ (by omega) (by omega)), Nat.le_trans h3 hAB.size⟩)
      ?_ ⟨hI _ _ _ h0 (A1 _), hL1, hK1⟩).mono ?_
    · rintro pre x post A hx hzA ⟨hi, hl, hk⟩
      have hzA' : w.heap.size + (2 + K) ≤ A.heap.size := by omega
      obtain ⟨f1, t1, as1, b1, hy, hR⟩ := yield_of_round (P := P) hps hrec (Z := Rng w.heap.size (2 + K)) (M := M) zl nM hI hIm hIx hi hl
        (fun r hr => hassign _ pre x post A hx hzA' rfl ⟨r, hr⟩ hi) (fun a1 A1 r hs hr hm => hbody _ pre x post a1 A1 hx (Nat.le_trans hzA' hs) rfl ⟨r, hr⟩ hm)
      refine ⟨f1, t1, as1, b1, hy, hR.mono ?_⟩
      rintro e B ⟨h, hA⟩
      have hk2 : B.heap[w.heap.size]? = some (.deferred (some [])) := hA.obj hk (fun e => e.elim nM0 (by omega))
      refine ⟨?_, hA.mono fun k hk h hn => ?_⟩
      · rcases h with ⟨he, h1, h2⟩ | ⟨he, c, h1, h2⟩
        · exact .inl ⟨he, h1, h2, hk2⟩
        · exact .inr ⟨he, c, h1, h2, hk2, Nat.le_trans hzA' hA.size⟩
      · rcases h with h | rfl
        · rcases hn with hn | hn
          · exact (hM _ h).1 hn
          · exact (hM _ h).2 (zin _ hn)
        · rcases hn with hn | hn
          · have := hRd _ hn; omega
          · exact nr _ (by omega) (by omega) hn
    · rintro e W2 ⟨⟨v, rfl⟩, (⟨hi, hl, hk⟩ | ⟨pre, x, post, hx, c, hi, hl, hk, hz2⟩)⟩
      · refine ⟨none, _, by have := run_endLoop (P := P) hl (by rw [hrec]; simp); rw [hrec] at this; exact this, ?_⟩
        exact hdone _ (hI _ _ _ hi (Alt.put zl _)) (by have := (Array.getElem?_eq_some_iff.1 hl).1; simp; omega) ((World.putObj_heap_other (by omega)).trans hk)
      · refine ⟨some c, _, by have := run_endLoop (P := P) hl (by rw [hrec]; simp); rw [hrec] at this; exact this, ?_⟩
        exact hstop c pre x post _ hx (hIx _ _ _ _ hi (Alt.put zl _)) (by simpa using hz2) ((World.putObj_heap_other (by omega)).trans hk)

end Go.Proofs.Ytbbndcfnpfedpaa
