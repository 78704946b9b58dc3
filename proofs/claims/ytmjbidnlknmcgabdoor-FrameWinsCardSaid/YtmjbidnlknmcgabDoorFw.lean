/- The contract of the law FrameFouls. -/
import Derived.Test.YtmjbidnlknmcgabDoorFw0
import Derived.Test.YtmjbidnlknmcgabDoorFo
set_option linter.unusedVariables false
set_option linter.unusedSimpArgs false
namespace Go.Proofs.YtmjbidnlknmcgabDoor
open Go.RowKit

theorem fl_refl : ∀ bs, FlL bs bs
  | [] => .nil
  | k :: ks => .cons (.inl rfl) (fl_refl ks)

theorem fl_set {bs ys : List Int} {v : Int} (h : FlL bs ys) (hv : v = 0 ∨ v = -1) : ∀ (k : Nat) (y : Int), ys[k]? = some y → (y = 0 ∨ y = -1) → FlL bs (ys.set k v) := by
  induction h with
  | nil => intro k y h; simp at h
  | @cons a a' ks ks' hk hks ih =>
    intro k y h hy
    cases k with
    | zero =>
      simp only [List.getElem?_cons_zero, Option.some.injEq] at h
      subst h
      refine .cons (.inr ⟨?_, hv⟩) hks
      rcases hk with rfl | ⟨h1, _⟩
      · exact hy
      · exact h1
    | succ k => exact .cons hk (ih k y (by simpa using h) hy)

/-- A sheet, and what may stand instead of it. -/
structure FX (bs ys : List Int) : Prop where
  fl : FlL bs ys
  ge : ∀ y ∈ ys, -1 ≤ y

theorem FX.set {bs ys : List Int} {v y : Int} {k : Nat} (h : FX bs ys) (hv : v = 0 ∨ v = -1) (hy : ys[k]? = some y) (h0 : y ≤ 0) : FX bs (ys.set k v) := by
  have h1 := h.ge y (List.mem_of_getElem? hy)
  refine ⟨fl_set h.fl hv k y hy (by omega), fun x hx => ?_⟩
  rcases List.mem_or_eq_of_mem_set hx with hx | rfl
  · exact h.ge x hx
  · omega

theorem WL.set {w W : World} {l : Lw} (h : Hid (WL w W l)) {p : Addr} (hp : w.heap.size < p.block) (v : Value) : Hid (WL w (W.setCell p v) l) :=
  Lib.hid ⟨(Below.heap_setCell W p v _ (by omega)).trans h.out.lb, h.out.bl.setCell (by omega) v⟩

theorem setGo_le (pn : Int) (cs : List Int) : ∀ (bs : List (List Int)) (f : Nat) (acc : List Int), (setGo pn cs bs f acc).length ≤ acc.length + bs.length
  | [], _, _ => by simp [setGo]
  | b :: bs, f, acc => by
    rw [setGo]
    split
    · simp
    · have := setGo_le pn cs bs (f + b.length) (acc ++ [(partL cs f (needs pn cs f b.length)).sum + lastC acc])
      simp at this ⊢
      omega

theorem rdM_le (l : Lw) (bs : List Int) : (rdM l bs).length ≤ 1000 := by
  unfold rdM
  split
  · rename_i h
    obtain ⟨ok, hw, _⟩ := recS_ok h
    have f1 := hw.vd.f1
    have f2 := hw.vd.f2
    have f3 := ok.f2
    have := setGo_le l.pn (recS l bs).cs ((recS l bs).fs.take (recS l bs).s.f.toNat) 0 []
    rw [List.length_take] at this
    unfold setL
    simp only [List.length_nil] at this
    omega
  · simp

theorem own_sheet {w : World} {base n c : Nat} {a : Option Addr} {xs : List Int} (h : w.ownsRow base 3 1 (.slice a n c) n (xs.map (Value.int .i64))) : SheetAt w a c xs := by
  refine ⟨own_ballsAt h, fun e => ?_⟩
  rcases h.2 with ⟨h1, h0⟩ | ⟨g, cap, cur, hg, _⟩
  · have := h.1
    rw [List.length_map, h0] at this
    cases h1
    exact ⟨rfl, List.eq_nil_of_length_eq_zero (by omega)⟩
  · cases hg; cases e

theorem rdF_ne {l : Lw} {bs : List Int} : ∀ zs ∈ rdF l bs, 0 < zs.length := by
  unfold rdF
  split
  · rename_i h; exact (recS_rcs h).ne
  · simp

theorem flat_take {F : List (List Int)} {k : Nat} {zs : List Int} (h : F[k]? = some zs) : (F.take (k + 1)).flatten = (F.take k).flatten ++ zs := by
  rw [List.take_add_one, h]; simp

theorem flat_take_le (F : List (List Int)) (k : Nat) : (F.take k).flatten.length ≤ F.flatten.length := by
  have h : F.flatten.length = ((F.take k).flatten ++ (F.drop k).flatten).length := by rw [← List.flatten_append, List.take_append_drop]
  rw [h, List.length_append]
  omega

theorem bit_val {x : Int} (h : 0 ≤ x) : wrap64 (-wrap64 (x.tmod 2)) = 0 ∨ wrap64 (-wrap64 (x.tmod 2)) = -1 := by
  have e : x.tmod 2 = x % 2 := Int.tmod_eq_emod_of_nonneg h
  rw [e]
  rcases (show x % 2 = 0 ∨ x % 2 = 1 by omega) with h1 | h1
  · rw [h1, IntWalk.wrap64_in 0 ⟨by omega, by omega⟩]; exact .inl (IntWalk.wrap64_in _ ⟨by omega, by omega⟩)
  · rw [h1, IntWalk.wrap64_in 1 ⟨by omega, by omega⟩]; exact .inr (IntWalk.wrap64_in _ ⟨by omega, by omega⟩)

theorem flat_ge : ∀ {F : List (List Int)}, (∀ zs ∈ F, 0 < zs.length) → F.length ≤ F.flatten.length
  | [], _ => by simp
  | z :: F, h => by
    have h1 := flat_ge (F := F) (fun zs hz => h zs (List.mem_cons_of_mem _ hz))
    have h2 := h z List.mem_cons_self
    simp only [List.length_cons, List.flatten_cons, List.length_append]
    omega

theorem balls_some {w : World} {a : Option Addr} {xs : List Int} (h : BallsAt w a xs) (h0 : 0 < xs.length) : ∃ g o, a = some ⟨g, o, none⟩ := by
  obtain ⟨g, o, e, _⟩ := h 0 (xs[0]'h0) (List.getElem?_eq_getElem _)
  exact ⟨g, o, e⟩

end Go.Proofs.YtmjbidnlknmcgabDoor
