/- The contract of Told: a lane whose words are made anew. -/
import Derived.Test.YtbbndcfnpfedpaaZa
import Derived.Test.YtbbndcfnpfedpaaYe
set_option linter.unusedVariables false
set_option linter.unusedSimpArgs false
namespace Go.Proofs.Ytbbndcfnpfedpaa
open Go.RowKit Go.Shelf Go.Maps

attribute [local go_sem] Oper.semAt_some

theorem ownsRow_alt2 {W W' : World} {base : Nat} {e : TypeId} {size : Nat} {v : Value} {n : Nat} {xs : List Value} {p : Nat → Prop} (h : W.ownsRow base e size v n xs) (ha : Alt p W W') (hp : ∀ k, v.ownBlock = some k → ¬ p k) : W'.ownsRow base e size v n xs := by
  obtain ⟨h1, h2⟩ := h
  refine ⟨h1, ?_⟩
  rcases h2 with h2 | ⟨g, cap, cur, e1, e2, e3, e4⟩
  · exact .inl h2
  · exact .inr ⟨g, cap, cur, e1, e2, ha.obj e3 (hp g (by rw [e1]; rfl)), e4⟩

/-- A word made anew. -/
def toldX (ns : List Int) (G : List (List Int)) (u : Int) (i : Nat) (x : Wd) : Wd :=
  if bitB u x.te.toNat = true then x else
    ⟨x.fr, x.ba, x.te, max 0 (behN (G.getD x.fr.toNat []) x.ba.toNat - numB ns (3 * i + 2) % (x.mo - x.le + 1)),
      max (behN (G.getD x.fr.toNat []) x.ba.toNat) (min 10 (max 0 (behN (G.getD x.fr.toNat []) x.ba.toNat - numB ns (3 * i + 2) % (x.mo - x.le + 1)) + (x.mo - x.le)))⟩
def toldW (ns : List Int) (G : List (List Int)) (u : Int) (ws : List Wd) : List Wd := ws.mapIdx (toldX ns G u)
theorem toldW_len (ns : List Int) (G : List (List Int)) (u : Int) (ws : List Wd) : (toldW ns G u ws).length = ws.length := by unfold toldW; simp
theorem toldW_next {ns : List Int} {G : List (List Int)} {u : Int} {ws : List Wd} {i : Nat} {x : Wd} (h : ws[i]? = some x) : toldW ns G u (ws.take (i + 1)) = toldW ns G u (ws.take i) ++ [toldX ns G u i x] := by
  unfold toldW
  have hi : (ws.take i).length = i := by rw [List.length_take]; have := (List.getElem?_eq_some_iff.1 h).1; omega
  rw [take_next h, List.mapIdx_concat, hi]
theorem toldW_at {ns : List Int} {G : List (List Int)} {u : Int} {ws : List Wd} {i : Nat} {y : Wd} (h : (toldW ns G u ws)[i]? = some y) : ∃ x, ws[i]? = some x ∧ y = toldX ns G u i x := by
  unfold toldW at h
  rw [List.getElem?_mapIdx] at h
  cases e : ws[i]? with
  | none => rw [e] at h; cases h
  | some x => rw [e] at h; exact ⟨x, rfl, by simpa using h.symm⟩

def NewTold (ns : List Int) (G : List (List Int)) (u : Int) (l : Lan) (w : World) (e : Ending) (w' : World) : Prop :=
  ∃ a c, e = .returned (Lan.val ⟨l.fs, a, c, toldW ns G u l.ws⟩) ∧ WdsAt w' a (toldW ns G u l.ws) ∧ (∀ g o, a = some ⟨g, o, none⟩ → w.heap.size ≤ g ∧ g < w'.heap.size) ∧ Below w.heap.size w w'

/-- What the round stands on: N the box of the argument, N + 1 the result, N + 2 the lane that grows. -/
structure WT (ns : List Int) (G : List (List Int)) (u : Int) (l : Lan) (w W : World) (v : Value) (i : Nat) : Prop where
  bK : Blk W w.heap.size #[.int .i64 l.fs, .slice l.wa l.ws.length l.wc] 24
  bR : Blk W (w.heap.size + 1) #[.int .i64 0, .slice none 0 0] 24
  bO : Blk W (w.heap.size + 1 + 1) #[.int .i64 l.fs, v] 24
  ow : W.ownsRow (w.heap.size + 3) 81 5 v i (wdCells (toldW ns G u (l.ws.take i)))
  bl : Below w.heap.size w W
  sz : w.heap.size + 3 ≤ W.heap.size
/-- Blocks behind all of them turn. -/
theorem WT.hi {ns : List Int} {G : List (List Int)} {u : Int} {l : Lan} {w W W' : World} {v : Value} {i : Nat} {p : Nat → Prop} (h : WT ns G u l w W v i) (hA : Alt p W W') (hp : ∀ k, p k → W.heap.size ≤ k) : WT ns G u l w W' v i :=
  ⟨h.bK.alt hA (fun e => by have := hp _ e; have := h.sz; omega), h.bR.alt hA (fun e => by have := hp _ e; have := h.sz; omega), h.bO.alt hA (fun e => by have := hp _ e; have := h.sz; omega), ownsRow_alt2 h.ow hA (fun k hk e => by have := hp _ e; have := (h.ow.lt k hk).2; omega),
    ((Alt.of_below (p := fun k => w.heap.size ≤ k) h.bl (fun k _ e => e)).trans (hA.mono fun k _ e => by have := hp _ e; have := h.sz; omega)).below (Nat.le_refl _) fun _ e => e, Nat.le_trans h.sz hA.size⟩
theorem WT.hi2 {ns : List Int} {G : List (List Int)} {u : Int} {l : Lan} {w W W' : World} {v : Value} {i : Nat} {p : Nat → Prop} (h : WT ns G u l w W v i) (hA : Alt p W W') (hp : ∀ k, p k → w.heap.size + 3 ≤ k) (ho : ∀ k, v.ownBlock = some k → ¬ p k) : WT ns G u l w W' v i :=
  ⟨h.bK.alt hA (fun e => by have := hp _ e; omega), h.bR.alt hA (fun e => by have := hp _ e; omega), h.bO.alt hA (fun e => by have := hp _ e; omega), ownsRow_alt2 h.ow hA ho,
    ((Alt.of_below (p := fun k => w.heap.size ≤ k) h.bl (fun k _ e => e)).trans (hA.mono fun k _ e => by have := hp _ e; omega)).below (Nat.le_refl _) fun _ e => e, Nat.le_trans h.sz hA.size⟩
theorem WT.step {ns : List Int} {G : List (List Int)} {u : Int} {l : Lan} {w W W1 : World} {v v' : Value} {i : Nat} {o : Obj} {x y : Wd} (h : WT ns G u l w W v i) (hl : l.ws[i]? = some x) (hy : toldX ns G u i x = y)
    (hg : (W.alloc o).grownBy W1 v.ownBlock) (ho : W1.ownsRow (w.heap.size + 3) 81 5 v' (i + 1) (wdCells (toldW ns G u (l.ws.take i)) ++ y.cells)) :
    WT ns G u l w (W1.setCell ⟨w.heap.size + 1 + 1, 1, none⟩ v') v' (i + 1) := by
  have hA : Alt (fun k => w.heap.size + 3 ≤ k) W W1 := ((Alt.refl _ W).alloc o).grown hg fun k e => own_base h.ow e
  have hS : Alt (fun k => k = w.heap.size + 1 + 1) W1 (W1.setCell ⟨w.heap.size + 1 + 1, 1, none⟩ v') := (Alt.refl (fun k => k = w.heap.size + 1 + 1) W1).setCell (q := ⟨w.heap.size + 1 + 1, 1, none⟩) rfl _
  refine ⟨(h.bK.alt hA (by omega)).alt hS (by omega), (h.bR.alt hA (by omega)).alt hS (by omega), ?_, ?_, ?_, ?_⟩
  · exact Blk.setAt (h.bO.alt hA (by omega)) 1 _
  · rw [toldW_next hl, hy, wdCells_snoc]
    exact ownsRow_alt ho hS (fun g hg e => by omega)
  · exact ((Alt.of_below (p := fun k => w.heap.size ≤ k) h.bl (fun k _ e => e)).trans ((hA.mono fun k _ e => by omega).trans (hS.mono fun k _ e => by omega))).below (Nat.le_refl _) fun _ e => e
  · have := h.sz
    have := hA.size
    have := hS.size
    omega

set_option maxRecDepth 100000 in
set_option maxHeartbeats 16000000 in
theorem told_any (ns : List Int) (G : List (List Int)) (u : Int) (l : Lan) (na ga : Option Addr) (nc gc : Nat) (w : World) (hL : WdsAt w l.wa l.ws) (hF : faultW l = 0) (hG : GAt w ga G) (hGl : (G.length : Int) = l.fs) (hGr : ∀ row ∈ G, row.length ≤ 1000 ∧ ∀ x ∈ row, 0 ≤ x ∧ x ≤ 10) (hW : W16 w na ns) (hn : (ns.length : Int) ≤ 9223372036854775807) (hu : 0 ≤ u ∧ u < 256) :
    Calls Try.prog 45 #[l.val, .slice ga G.length gc, .slice na ns.length nc, .int .u8 u] w (NewTold ns G u l w) := by
  have HL := Lib.hid hL
  have HLEN := Lib.hid (show l.ws.length ≤ 30 from (fault0 hF).2.1)
  have hfs := (fault0 hF).2.2
  have HW := Lib.hid (fun x hx => fault_w hF x hx)
  have BH := Lib.hid (fun (f b : Nat) (row : List Int) (hf : G[f]? = some row) (hb : b ≤ 1) W (hB : Below w.heap.size w W) => behind_ref G row f b ga gc W (hG.lo hB) hf (hGr row (List.mem_of_getElem? hf)).2 hb (hGr row (List.mem_of_getElem? hf)).1 (by omega))
  have NU := Lib.hid (fun (k : Nat) (hk : k ≤ 1000000) W (hb : Below w.heap.size w W) => number_any ns k na nc W (hW.lo hb) hk hn)
  have NB := Lib.hid (fun k => numB_in hW.2 k)
  have BN := Lib.hid (fun (row : List Int) (hr : row ∈ G) (b : Nat) (hb : b ≤ 1) => (show -20 ≤ behN row b ∧ behN row b ≤ 10 from by
    have := upTo_in (hGr row hr).2 (b + 1)
    unfold upTo at this
    unfold behN
    omega))
  have HGL := Lib.hid hGl
  obtain ⟨i0, hi0, hy0, hy1, hy2⟩ := info_parts info81
  have K0 := Lib.hid (show WT ns G u l w (((w.alloc (.cells #[.int .i64 l.fs, .slice l.wa l.ws.length l.wc] 24)).alloc (.cells #[.int .i64 0, .slice none 0 0] 24)).alloc (.cells #[.int .i64 l.fs, .slice none 0 0] 24)) (.slice none 0 0) 0 from
    ⟨Blk.alt (p := fun _ => False) (Blk.new w _ _) (((Alt.refl _ _).alloc _).alloc _) id, by
      have := Blk.alt (p := fun _ => False) (Blk.new (w.alloc (.cells #[.int .i64 l.fs, .slice l.wa l.ws.length l.wc] 24)) #[.int .i64 0, .slice none 0 0] 24) ((Alt.refl _ _).alloc (.cells #[.int .i64 l.fs, .slice none 0 0] 24)) id
      rwa [World.size_alloc] at this, by
      have := Blk.new ((w.alloc (.cells #[.int .i64 l.fs, .slice l.wa l.ws.length l.wc] 24)).alloc (.cells #[.int .i64 0, .slice none 0 0] 24)) #[.int .i64 l.fs, .slice none 0 0] 24
      rwa [World.size_alloc, World.size_alloc] at this, ⟨rfl, .inl ⟨rfl, rfl⟩⟩, below_al2 (below_al2 (below_al _ _) _) _, by simp⟩)
  have k00 := (Blk.alt (p := fun _ => False) (Blk.new w #[.int .i64 l.fs, .slice l.wa l.ws.length l.wc] 24) ((Alt.refl _ _).alloc (.cells #[.int .i64 0, .slice none 0 0] 24)) id).cell 0 rfl
  have HU := Lib.hid hu
  unfold Lan.val
  unfold NewTold
  clear hL hF hG hGr hW hn hfs hu hGl
  generalize hGn : G.length = Gn at *
  go_enter Try.func45, Try.ntmps45
  go_wp2_with fail
  generalize ((w.alloc _).alloc _).alloc _ = W0 at K0 ⊢
  clear k00
  go_loopg [10] l.ws.length (fun g s10 wx => ∃ (i : Nat) (v : Value), i ≤ l.ws.length ∧ g = l.ws.length - i ∧ s10 = .int .i64 (i : Int) ∧ Hid (WT ns G u l w wx v i))
  case atStart => exact ⟨0, _, by omega, by omega, rfl, K0⟩
  case round =>
    obtain ⟨i, v, hi, rfl, rfl, hK⟩ := hrel
    clear K0
    have k4 : wr.cell? ⟨w.heap.size, 1, none⟩ = some (.slice l.wa l.ws.length l.wc) := hK.out.bK.cell 1 rfl
    by_cases hlt : i < l.ws.length
    · have hz0 : (0 : Int) ≤ (i : Int) := by omega
      have hz1 : (i : Int) < (l.ws.length : Int) := by omega
      obtain ⟨x, hl⟩ : ∃ x, l.ws[i]? = some x := ⟨l.ws[i]'hlt, List.getElem?_eq_getElem _⟩
      obtain ⟨g, o, hla, k1, k2, k3, k5, k6⟩ := HL.out i _ hl
      have c1 := cell_lo hK.out.bl k1
      have c2 := cell_lo hK.out.bl k2
      have c3 := cell_lo hK.out.bl k3
      have c4 := cell_lo hK.out.bl k5
      have c5 := cell_lo hK.out.bl k6
      have hw := HW.out x (List.mem_of_getElem? hl)
      rw [hla] at k4
      have HNC : Hid (2 * 1000 ≤ maxLen) := Lib.hid (by unfold maxLen; omega)
      have E2 := Lib.hid (show IntKind.i64.wrap ((i : Int) + 1) = (i : Int) + 1 from IntWalk.i64_in _ (by have := HLEN.out; omega))
      have HI := Lib.hid hlt
      have KA := Lib.hid (hK.out.hi ((Alt.refl (fun _ => False) wr).alloc (.cells #[.int .i64 x.fr, .int .i64 x.ba, .int .i64 x.te, .int .i64 x.le, .int .i64 x.mo] 81)) (fun _ h => h.elim))
      have XA := Lib.hid (Blk.new wr #[.int .i64 x.fr, .int .i64 x.ba, .int .i64 x.te, .int .i64 x.le, .int .i64 x.mo] 81)
      have HOB := Lib.hid (show ∀ kk, v.ownBlock = some kk → kk < wr.heap.size from fun kk hk => (hK.out.ow.lt kk hk).2)
      have HWR := Lib.hid (show w.heap.size + 3 ≤ wr.heap.size from hK.out.sz)
      have HBX := Lib.hid (show toldX ns G u i x = (if bitB u x.te.toNat = true then x else
        ⟨x.fr, x.ba, x.te, max 0 (behN (G.getD x.fr.toNat []) x.ba.toNat - numB ns (3 * i + 2) % (x.mo - x.le + 1)),
          max (behN (G.getD x.fr.toNat []) x.ba.toNat) (min 10 (max 0 (behN (G.getD x.fr.toNat []) x.ba.toNat - numB ns (3 * i + 2) % (x.mo - x.le + 1)) + (x.mo - x.le)))⟩) from rfl)
      have HLl := Lib.hid hl
      clear k1 k2 k3 k5 k6 hl hla hK hlt hi
      obtain ⟨fr, ba, te, le, mo⟩ := x
      simp only at c1 c2 c3 c4 c5 KA XA hw HBX
      obtain ⟨⟨hfr0, hfr1⟩, ⟨hba0, hba1⟩, ⟨hte0, hte1⟩, hle0, hle1, hmo⟩ := hw
      obtain ⟨f, rfl⟩ : ∃ f : Nat, fr = (f : Int) := ⟨fr.toNat, by omega⟩
      obtain ⟨b, rfl⟩ : ∃ b : Nat, ba = (b : Int) := ⟨ba.toNat, by omega⟩
      obtain ⟨row, hrow⟩ : ∃ row, G[f]? = some row := ⟨G[f]'(by have := HGL.out; rw [hGn]; omega), List.getElem?_eq_getElem _⟩
      have BH1 := Lib.hid (BH.out f b row hrow (by omega))
      have hbn := BN.out row (List.mem_of_getElem? hrow) b (by omega)
      have hN1 := NB.out (3 * i + 2)
      have NU1 := Lib.hid (NU.out (3 * i + 2) (by have := HLEN.out; have := HI.out; omega))
      have hgd : G.getD (((f : Nat) : Int)).toNat [] = row := by rw [List.getD_eq_getElem?_getD, show (((f : Nat) : Int)).toNat = f by omega, hrow]; rfl
      have hbd : (((b : Nat) : Int)).toNat = b := by omega
      rw [hgd, hbd] at HBX
      generalize behN row b = n at *
      generalize numB ns (3 * i + 2) = q at *
      obtain ⟨wd, hwd⟩ : ∃ wd, Hid (wd = mo - le) := ⟨_, Lib.hid rfl⟩
      rw [← hwd.out] at HBX
      have ewd : IntKind.i64.wrap (mo - le) = wd := by rw [hwd.out]; exact IntWalk.i64_in _ (by omega)
      have hwd0 : 0 ≤ wd ∧ wd ≤ 10 := by rw [hwd.out]; omega
      obtain ⟨wd1, hwd1⟩ : ∃ wd1, Hid (wd1 = wd + 1) := ⟨_, Lib.hid rfl⟩
      rw [← hwd1.out] at HBX
      have ewd1 : IntKind.i64.wrap (wd + 1) = wd1 := by rw [hwd1.out]; exact IntWalk.i64_in _ (by omega)
      have hz3 : (wd1 == 0) = false := beq_eq_false_iff_ne.2 (by have := hwd1.out; omega)
      have hz4 : ¬ wd1 = 0 := by have := hwd1.out; omega
      obtain ⟨r, hr⟩ : ∃ r, Hid (r = q % wd1) := ⟨_, Lib.hid rfl⟩
      rw [← hr.out] at HBX
      have er : Int.tmod q wd1 = r := by rw [hr.out]; exact Int.tmod_eq_emod_of_nonneg hN1.1
      have hr0 : 0 ≤ r ∧ r ≤ 10 := by
        rw [hr.out]
        have h1 := Int.emod_nonneg q hz4
        have h2 := Int.emod_lt_of_pos q (show 0 < wd1 by have := hwd1.out; omega)
        have := hwd1.out
        omega
      obtain ⟨z, hzz⟩ : ∃ z, Hid (z = n - r) := ⟨_, Lib.hid rfl⟩
      rw [← hzz.out] at HBX
      have ez : IntKind.i64.wrap (n - r) = z := by rw [hzz.out]; exact IntWalk.i64_in _ (by omega)
      have hz5 : -30 ≤ z ∧ z ≤ 10 := by rw [hzz.out]; omega
      obtain ⟨le2, hle2⟩ : ∃ le2, Hid (le2 = max 0 z) := ⟨_, Lib.hid rfl⟩
      rw [← hle2.out] at HBX
      have hl2 : 0 ≤ le2 ∧ le2 ≤ 10 := by rw [hle2.out]; omega
      have em1 : (if 0 < z then z else 0) = le2 := by rw [hle2.out]; split <;> omega
      have em1' : (if z < 0 then 0 else z) = le2 := by rw [hle2.out]; split <;> omega
      obtain ⟨s, hs⟩ : ∃ s, Hid (s = le2 + wd) := ⟨_, Lib.hid rfl⟩
      rw [← hs.out] at HBX
      have es : IntKind.i64.wrap (le2 + wd) = s := by rw [hs.out]; exact IntWalk.i64_in _ (by omega)
      obtain ⟨m1, hm1⟩ : ∃ m1, Hid (m1 = min 10 s) := ⟨_, Lib.hid rfl⟩
      rw [← hm1.out] at HBX
      have em2 : (if s < 10 then s else 10) = m1 := by rw [hm1.out]; split <;> omega
      have em2' : (if 10 < s then 10 else s) = m1 := by rw [hm1.out]; split <;> omega
      obtain ⟨mo2, hmo2⟩ : ∃ mo2, Hid (mo2 = max n m1) := ⟨_, Lib.hid rfl⟩
      rw [← hmo2.out] at HBX
      have em3 : (if n < m1 then m1 else n) = mo2 := by rw [hmo2.out]; split <;> omega
      have em3' : (if m1 < n then n else m1) = mo2 := by rw [hmo2.out]; split <;> omega
      obtain ⟨k3, hk3⟩ : ∃ k3 : Nat, Hid (k3 = 3 * i + 2) := ⟨_, Lib.hid rfl⟩
      rw [← hk3.out] at NU1
      have e31 : IntKind.i64.wrap (3 * (i : Int)) = 3 * (i : Int) := IntWalk.i64_in _ (by have := HLEN.out; have := HI.out; omega)
      have e32 : IntKind.i64.wrap (3 * (i : Int) + 2) = (k3 : Int) := by rw [show (k3 : Int) = 3 * (i : Int) + 2 by have := hk3.out; omega]; exact IntWalk.i64_in _ (by have := HLEN.out; have := HI.out; omega)
      have HEM := Lib.hid (And.intro em1 (And.intro em1' (And.intro em2 (And.intro em2' (And.intro em3 em3')))))
      have HEW := Lib.hid (And.intro ewd (And.intro ewd1 (And.intro er (And.intro ez (And.intro es (And.intro e31 (And.intro e32 (And.intro hz3 hz4))))))))
      clear hgd hbd hfr0 hfr1 hba0 hba1 hle0 hle1 hmo hrow hbn hN1 hwd0 hr0 hz5 hl2 em1 em1' em2 em2' em3 em3' ewd ewd1 er ez es e31 e32 hz3 hz4
      have ho4 : (te = 0 ∨ te = 1) ∨ (te = 2 ∨ te = 3) := by omega
      clear hte0 hte1
      rcases ho4 with (rfl | rfl) | (rfl | rfl)
      · have hbit : bitB u ((((0 : Nat) : Int)).toNat) = decide (u / 1 % 2 = 1) := by unfold bitB; rfl
        have hte : ((0 : Int)).toNat = 0 := rfl
        by_cases hb : u / 1 % 2 = 1
        · have HY : Hid (toldX ns G u i ⟨(f : Int), (b : Int), 0, le, mo⟩ = ⟨(f : Int), (b : Int), 0, le, mo⟩) := Lib.hid (by rw [HBX.out, if_pos]; exact decide_eq_true hb)
          have KW := KA
          have ST := Lib.hid (fun W1 v' (hg : ((wr.alloc (.cells #[.int .i64 (f : Int), .int .i64 (b : Int), .int .i64 0, .int .i64 le, .int .i64 mo] 81)).alloc (.cells #[.int .i64 (f : Int), .int .i64 (b : Int), .int .i64 0, .int .i64 le, .int .i64 mo] 81)).grownBy W1 v.ownBlock) ho => KW.out.step (v' := v') HLl.out HY.out hg ho)
          have SA := Lib.hid (fun W1 (hg : ((wr.alloc (.cells #[.int .i64 (f : Int), .int .i64 (b : Int), .int .i64 0, .int .i64 le, .int .i64 mo] 81)).alloc (.cells #[.int .i64 (f : Int), .int .i64 (b : Int), .int .i64 0, .int .i64 le, .int .i64 mo] 81)).grownBy W1 v.ownBlock) => (⟨(KW.out.bO.alt (((Alt.refl (fun k => w.heap.size + 3 ≤ k) _).alloc _).grown hg fun k e => own_base KW.out.ow e) (by omega)).fr 1, (KW.out.bO.alt (((Alt.refl (fun k => w.heap.size + 3 ≤ k) _).alloc _).grown hg fun k e => own_base KW.out.ow e) (by omega)).cell 1 rfl⟩ : W1.frozen? ⟨w.heap.size + 1 + 1, 1, none⟩ = false ∧ W1.cell? ⟨w.heap.size + 1 + 1, 1, none⟩ = some v))
          have o4 := KA.out.bO.cell 1 (show _ = some v from rfl)
          have e2 := E2.out
          have hd1 : Int.tmod (u) 2 = 1 := by rw [Int.tmod_eq_emod_of_nonneg (by have := HU.out; omega)]; omega
          have hd3 : u < 256 ∧ 0 ≤ u := by have := HU.out; omega
          clear hbit hte BH1 NU1
          go_wp2_with (at_builtin; go_must (refine wpList_append_own_at _ rfl _ _ 22 rfl (w.heap.size + 3) 81 i0 _ 5 40 Try.underlying22 hi0 hy0 hy1 hy2 rfl (by decide) v i (wdCells (toldW ns G u (l.ws.take i))) rfl (KW.out.ow.alloc _) ⟨wr.heap.size + 1, 0, none⟩ 1 1 (Wd.cells ⟨(f : Int), (b : Int), 0, le, mo⟩) rfl (by rfl) (by first | exact World.news_of_block (cs := #[.int .i64 (f : Int), .int .i64 (b : Int), .int .i64 0, .int .i64 le, .int .i64 mo]) (t := 81) (fr := (0, 0)) (by simpa using heap_alloc_new (wr.alloc (.cells #[.int .i64 (f : Int), .int .i64 (b : Int), .int .i64 0, .int .i64 le, .int .i64 mo] 81)) _) | fail "news") (by simp [Value.oneCell', Wd.cells]) (by have := HNC.out; have := HLEN.out; have := HI.out; omega) (by have := HLEN.out; have := HI.out; omega) (by have h9 := KW.out.sz; simp at h9 ⊢; omega) ?_); intro v' w1 hown' hgrow hnil hloc; obtain ⟨gA, capA, hvA, _, _⟩ := hown'.form (by omega); subst hvA; have KN := Lib.hid (ST.out w1 _ hgrow hown'); have zA := (SA.out w1 hgrow).1; have cA := (SA.out w1 hgrow).2; clear hown' hgrow hnil hloc)
          clear o4 c1 c2 c3 c4 c5 k4
          generalize World.setCell _ _ _ = w9 at KN ⊢
          clear zA cA
          go_wp2_with fail
          go_roundg (l.ws.length - (i + 1))
          case measure => have := HI.out; omega
          case rel => exact ⟨i + 1, _, by have := HI.out; omega, rfl, by simp, KN⟩
        · have hb0 : u / 1 % 2 = 0 := by omega
          have HY : Hid (toldX ns G u i ⟨(f : Int), (b : Int), 0, le, mo⟩ = ⟨(f : Int), (b : Int), 0, le2, mo2⟩) := Lib.hid (by rw [HBX.out, if_neg]; intro h; exact hb (of_decide_eq_true h))
          have hd2 : Int.tmod (u) 2 = 0 := by rw [Int.tmod_eq_emod_of_nonneg (by have := HU.out; omega)]; omega
          clear hbit hte hb
          go_wp2_with fail
          clear c1 c2 c3 c4 c5 k4 hb0 hd2
          generalize hwr2 : wr.alloc _ = wr2 at KA XA ⊢
          have m0 := fun u : Late wr2 => u.cell (XA.out.cell 0 (show _ = some (Value.int .i64 (f : Int)) from rfl)) XA.out.lt
          have m1 := fun u : Late wr2 => u.cell (XA.out.cell 1 (show _ = some (Value.int .i64 (b : Int)) from rfl)) XA.out.lt
          have m3 := fun u : Late wr2 => u.cell (XA.out.cell 3 (show _ = some (Value.int .i64 le) from rfl)) XA.out.lt
          have m4 := fun u : Late wr2 => u.cell (XA.out.cell 4 (show _ = some (Value.int .i64 mo) from rfl)) XA.out.lt
          have BHU := Lib.hid (fun u : Late wr2 => BH1.out u.W (below_go KA.out.bl u.b))
          obtain ⟨ewd, ewd1, er, ez, es, e31, e32, hz3, hz4⟩ := HEW.out
          refine wp_region_late wr2 (Below.refl _ _) (by kernel_rfl) (by kernel_rfl) ?_
          repeat (go_big_quiet_step ((first | (go_at_call 47; exact Calls.late (BHU.out _)))))
          refine wpQuiet_nil ?_
          intro _ hw'
          obtain ⟨uq, hw''⟩ := hw'
          subst hw''
          clear m0 m1 m3 m4 hwr2
          have KU := Lib.hid (KA.out.hi (Alt.of_below (p := fun _ => False) uq.b (fun k hk e => by omega)) (fun _ h => h.elim))
          have XU := Lib.hid (Blk.alt (p := fun _ => False) XA.out (Alt.of_below uq.b (fun k hk e => by omega)) id)
          have NU2 := Lib.hid (NU1.out uq.W KU.out.bl)
          go_wp2_with fail
          refine NU2.out.mono ?_
          rintro e w5 ⟨rfl, rfl⟩
          obtain ⟨em1, em1', em2, em2', em3, em3'⟩ := HEM.out
          have B1 := Lib.hid (Blk.setAt XU.out 3 (.int .i64 le2))
          have B2 := Lib.hid (Blk.setAt B1.out 4 (.int .i64 mo2))
          have f3 := XU.out.fr 3
          have q3 := XU.out.cell 3 (show _ = some (Value.int .i64 le) from rfl)
          have f4 := B1.out.fr 4
          have q4 := B1.out.cell 3 (show _ = some (Value.int .i64 le2) from rfl)
          have q4b := B1.out.cell 4 (show _ = some (Value.int .i64 mo) from rfl)
          have r0 := B2.out.cell 0 (show _ = some (Value.int .i64 (f : Int)) from rfl)
          have r1 := B2.out.cell 1 (show _ = some (Value.int .i64 (b : Int)) from rfl)
          have r2 := B2.out.cell 2 (show _ = some (Value.int .i64 0) from rfl)
          have r3 := B2.out.cell 3 (show _ = some (Value.int .i64 le2) from rfl)
          have r4 := B2.out.cell 4 (show _ = some (Value.int .i64 mo2) from rfl)
          have KW := Lib.hid (KU.out.hi2 (((Alt.refl (fun k => k = wr.heap.size) uq.W).setCell (q := ⟨wr.heap.size, 3, none⟩) rfl (.int .i64 le2)).setCell (q := ⟨wr.heap.size, 4, none⟩) rfl (.int .i64 mo2)) (fun k e => by have := HWR.out; omega) (fun k hk e => by have := HOB.out k hk; omega))
          have ST := Lib.hid (fun W1 v' (hg : (((uq.W.setCell ⟨wr.heap.size, 3, none⟩ (.int .i64 le2)).setCell ⟨wr.heap.size, 4, none⟩ (.int .i64 mo2)).alloc (.cells #[.int .i64 (f : Int), .int .i64 (b : Int), .int .i64 0, .int .i64 le2, .int .i64 mo2] 81)).grownBy W1 v.ownBlock) ho => KW.out.step (v' := v') HLl.out HY.out hg ho)
          have SA := Lib.hid (fun W1 (hg : (((uq.W.setCell ⟨wr.heap.size, 3, none⟩ (.int .i64 le2)).setCell ⟨wr.heap.size, 4, none⟩ (.int .i64 mo2)).alloc (.cells #[.int .i64 (f : Int), .int .i64 (b : Int), .int .i64 0, .int .i64 le2, .int .i64 mo2] 81)).grownBy W1 v.ownBlock) => (⟨(KW.out.bO.alt (((Alt.refl (fun k => w.heap.size + 3 ≤ k) _).alloc _).grown hg fun k e => own_base KW.out.ow e) (by omega)).fr 1, (KW.out.bO.alt (((Alt.refl (fun k => w.heap.size + 3 ≤ k) _).alloc _).grown hg fun k e => own_base KW.out.ow e) (by omega)).cell 1 rfl⟩ : W1.frozen? ⟨w.heap.size + 1 + 1, 1, none⟩ = false ∧ W1.cell? ⟨w.heap.size + 1 + 1, 1, none⟩ = some v))
          have o4 := KW.out.bO.cell 1 (show _ = some v from rfl)
          have e2 := E2.out
          go_wp2_with (at_builtin; go_must (refine wpList_append_own_at _ rfl _ _ 22 rfl (w.heap.size + 3) 81 i0 _ 5 40 Try.underlying22 hi0 hy0 hy1 hy2 rfl (by decide) v i (wdCells (toldW ns G u (l.ws.take i))) rfl (KW.out.ow.alloc _) ⟨uq.W.heap.size, 0, none⟩ 1 1 (Wd.cells ⟨(f : Int), (b : Int), 0, le2, mo2⟩) rfl (by rfl) (by first | exact World.news_of_block (cs := #[.int .i64 (f : Int), .int .i64 (b : Int), .int .i64 0, .int .i64 le2, .int .i64 mo2]) (t := 81) (fr := (0, 0)) (by simpa using heap_alloc_new ((uq.W.setCell ⟨wr.heap.size, 3, none⟩ (.int .i64 le2)).setCell ⟨wr.heap.size, 4, none⟩ (.int .i64 mo2)) _) | fail "news") (by simp [Value.oneCell', Wd.cells]) (by have := HNC.out; have := HLEN.out; have := HI.out; omega) (by have := HLEN.out; have := HI.out; omega) (by have h9 := KW.out.sz; simp at h9 ⊢; omega) ?_); intro v' w1 hown' hgrow hnil hloc; obtain ⟨gA, capA, hvA, _, _⟩ := hown'.form (by omega); subst hvA; have KN := Lib.hid (ST.out w1 _ hgrow hown'); have zA := (SA.out w1 hgrow).1; have cA := (SA.out w1 hgrow).2; clear hown' hgrow hnil hloc)
          clear o4 r0 r1 r2 r3 r4 q3 q4 q4b f3 f4
          generalize World.setCell _ _ _ = w9 at KN ⊢
          clear zA cA
          go_wp2_with fail
          go_roundg (l.ws.length - (i + 1))
          case measure => have := HI.out; omega
          case rel => exact ⟨i + 1, _, by have := HI.out; omega, rfl, by simp, KN⟩
      · have hbit : bitB u ((((1 : Nat) : Int)).toNat) = decide (u / 2 % 2 = 1) := by unfold bitB; rfl
        have hte : ((1 : Int)).toNat = 1 := rfl
        by_cases hb : u / 2 % 2 = 1
        · have HY : Hid (toldX ns G u i ⟨(f : Int), (b : Int), 1, le, mo⟩ = ⟨(f : Int), (b : Int), 1, le, mo⟩) := Lib.hid (by rw [HBX.out, if_pos]; exact decide_eq_true hb)
          have KW := KA
          have ST := Lib.hid (fun W1 v' (hg : ((wr.alloc (.cells #[.int .i64 (f : Int), .int .i64 (b : Int), .int .i64 1, .int .i64 le, .int .i64 mo] 81)).alloc (.cells #[.int .i64 (f : Int), .int .i64 (b : Int), .int .i64 1, .int .i64 le, .int .i64 mo] 81)).grownBy W1 v.ownBlock) ho => KW.out.step (v' := v') HLl.out HY.out hg ho)
          have SA := Lib.hid (fun W1 (hg : ((wr.alloc (.cells #[.int .i64 (f : Int), .int .i64 (b : Int), .int .i64 1, .int .i64 le, .int .i64 mo] 81)).alloc (.cells #[.int .i64 (f : Int), .int .i64 (b : Int), .int .i64 1, .int .i64 le, .int .i64 mo] 81)).grownBy W1 v.ownBlock) => (⟨(KW.out.bO.alt (((Alt.refl (fun k => w.heap.size + 3 ≤ k) _).alloc _).grown hg fun k e => own_base KW.out.ow e) (by omega)).fr 1, (KW.out.bO.alt (((Alt.refl (fun k => w.heap.size + 3 ≤ k) _).alloc _).grown hg fun k e => own_base KW.out.ow e) (by omega)).cell 1 rfl⟩ : W1.frozen? ⟨w.heap.size + 1 + 1, 1, none⟩ = false ∧ W1.cell? ⟨w.heap.size + 1 + 1, 1, none⟩ = some v))
          have o4 := KA.out.bO.cell 1 (show _ = some v from rfl)
          have e2 := E2.out
          have hd1 : Int.tmod (u / 2) 2 = 1 := by rw [Int.tmod_eq_emod_of_nonneg (by have := HU.out; omega)]; omega
          have hd3 : u < 256 ∧ 0 ≤ u := by have := HU.out; omega
          clear hbit hte BH1 NU1
          go_wp2_with (at_builtin; go_must (refine wpList_append_own_at _ rfl _ _ 22 rfl (w.heap.size + 3) 81 i0 _ 5 40 Try.underlying22 hi0 hy0 hy1 hy2 rfl (by decide) v i (wdCells (toldW ns G u (l.ws.take i))) rfl (KW.out.ow.alloc _) ⟨wr.heap.size + 1, 0, none⟩ 1 1 (Wd.cells ⟨(f : Int), (b : Int), 1, le, mo⟩) rfl (by rfl) (by first | exact World.news_of_block (cs := #[.int .i64 (f : Int), .int .i64 (b : Int), .int .i64 1, .int .i64 le, .int .i64 mo]) (t := 81) (fr := (0, 0)) (by simpa using heap_alloc_new (wr.alloc (.cells #[.int .i64 (f : Int), .int .i64 (b : Int), .int .i64 1, .int .i64 le, .int .i64 mo] 81)) _) | fail "news") (by simp [Value.oneCell', Wd.cells]) (by have := HNC.out; have := HLEN.out; have := HI.out; omega) (by have := HLEN.out; have := HI.out; omega) (by have h9 := KW.out.sz; simp at h9 ⊢; omega) ?_); intro v' w1 hown' hgrow hnil hloc; obtain ⟨gA, capA, hvA, _, _⟩ := hown'.form (by omega); subst hvA; have KN := Lib.hid (ST.out w1 _ hgrow hown'); have zA := (SA.out w1 hgrow).1; have cA := (SA.out w1 hgrow).2; clear hown' hgrow hnil hloc)
          clear o4 c1 c2 c3 c4 c5 k4
          generalize World.setCell _ _ _ = w9 at KN ⊢
          clear zA cA
          go_wp2_with fail
          go_roundg (l.ws.length - (i + 1))
          case measure => have := HI.out; omega
          case rel => exact ⟨i + 1, _, by have := HI.out; omega, rfl, by simp, KN⟩
        · have hb0 : u / 2 % 2 = 0 := by omega
          have HY : Hid (toldX ns G u i ⟨(f : Int), (b : Int), 1, le, mo⟩ = ⟨(f : Int), (b : Int), 1, le2, mo2⟩) := Lib.hid (by rw [HBX.out, if_neg]; intro h; exact hb (of_decide_eq_true h))
          have hd2 : Int.tmod (u / 2) 2 = 0 := by rw [Int.tmod_eq_emod_of_nonneg (by have := HU.out; omega)]; omega
          clear hbit hte hb
          go_wp2_with fail
          clear c1 c2 c3 c4 c5 k4 hb0 hd2
          generalize hwr2 : wr.alloc _ = wr2 at KA XA ⊢
          have m0 := fun u : Late wr2 => u.cell (XA.out.cell 0 (show _ = some (Value.int .i64 (f : Int)) from rfl)) XA.out.lt
          have m1 := fun u : Late wr2 => u.cell (XA.out.cell 1 (show _ = some (Value.int .i64 (b : Int)) from rfl)) XA.out.lt
          have m3 := fun u : Late wr2 => u.cell (XA.out.cell 3 (show _ = some (Value.int .i64 le) from rfl)) XA.out.lt
          have m4 := fun u : Late wr2 => u.cell (XA.out.cell 4 (show _ = some (Value.int .i64 mo) from rfl)) XA.out.lt
          have BHU := Lib.hid (fun u : Late wr2 => BH1.out u.W (below_go KA.out.bl u.b))
          obtain ⟨ewd, ewd1, er, ez, es, e31, e32, hz3, hz4⟩ := HEW.out
          refine wp_region_late wr2 (Below.refl _ _) (by kernel_rfl) (by kernel_rfl) ?_
          repeat (go_big_quiet_step ((first | (go_at_call 47; exact Calls.late (BHU.out _)))))
          refine wpQuiet_nil ?_
          intro _ hw'
          obtain ⟨uq, hw''⟩ := hw'
          subst hw''
          clear m0 m1 m3 m4 hwr2
          have KU := Lib.hid (KA.out.hi (Alt.of_below (p := fun _ => False) uq.b (fun k hk e => by omega)) (fun _ h => h.elim))
          have XU := Lib.hid (Blk.alt (p := fun _ => False) XA.out (Alt.of_below uq.b (fun k hk e => by omega)) id)
          have NU2 := Lib.hid (NU1.out uq.W KU.out.bl)
          go_wp2_with fail
          refine NU2.out.mono ?_
          rintro e w5 ⟨rfl, rfl⟩
          obtain ⟨em1, em1', em2, em2', em3, em3'⟩ := HEM.out
          have B1 := Lib.hid (Blk.setAt XU.out 3 (.int .i64 le2))
          have B2 := Lib.hid (Blk.setAt B1.out 4 (.int .i64 mo2))
          have f3 := XU.out.fr 3
          have q3 := XU.out.cell 3 (show _ = some (Value.int .i64 le) from rfl)
          have f4 := B1.out.fr 4
          have q4 := B1.out.cell 3 (show _ = some (Value.int .i64 le2) from rfl)
          have q4b := B1.out.cell 4 (show _ = some (Value.int .i64 mo) from rfl)
          have r0 := B2.out.cell 0 (show _ = some (Value.int .i64 (f : Int)) from rfl)
          have r1 := B2.out.cell 1 (show _ = some (Value.int .i64 (b : Int)) from rfl)
          have r2 := B2.out.cell 2 (show _ = some (Value.int .i64 1) from rfl)
          have r3 := B2.out.cell 3 (show _ = some (Value.int .i64 le2) from rfl)
          have r4 := B2.out.cell 4 (show _ = some (Value.int .i64 mo2) from rfl)
          have KW := Lib.hid (KU.out.hi2 (((Alt.refl (fun k => k = wr.heap.size) uq.W).setCell (q := ⟨wr.heap.size, 3, none⟩) rfl (.int .i64 le2)).setCell (q := ⟨wr.heap.size, 4, none⟩) rfl (.int .i64 mo2)) (fun k e => by have := HWR.out; omega) (fun k hk e => by have := HOB.out k hk; omega))
          have ST := Lib.hid (fun W1 v' (hg : (((uq.W.setCell ⟨wr.heap.size, 3, none⟩ (.int .i64 le2)).setCell ⟨wr.heap.size, 4, none⟩ (.int .i64 mo2)).alloc (.cells #[.int .i64 (f : Int), .int .i64 (b : Int), .int .i64 1, .int .i64 le2, .int .i64 mo2] 81)).grownBy W1 v.ownBlock) ho => KW.out.step (v' := v') HLl.out HY.out hg ho)
          have SA := Lib.hid (fun W1 (hg : (((uq.W.setCell ⟨wr.heap.size, 3, none⟩ (.int .i64 le2)).setCell ⟨wr.heap.size, 4, none⟩ (.int .i64 mo2)).alloc (.cells #[.int .i64 (f : Int), .int .i64 (b : Int), .int .i64 1, .int .i64 le2, .int .i64 mo2] 81)).grownBy W1 v.ownBlock) => (⟨(KW.out.bO.alt (((Alt.refl (fun k => w.heap.size + 3 ≤ k) _).alloc _).grown hg fun k e => own_base KW.out.ow e) (by omega)).fr 1, (KW.out.bO.alt (((Alt.refl (fun k => w.heap.size + 3 ≤ k) _).alloc _).grown hg fun k e => own_base KW.out.ow e) (by omega)).cell 1 rfl⟩ : W1.frozen? ⟨w.heap.size + 1 + 1, 1, none⟩ = false ∧ W1.cell? ⟨w.heap.size + 1 + 1, 1, none⟩ = some v))
          have o4 := KW.out.bO.cell 1 (show _ = some v from rfl)
          have e2 := E2.out
          go_wp2_with (at_builtin; go_must (refine wpList_append_own_at _ rfl _ _ 22 rfl (w.heap.size + 3) 81 i0 _ 5 40 Try.underlying22 hi0 hy0 hy1 hy2 rfl (by decide) v i (wdCells (toldW ns G u (l.ws.take i))) rfl (KW.out.ow.alloc _) ⟨uq.W.heap.size, 0, none⟩ 1 1 (Wd.cells ⟨(f : Int), (b : Int), 1, le2, mo2⟩) rfl (by rfl) (by first | exact World.news_of_block (cs := #[.int .i64 (f : Int), .int .i64 (b : Int), .int .i64 1, .int .i64 le2, .int .i64 mo2]) (t := 81) (fr := (0, 0)) (by simpa using heap_alloc_new ((uq.W.setCell ⟨wr.heap.size, 3, none⟩ (.int .i64 le2)).setCell ⟨wr.heap.size, 4, none⟩ (.int .i64 mo2)) _) | fail "news") (by simp [Value.oneCell', Wd.cells]) (by have := HNC.out; have := HLEN.out; have := HI.out; omega) (by have := HLEN.out; have := HI.out; omega) (by have h9 := KW.out.sz; simp at h9 ⊢; omega) ?_); intro v' w1 hown' hgrow hnil hloc; obtain ⟨gA, capA, hvA, _, _⟩ := hown'.form (by omega); subst hvA; have KN := Lib.hid (ST.out w1 _ hgrow hown'); have zA := (SA.out w1 hgrow).1; have cA := (SA.out w1 hgrow).2; clear hown' hgrow hnil hloc)
          clear o4 r0 r1 r2 r3 r4 q3 q4 q4b f3 f4
          generalize World.setCell _ _ _ = w9 at KN ⊢
          clear zA cA
          go_wp2_with fail
          go_roundg (l.ws.length - (i + 1))
          case measure => have := HI.out; omega
          case rel => exact ⟨i + 1, _, by have := HI.out; omega, rfl, by simp, KN⟩
      · have hbit : bitB u ((((2 : Nat) : Int)).toNat) = decide (u / 4 % 2 = 1) := by unfold bitB; rfl
        have hte : ((2 : Int)).toNat = 2 := rfl
        by_cases hb : u / 4 % 2 = 1
        · have HY : Hid (toldX ns G u i ⟨(f : Int), (b : Int), 2, le, mo⟩ = ⟨(f : Int), (b : Int), 2, le, mo⟩) := Lib.hid (by rw [HBX.out, if_pos]; exact decide_eq_true hb)
          have KW := KA
          have ST := Lib.hid (fun W1 v' (hg : ((wr.alloc (.cells #[.int .i64 (f : Int), .int .i64 (b : Int), .int .i64 2, .int .i64 le, .int .i64 mo] 81)).alloc (.cells #[.int .i64 (f : Int), .int .i64 (b : Int), .int .i64 2, .int .i64 le, .int .i64 mo] 81)).grownBy W1 v.ownBlock) ho => KW.out.step (v' := v') HLl.out HY.out hg ho)
          have SA := Lib.hid (fun W1 (hg : ((wr.alloc (.cells #[.int .i64 (f : Int), .int .i64 (b : Int), .int .i64 2, .int .i64 le, .int .i64 mo] 81)).alloc (.cells #[.int .i64 (f : Int), .int .i64 (b : Int), .int .i64 2, .int .i64 le, .int .i64 mo] 81)).grownBy W1 v.ownBlock) => (⟨(KW.out.bO.alt (((Alt.refl (fun k => w.heap.size + 3 ≤ k) _).alloc _).grown hg fun k e => own_base KW.out.ow e) (by omega)).fr 1, (KW.out.bO.alt (((Alt.refl (fun k => w.heap.size + 3 ≤ k) _).alloc _).grown hg fun k e => own_base KW.out.ow e) (by omega)).cell 1 rfl⟩ : W1.frozen? ⟨w.heap.size + 1 + 1, 1, none⟩ = false ∧ W1.cell? ⟨w.heap.size + 1 + 1, 1, none⟩ = some v))
          have o4 := KA.out.bO.cell 1 (show _ = some v from rfl)
          have e2 := E2.out
          have hd1 : Int.tmod (u / 4) 2 = 1 := by rw [Int.tmod_eq_emod_of_nonneg (by have := HU.out; omega)]; omega
          have hd3 : u < 256 ∧ 0 ≤ u := by have := HU.out; omega
          clear hbit hte BH1 NU1
          go_wp2_with (at_builtin; go_must (refine wpList_append_own_at _ rfl _ _ 22 rfl (w.heap.size + 3) 81 i0 _ 5 40 Try.underlying22 hi0 hy0 hy1 hy2 rfl (by decide) v i (wdCells (toldW ns G u (l.ws.take i))) rfl (KW.out.ow.alloc _) ⟨wr.heap.size + 1, 0, none⟩ 1 1 (Wd.cells ⟨(f : Int), (b : Int), 2, le, mo⟩) rfl (by rfl) (by first | exact World.news_of_block (cs := #[.int .i64 (f : Int), .int .i64 (b : Int), .int .i64 2, .int .i64 le, .int .i64 mo]) (t := 81) (fr := (0, 0)) (by simpa using heap_alloc_new (wr.alloc (.cells #[.int .i64 (f : Int), .int .i64 (b : Int), .int .i64 2, .int .i64 le, .int .i64 mo] 81)) _) | fail "news") (by simp [Value.oneCell', Wd.cells]) (by have := HNC.out; have := HLEN.out; have := HI.out; omega) (by have := HLEN.out; have := HI.out; omega) (by have h9 := KW.out.sz; simp at h9 ⊢; omega) ?_); intro v' w1 hown' hgrow hnil hloc; obtain ⟨gA, capA, hvA, _, _⟩ := hown'.form (by omega); subst hvA; have KN := Lib.hid (ST.out w1 _ hgrow hown'); have zA := (SA.out w1 hgrow).1; have cA := (SA.out w1 hgrow).2; clear hown' hgrow hnil hloc)
          clear o4 c1 c2 c3 c4 c5 k4
          generalize World.setCell _ _ _ = w9 at KN ⊢
          clear zA cA
          go_wp2_with fail
          go_roundg (l.ws.length - (i + 1))
          case measure => have := HI.out; omega
          case rel => exact ⟨i + 1, _, by have := HI.out; omega, rfl, by simp, KN⟩
        · have hb0 : u / 4 % 2 = 0 := by omega
          have HY : Hid (toldX ns G u i ⟨(f : Int), (b : Int), 2, le, mo⟩ = ⟨(f : Int), (b : Int), 2, le2, mo2⟩) := Lib.hid (by rw [HBX.out, if_neg]; intro h; exact hb (of_decide_eq_true h))
          have hd2 : Int.tmod (u / 4) 2 = 0 := by rw [Int.tmod_eq_emod_of_nonneg (by have := HU.out; omega)]; omega
          clear hbit hte hb
          go_wp2_with fail
          clear c1 c2 c3 c4 c5 k4 hb0 hd2
          generalize hwr2 : wr.alloc _ = wr2 at KA XA ⊢
          have m0 := fun u : Late wr2 => u.cell (XA.out.cell 0 (show _ = some (Value.int .i64 (f : Int)) from rfl)) XA.out.lt
          have m1 := fun u : Late wr2 => u.cell (XA.out.cell 1 (show _ = some (Value.int .i64 (b : Int)) from rfl)) XA.out.lt
          have m3 := fun u : Late wr2 => u.cell (XA.out.cell 3 (show _ = some (Value.int .i64 le) from rfl)) XA.out.lt
          have m4 := fun u : Late wr2 => u.cell (XA.out.cell 4 (show _ = some (Value.int .i64 mo) from rfl)) XA.out.lt
          have BHU := Lib.hid (fun u : Late wr2 => BH1.out u.W (below_go KA.out.bl u.b))
          obtain ⟨ewd, ewd1, er, ez, es, e31, e32, hz3, hz4⟩ := HEW.out
          refine wp_region_late wr2 (Below.refl _ _) (by kernel_rfl) (by kernel_rfl) ?_
          repeat (go_big_quiet_step ((first | (go_at_call 47; exact Calls.late (BHU.out _)))))
          refine wpQuiet_nil ?_
          intro _ hw'
          obtain ⟨uq, hw''⟩ := hw'
          subst hw''
          clear m0 m1 m3 m4 hwr2
          have KU := Lib.hid (KA.out.hi (Alt.of_below (p := fun _ => False) uq.b (fun k hk e => by omega)) (fun _ h => h.elim))
          have XU := Lib.hid (Blk.alt (p := fun _ => False) XA.out (Alt.of_below uq.b (fun k hk e => by omega)) id)
          have NU2 := Lib.hid (NU1.out uq.W KU.out.bl)
          go_wp2_with fail
          refine NU2.out.mono ?_
          rintro e w5 ⟨rfl, rfl⟩
          obtain ⟨em1, em1', em2, em2', em3, em3'⟩ := HEM.out
          have B1 := Lib.hid (Blk.setAt XU.out 3 (.int .i64 le2))
          have B2 := Lib.hid (Blk.setAt B1.out 4 (.int .i64 mo2))
          have f3 := XU.out.fr 3
          have q3 := XU.out.cell 3 (show _ = some (Value.int .i64 le) from rfl)
          have f4 := B1.out.fr 4
          have q4 := B1.out.cell 3 (show _ = some (Value.int .i64 le2) from rfl)
          have q4b := B1.out.cell 4 (show _ = some (Value.int .i64 mo) from rfl)
          have r0 := B2.out.cell 0 (show _ = some (Value.int .i64 (f : Int)) from rfl)
          have r1 := B2.out.cell 1 (show _ = some (Value.int .i64 (b : Int)) from rfl)
          have r2 := B2.out.cell 2 (show _ = some (Value.int .i64 2) from rfl)
          have r3 := B2.out.cell 3 (show _ = some (Value.int .i64 le2) from rfl)
          have r4 := B2.out.cell 4 (show _ = some (Value.int .i64 mo2) from rfl)
          have KW := Lib.hid (KU.out.hi2 (((Alt.refl (fun k => k = wr.heap.size) uq.W).setCell (q := ⟨wr.heap.size, 3, none⟩) rfl (.int .i64 le2)).setCell (q := ⟨wr.heap.size, 4, none⟩) rfl (.int .i64 mo2)) (fun k e => by have := HWR.out; omega) (fun k hk e => by have := HOB.out k hk; omega))
          have ST := Lib.hid (fun W1 v' (hg : (((uq.W.setCell ⟨wr.heap.size, 3, none⟩ (.int .i64 le2)).setCell ⟨wr.heap.size, 4, none⟩ (.int .i64 mo2)).alloc (.cells #[.int .i64 (f : Int), .int .i64 (b : Int), .int .i64 2, .int .i64 le2, .int .i64 mo2] 81)).grownBy W1 v.ownBlock) ho => KW.out.step (v' := v') HLl.out HY.out hg ho)
          have SA := Lib.hid (fun W1 (hg : (((uq.W.setCell ⟨wr.heap.size, 3, none⟩ (.int .i64 le2)).setCell ⟨wr.heap.size, 4, none⟩ (.int .i64 mo2)).alloc (.cells #[.int .i64 (f : Int), .int .i64 (b : Int), .int .i64 2, .int .i64 le2, .int .i64 mo2] 81)).grownBy W1 v.ownBlock) => (⟨(KW.out.bO.alt (((Alt.refl (fun k => w.heap.size + 3 ≤ k) _).alloc _).grown hg fun k e => own_base KW.out.ow e) (by omega)).fr 1, (KW.out.bO.alt (((Alt.refl (fun k => w.heap.size + 3 ≤ k) _).alloc _).grown hg fun k e => own_base KW.out.ow e) (by omega)).cell 1 rfl⟩ : W1.frozen? ⟨w.heap.size + 1 + 1, 1, none⟩ = false ∧ W1.cell? ⟨w.heap.size + 1 + 1, 1, none⟩ = some v))
          have o4 := KW.out.bO.cell 1 (show _ = some v from rfl)
          have e2 := E2.out
          go_wp2_with (at_builtin; go_must (refine wpList_append_own_at _ rfl _ _ 22 rfl (w.heap.size + 3) 81 i0 _ 5 40 Try.underlying22 hi0 hy0 hy1 hy2 rfl (by decide) v i (wdCells (toldW ns G u (l.ws.take i))) rfl (KW.out.ow.alloc _) ⟨uq.W.heap.size, 0, none⟩ 1 1 (Wd.cells ⟨(f : Int), (b : Int), 2, le2, mo2⟩) rfl (by rfl) (by first | exact World.news_of_block (cs := #[.int .i64 (f : Int), .int .i64 (b : Int), .int .i64 2, .int .i64 le2, .int .i64 mo2]) (t := 81) (fr := (0, 0)) (by simpa using heap_alloc_new ((uq.W.setCell ⟨wr.heap.size, 3, none⟩ (.int .i64 le2)).setCell ⟨wr.heap.size, 4, none⟩ (.int .i64 mo2)) _) | fail "news") (by simp [Value.oneCell', Wd.cells]) (by have := HNC.out; have := HLEN.out; have := HI.out; omega) (by have := HLEN.out; have := HI.out; omega) (by have h9 := KW.out.sz; simp at h9 ⊢; omega) ?_); intro v' w1 hown' hgrow hnil hloc; obtain ⟨gA, capA, hvA, _, _⟩ := hown'.form (by omega); subst hvA; have KN := Lib.hid (ST.out w1 _ hgrow hown'); have zA := (SA.out w1 hgrow).1; have cA := (SA.out w1 hgrow).2; clear hown' hgrow hnil hloc)
          clear o4 r0 r1 r2 r3 r4 q3 q4 q4b f3 f4
          generalize World.setCell _ _ _ = w9 at KN ⊢
          clear zA cA
          go_wp2_with fail
          go_roundg (l.ws.length - (i + 1))
          case measure => have := HI.out; omega
          case rel => exact ⟨i + 1, _, by have := HI.out; omega, rfl, by simp, KN⟩
      · have hbit : bitB u ((((3 : Nat) : Int)).toNat) = decide (u / 8 % 2 = 1) := by unfold bitB; rfl
        have hte : ((3 : Int)).toNat = 3 := rfl
        by_cases hb : u / 8 % 2 = 1
        · have HY : Hid (toldX ns G u i ⟨(f : Int), (b : Int), 3, le, mo⟩ = ⟨(f : Int), (b : Int), 3, le, mo⟩) := Lib.hid (by rw [HBX.out, if_pos]; exact decide_eq_true hb)
          have KW := KA
          have ST := Lib.hid (fun W1 v' (hg : ((wr.alloc (.cells #[.int .i64 (f : Int), .int .i64 (b : Int), .int .i64 3, .int .i64 le, .int .i64 mo] 81)).alloc (.cells #[.int .i64 (f : Int), .int .i64 (b : Int), .int .i64 3, .int .i64 le, .int .i64 mo] 81)).grownBy W1 v.ownBlock) ho => KW.out.step (v' := v') HLl.out HY.out hg ho)
          have SA := Lib.hid (fun W1 (hg : ((wr.alloc (.cells #[.int .i64 (f : Int), .int .i64 (b : Int), .int .i64 3, .int .i64 le, .int .i64 mo] 81)).alloc (.cells #[.int .i64 (f : Int), .int .i64 (b : Int), .int .i64 3, .int .i64 le, .int .i64 mo] 81)).grownBy W1 v.ownBlock) => (⟨(KW.out.bO.alt (((Alt.refl (fun k => w.heap.size + 3 ≤ k) _).alloc _).grown hg fun k e => own_base KW.out.ow e) (by omega)).fr 1, (KW.out.bO.alt (((Alt.refl (fun k => w.heap.size + 3 ≤ k) _).alloc _).grown hg fun k e => own_base KW.out.ow e) (by omega)).cell 1 rfl⟩ : W1.frozen? ⟨w.heap.size + 1 + 1, 1, none⟩ = false ∧ W1.cell? ⟨w.heap.size + 1 + 1, 1, none⟩ = some v))
          have o4 := KA.out.bO.cell 1 (show _ = some v from rfl)
          have e2 := E2.out
          have hd1 : Int.tmod (u / 8) 2 = 1 := by rw [Int.tmod_eq_emod_of_nonneg (by have := HU.out; omega)]; omega
          have hd3 : u < 256 ∧ 0 ≤ u := by have := HU.out; omega
          clear hbit hte BH1 NU1
          go_wp2_with (at_builtin; go_must (refine wpList_append_own_at _ rfl _ _ 22 rfl (w.heap.size + 3) 81 i0 _ 5 40 Try.underlying22 hi0 hy0 hy1 hy2 rfl (by decide) v i (wdCells (toldW ns G u (l.ws.take i))) rfl (KW.out.ow.alloc _) ⟨wr.heap.size + 1, 0, none⟩ 1 1 (Wd.cells ⟨(f : Int), (b : Int), 3, le, mo⟩) rfl (by rfl) (by first | exact World.news_of_block (cs := #[.int .i64 (f : Int), .int .i64 (b : Int), .int .i64 3, .int .i64 le, .int .i64 mo]) (t := 81) (fr := (0, 0)) (by simpa using heap_alloc_new (wr.alloc (.cells #[.int .i64 (f : Int), .int .i64 (b : Int), .int .i64 3, .int .i64 le, .int .i64 mo] 81)) _) | fail "news") (by simp [Value.oneCell', Wd.cells]) (by have := HNC.out; have := HLEN.out; have := HI.out; omega) (by have := HLEN.out; have := HI.out; omega) (by have h9 := KW.out.sz; simp at h9 ⊢; omega) ?_); intro v' w1 hown' hgrow hnil hloc; obtain ⟨gA, capA, hvA, _, _⟩ := hown'.form (by omega); subst hvA; have KN := Lib.hid (ST.out w1 _ hgrow hown'); have zA := (SA.out w1 hgrow).1; have cA := (SA.out w1 hgrow).2; clear hown' hgrow hnil hloc)
          clear o4 c1 c2 c3 c4 c5 k4
          generalize World.setCell _ _ _ = w9 at KN ⊢
          clear zA cA
          go_wp2_with fail
          go_roundg (l.ws.length - (i + 1))
          case measure => have := HI.out; omega
          case rel => exact ⟨i + 1, _, by have := HI.out; omega, rfl, by simp, KN⟩
        · have hb0 : u / 8 % 2 = 0 := by omega
          have HY : Hid (toldX ns G u i ⟨(f : Int), (b : Int), 3, le, mo⟩ = ⟨(f : Int), (b : Int), 3, le2, mo2⟩) := Lib.hid (by rw [HBX.out, if_neg]; intro h; exact hb (of_decide_eq_true h))
          have hd2 : Int.tmod (u / 8) 2 = 0 := by rw [Int.tmod_eq_emod_of_nonneg (by have := HU.out; omega)]; omega
          clear hbit hte hb
          go_wp2_with fail
          clear c1 c2 c3 c4 c5 k4 hb0 hd2
          generalize hwr2 : wr.alloc _ = wr2 at KA XA ⊢
          have m0 := fun u : Late wr2 => u.cell (XA.out.cell 0 (show _ = some (Value.int .i64 (f : Int)) from rfl)) XA.out.lt
          have m1 := fun u : Late wr2 => u.cell (XA.out.cell 1 (show _ = some (Value.int .i64 (b : Int)) from rfl)) XA.out.lt
          have m3 := fun u : Late wr2 => u.cell (XA.out.cell 3 (show _ = some (Value.int .i64 le) from rfl)) XA.out.lt
          have m4 := fun u : Late wr2 => u.cell (XA.out.cell 4 (show _ = some (Value.int .i64 mo) from rfl)) XA.out.lt
          have BHU := Lib.hid (fun u : Late wr2 => BH1.out u.W (below_go KA.out.bl u.b))
          obtain ⟨ewd, ewd1, er, ez, es, e31, e32, hz3, hz4⟩ := HEW.out
          refine wp_region_late wr2 (Below.refl _ _) (by kernel_rfl) (by kernel_rfl) ?_
          repeat (go_big_quiet_step ((first | (go_at_call 47; exact Calls.late (BHU.out _)))))
          refine wpQuiet_nil ?_
          intro _ hw'
          obtain ⟨uq, hw''⟩ := hw'
          subst hw''
          clear m0 m1 m3 m4 hwr2
          have KU := Lib.hid (KA.out.hi (Alt.of_below (p := fun _ => False) uq.b (fun k hk e => by omega)) (fun _ h => h.elim))
          have XU := Lib.hid (Blk.alt (p := fun _ => False) XA.out (Alt.of_below uq.b (fun k hk e => by omega)) id)
          have NU2 := Lib.hid (NU1.out uq.W KU.out.bl)
          go_wp2_with fail
          refine NU2.out.mono ?_
          rintro e w5 ⟨rfl, rfl⟩
          obtain ⟨em1, em1', em2, em2', em3, em3'⟩ := HEM.out
          have B1 := Lib.hid (Blk.setAt XU.out 3 (.int .i64 le2))
          have B2 := Lib.hid (Blk.setAt B1.out 4 (.int .i64 mo2))
          have f3 := XU.out.fr 3
          have q3 := XU.out.cell 3 (show _ = some (Value.int .i64 le) from rfl)
          have f4 := B1.out.fr 4
          have q4 := B1.out.cell 3 (show _ = some (Value.int .i64 le2) from rfl)
          have q4b := B1.out.cell 4 (show _ = some (Value.int .i64 mo) from rfl)
          have r0 := B2.out.cell 0 (show _ = some (Value.int .i64 (f : Int)) from rfl)
          have r1 := B2.out.cell 1 (show _ = some (Value.int .i64 (b : Int)) from rfl)
          have r2 := B2.out.cell 2 (show _ = some (Value.int .i64 3) from rfl)
          have r3 := B2.out.cell 3 (show _ = some (Value.int .i64 le2) from rfl)
          have r4 := B2.out.cell 4 (show _ = some (Value.int .i64 mo2) from rfl)
          have KW := Lib.hid (KU.out.hi2 (((Alt.refl (fun k => k = wr.heap.size) uq.W).setCell (q := ⟨wr.heap.size, 3, none⟩) rfl (.int .i64 le2)).setCell (q := ⟨wr.heap.size, 4, none⟩) rfl (.int .i64 mo2)) (fun k e => by have := HWR.out; omega) (fun k hk e => by have := HOB.out k hk; omega))
          have ST := Lib.hid (fun W1 v' (hg : (((uq.W.setCell ⟨wr.heap.size, 3, none⟩ (.int .i64 le2)).setCell ⟨wr.heap.size, 4, none⟩ (.int .i64 mo2)).alloc (.cells #[.int .i64 (f : Int), .int .i64 (b : Int), .int .i64 3, .int .i64 le2, .int .i64 mo2] 81)).grownBy W1 v.ownBlock) ho => KW.out.step (v' := v') HLl.out HY.out hg ho)
          have SA := Lib.hid (fun W1 (hg : (((uq.W.setCell ⟨wr.heap.size, 3, none⟩ (.int .i64 le2)).setCell ⟨wr.heap.size, 4, none⟩ (.int .i64 mo2)).alloc (.cells #[.int .i64 (f : Int), .int .i64 (b : Int), .int .i64 3, .int .i64 le2, .int .i64 mo2] 81)).grownBy W1 v.ownBlock) => (⟨(KW.out.bO.alt (((Alt.refl (fun k => w.heap.size + 3 ≤ k) _).alloc _).grown hg fun k e => own_base KW.out.ow e) (by omega)).fr 1, (KW.out.bO.alt (((Alt.refl (fun k => w.heap.size + 3 ≤ k) _).alloc _).grown hg fun k e => own_base KW.out.ow e) (by omega)).cell 1 rfl⟩ : W1.frozen? ⟨w.heap.size + 1 + 1, 1, none⟩ = false ∧ W1.cell? ⟨w.heap.size + 1 + 1, 1, none⟩ = some v))
          have o4 := KW.out.bO.cell 1 (show _ = some v from rfl)
          have e2 := E2.out
          go_wp2_with (at_builtin; go_must (refine wpList_append_own_at _ rfl _ _ 22 rfl (w.heap.size + 3) 81 i0 _ 5 40 Try.underlying22 hi0 hy0 hy1 hy2 rfl (by decide) v i (wdCells (toldW ns G u (l.ws.take i))) rfl (KW.out.ow.alloc _) ⟨uq.W.heap.size, 0, none⟩ 1 1 (Wd.cells ⟨(f : Int), (b : Int), 3, le2, mo2⟩) rfl (by rfl) (by first | exact World.news_of_block (cs := #[.int .i64 (f : Int), .int .i64 (b : Int), .int .i64 3, .int .i64 le2, .int .i64 mo2]) (t := 81) (fr := (0, 0)) (by simpa using heap_alloc_new ((uq.W.setCell ⟨wr.heap.size, 3, none⟩ (.int .i64 le2)).setCell ⟨wr.heap.size, 4, none⟩ (.int .i64 mo2)) _) | fail "news") (by simp [Value.oneCell', Wd.cells]) (by have := HNC.out; have := HLEN.out; have := HI.out; omega) (by have := HLEN.out; have := HI.out; omega) (by have h9 := KW.out.sz; simp at h9 ⊢; omega) ?_); intro v' w1 hown' hgrow hnil hloc; obtain ⟨gA, capA, hvA, _, _⟩ := hown'.form (by omega); subst hvA; have KN := Lib.hid (ST.out w1 _ hgrow hown'); have zA := (SA.out w1 hgrow).1; have cA := (SA.out w1 hgrow).2; clear hown' hgrow hnil hloc)
          clear o4 r0 r1 r2 r3 r4 q3 q4 q4b f3 f4
          generalize World.setCell _ _ _ = w9 at KN ⊢
          clear zA cA
          go_wp2_with fail
          go_roundg (l.ws.length - (i + 1))
          case measure => have := HI.out; omega
          case rel => exact ⟨i + 1, _, by have := HI.out; omega, rfl, by simp, KN⟩
    · have hz1 : ¬ (i : Int) < (l.ws.length : Int) := by omega
      have KE := hK.out
      obtain rfl : i = l.ws.length := by omega
      have ow := KE.ow
      rw [List.take_length] at ow
      have HLN := Lib.hid (toldW_len ns G u l.ws)
      rw [← HLN.out] at ow
      obtain ⟨a, c, rfl, hLL, hg⟩ : ∃ a c, v = .slice a (toldW ns G u l.ws).length c ∧ WdsAt wr a (toldW ns G u l.ws) ∧ ∀ g o, a = some ⟨g, o, none⟩ → w.heap.size + 3 ≤ g ∧ g < wr.heap.size := by
        by_cases h0 : 0 < (toldW ns G u l.ws).length
        · obtain ⟨g, c, rfl, h1, h2, h3⟩ := own_wds81 ow h0
          exact ⟨some ⟨g, 0, none⟩, c, rfl, h1, fun g' o e => by cases e; exact ⟨h2, h3⟩⟩
        · have he : toldW ns G u l.ws = [] := List.eq_nil_of_length_eq_zero (by omega)
          rw [he] at ow ⊢
          rcases ow.2 with ⟨rfl, _⟩ | ⟨g, cap, cur, rfl, hb, hg, _⟩
          · exact ⟨none, 0, rfl, fun i l h => by simp at h, fun g o e => by cases e⟩
          · exact ⟨some ⟨g, 0, none⟩, cap, rfl, fun i l h => by simp at h, fun g' o e => by cases e; exact ⟨hb, (Array.getElem?_eq_some_iff.1 hg).1⟩⟩
      have BL := Lib.hid KE.bl
      have HLL := Lib.hid hLL
      have HG := Lib.hid hg
      have bR := KE.bR
      have bO := KE.bO
      have q0 : wr.cell? ⟨w.heap.size + 1 + 1, 0, none⟩ = some (.int .i64 l.fs) := bO.cell 0 rfl
      have q1 : wr.cell? ⟨w.heap.size + 1 + 1, 1, none⟩ = some (.slice a (toldW ns G u l.ws).length c) := bO.cell 1 rfl
      have t0 : wr.cell? ⟨w.heap.size + 1, 0, none⟩ = some (.int .i64 0) := bR.cell 0 rfl
      have t1 : wr.cell? ⟨w.heap.size + 1, 1, none⟩ = some (.slice none 0 0) := bR.cell 1 rfl
      have f0 := bR.fr 0
      have f1 := bR.fr 1
      have PT := Lib.hid (bR.put2 (.int .i64 l.fs) (.slice a (toldW ns G u l.ws).length c))
      clear hLL hg bR bO KE hK ow hlt hi
      go_wp2_with fail
      have pt := PT.out
      generalize World.setCell _ _ _ = X at pt ⊢
      have h0 := pt.1.cell 0 (show _ = some (Value.int .i64 l.fs) from rfl)
      have h1 := pt.1.cell 1 (show _ = some (Value.slice a (toldW ns G u l.ws).length c) from rfl)
      refine bodyPost_ret (v := .agg #[.int .i64 l.fs, .slice a (toldW ns G u l.ws).length c]) (by simp [results, Try.results45, go_sem, h0, h1]) rfl ?_
      refine ⟨a, ⟨c, rfl⟩, HLL.out.alt pt.2 (fun g o e h => by have := HG.out g o e; omega), fun g o e => ⟨by have := (HG.out g o e).1; omega, Nat.lt_of_lt_of_le (HG.out g o e).2 pt.2.size⟩, ?_⟩
      exact ((Alt.of_below (p := fun k => w.heap.size ≤ k) BL.out (fun k hk e => e)).trans (pt.2.mono fun k _ e => by omega)).below (Nat.le_refl _) fun _ e => e

end Go.Proofs.Ytbbndcfnpfedpaa
