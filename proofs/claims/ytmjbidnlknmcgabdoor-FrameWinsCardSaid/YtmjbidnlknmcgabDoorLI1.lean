/- The contract of the note of a ball in a record that begins a frame. -/
import Derived.Test.YtmjbidnlknmcgabDoorLG
set_option linter.unusedVariables false
set_option linter.unusedSimpArgs false
namespace Go.Proofs.YtmjbidnlknmcgabDoor
open Go.RowKit

set_option maxRecDepth 100000 in
set_option maxHeartbeats 4000000 in
theorem note_open (w0 W : World) (B base b : Nat) (l : Lw) (r : Rc) (fv cv : Value) (vs : List Value) (k : Int) (h : RecI w0 W B base b l r fv cv vs) (ok : l.Ok) (hIn0 : r.s.In l) (hk1 : -1 ≤ k) (hk2 : k ≤ 10) (htot : 0 ≤ r.tot ∧ r.tot ≤ 4000)
    (hzs0 : ∀ zs ∈ r.fs, zs.length ≤ 100) (hcs0 : r.cs.length ≤ 100) (hb0 : r.s.b = 0) (hlen : r.fs.length ≤ 50) (hf : r.s.f = (r.fs.length : Int)) :
    Calls Tryd.prog 48 #[.pointer (some ⟨b, 0, none⟩), .int .i64 k] W fun e w' => e = .returned (.tuple #[]) ∧ Hid (∃ fv' cv' vs', RecI w0 w' B base b l (noteR l r k) fv' cv' vs') := by
  have hIn := Lib.hid hIn0
  have hx1 : 0 ≤ r.s.x := hIn0.x1
  have hx2 : r.s.x ≤ 3 := by have := hIn0.x2; omega
  have htt1 : 0 ≤ r.tot := htot.1
  have htt2 : r.tot ≤ 4000 := htot.2
  clear hIn0 htot
  obtain ⟨i0, hi, hz0, hz1, hz2⟩ := info_parts info24
  have HR := Lib.hid h
  have hfo := h.ow.own (28, fv, vs) (by simp [items])
  have h11 := h.rb.c11
  have hbq := Lib.hid hb0
  have hfq := Lib.hid hf
  have h5 : W.cell? ⟨b, 5, none⟩ = some (.int .i64 0) := by rw [← hb0]; exact h.rb.at.c5
  have hln := h.ln
  have hsz := h.sz
  clear h hb0
  go_enter Tryd.func48, Tryd.ntmps48
  go_wp2_with (at_builtin; refine wpList_append_own_at _ rfl _ _ 24 rfl base 28 i0 (.slice none 0 0) 1 24 Tryd.underlying24 hi hz0 hz1 hz2 rfl (by decide) _ _ _ rfl (hfo.alloc _) ⟨W.heap.size, 0, none⟩ 1 1 [.slice none 0 0] rfl rfl (cell_one_new _ _ _) (by simp [Value.oneCell']) (by unfold maxLen; simp; omega) (by simp; omega) (by simp; omega) ?_; intro v' w1 hown' hgrow hnil hloc; obtain ⟨g1, cap1, rfl⟩ := ownsRow_succ hown'; have hg1 := Lib.hid (hgr_open hgrow); have HR1 := Lib.hid (HR.out.open' hg1.out hown' (loc_open hloc)); have c11 := (HR.out.rb.grown hg1.out (ownBlock_ne HR.out.ow (p := (28, fv, vs)) (by simp [items]) HR.out.hb)).c11; have z11 := (HR.out.rb.grown hg1.out (ownBlock_ne HR.out.ow (p := (28, fv, vs)) (by simp [items]) HR.out.hb)).free 11; clear hown' hgrow hnil hloc)
  have HR2 : Hid (RecI w0 (w1.setCell ⟨b, 11, none⟩ (.slice (some ⟨g1, 0, none⟩) (vs.length + 1) cap1)) B base b l (openF r) (.slice (some ⟨g1, 0, none⟩) (vs.length + 1) cap1) cv (vs ++ [.slice none 0 0])) := HR1
  rw [hln] at HR2
  generalize World.setCell w1 _ _ = W2 at HR2 ⊢
  clear HR1 hg1 c11 z11 HR hfo h11 h5
  have hfl := Lib.hid (show (openF r).fs.length = r.fs.length + 1 from by simp [openF])
  have hvl := Lib.hid (show (vs ++ [Value.slice none 0 0]).length = r.fs.length + 1 from by simp [hln])
  generalize vs ++ [Value.slice none 0 0] = vs2 at HR2 hvl
  generalize r.fs.length = f at hlen hf HR2 hfl hvl hfq hln ⊢
  have hsf : Hid ((openF r).s.f = (f : Int)) := Lib.hid hf
  have hzl2 : Hid (∀ zs ∈ (openF r).fs, zs.length ≤ 100) := Lib.hid (fun zs h => by rcases List.mem_append.1 h with h | h; exact hzs0 zs h; simp at h; subst h; simp)
  have hcl2 : Hid ((openF r).cs.length ≤ 100) := Lib.hid hcs0
  obtain ⟨r2, hr2⟩ : ∃ r2, Hid (r2 = { r with fs := noteFs r }) := ⟨_, Lib.hid rfl⟩
  have hro : openF r = r2 := by rw [hr2.out]; unfold openF noteFs; rw [if_pos hbq.out]
  rw [hro] at HR2 hfl hsf hzl2 hcl2
  have hs2 : Hid (r2.s = r.s) := Lib.hid (by rw [hr2.out])
  have ht2 : Hid (r2.tot = r.tot) := Lib.hid (by rw [hr2.out])
  clear hln hi hz0 hz1 hz2 hsz hf hzs0 hcs0 hro hbq
  have hfn := Lib.hid (f_lt HR2 hfl.out)
  obtain ⟨vI, zs, hvI, hzs⟩ : ∃ vI zs, Hid (vs2[f]? = some vI) ∧ Hid (r2.fs[f]? = some zs) := ⟨vs2[f]'(by have := hvl.out; omega), r2.fs[f]'(by have := hfl.out; omega), Lib.hid (List.getElem?_eq_getElem _), Lib.hid (List.getElem?_eq_getElem _)⟩
  have hin := HR2.out.inner hvI.out hzs.out
  have hinm := HR2.out.inner_mem hvI.out hzs.out
  have c11 := HR2.out.rb.c11
  have c4 : W2.cell? ⟨b, 4, none⟩ = some (.int .i64 (f : Int)) := by rw [← hsf.out]; exact HR2.out.rb.at.c4
  have cI := HR2.out.cellAt hvI.out
  have zI := HR2.out.freeAt (f := f)
  have hsz2 := HR2.out.sz
  have hzl : zs.length ≤ 100 := hzl2.out zs (List.mem_of_getElem? hzs.out)
  obtain ⟨i3, hi3, hy0, hy1, hy2⟩ := info_parts info3
  have hf0 : (0 : Int) ≤ (f : Int) := by omega
  have hf1 : (f : Int) < ((f + 1 : Nat) : Int) := by omega
  have hf2 : f < f + 1 := by omega
  have hf3 : (f : Int) < (f : Int) + 1 := by omega
  have hbf : some b ≠ vI.ownBlock := ownBlock_ne HR2.out.ow hinm HR2.out.hb
  have hgf : some g1 ≠ vI.ownBlock := HR2.out.row_ne hinm
  have hb2 : b < W2.heap.size := lt_of_block HR2.out.rb.blk
  have hg12 := HR2.out.row_lt
  have hg2 : g1 < W2.heap.size := hg12.2
  have hbg : b ≠ g1 := by have := hg12.1; have := HR2.out.hb; omega
  have hgb : g1 ≠ b := hbg.symm
  obtain ⟨vA, WA, hrunA, hownA, hgrA, hnilA, hlocA⟩ := run_append_own_at (P := Tryd.prog) (w := (W2.alloc (.cells #[.int .i64 k] 3)).drew) base 28 28 3 i3 (.int .i64 0) 1 8 Tryd.underlying28 hi3 hy0 hy1 hy2 rfl (by omega) vI zs.length (zs.map (Value.int .i64)) ((hin.alloc _).drew) ⟨W2.heap.size, 0, none⟩ 1 1 [.int .i64 k] rfl (World.news_of_block (cs := #[.int .i64 k]) (t := 3) (fr := (0, 0)) (heap_alloc_new W2 _)) (by simp [Value.oneCell']) (by unfold maxLen; omega) (by omega) (by simp; omega)
  obtain ⟨gA, capA, rfl⟩ := ownsRow_succ hownA
  have cA : WA.cell? ⟨g1, f, none⟩ = some vI := (hgrA.cell_far _ (by simp; omega) hgf).trans (cell_alloc_d cI _)
  have zA : WA.frozen? ⟨g1, f, none⟩ = false := (hgrA.frozen_far _ (by simp; omega) hgf).trans (frz_alloc cI zI _)
  have a11 : WA.cell? ⟨b, 11, none⟩ = some (.slice (some ⟨g1, 0, none⟩) (f + 1) cap1) := (hgrA.cell_far _ (by simp; omega) hbf).trans (cell_alloc_d c11 _)
  have a4 : WA.cell? ⟨b, 4, none⟩ = some (.int .i64 (f : Int)) := (hgrA.cell_far _ (by simp; omega) hbf).trans (cell_alloc_d c4 _)
  have HR3 := Lib.hid (HR2.out.put (ys := zs ++ [k]) (vA := .slice (some ⟨gA, 0, none⟩) (zs.length + 1) capA) hvI.out hzs.out (grown_alloc_drew hgrA) (by simpa using hownA) (hlocA.imp id (fun e k hk => by rw [e] at hk; cases hk; simp)) hvl.out.symm)
  obtain ⟨wf, hwf⟩ : ∃ wf : Array Bool → World, Hid (∀ L, wf L = if L.getD 26 false = true then WA.setCell ⟨g1, f, none⟩ (.slice (some ⟨gA, 0, none⟩) (zs.length + 1) capA) else if L.getD 24 false = true then WA else if L.getD 23 false = true then (W2.alloc (.cells #[.int .i64 k] 3)).drew else W2.drew) := ⟨_, Lib.hid (fun _ => rfl)⟩
  have C11 : ∀ L, (wf L).cell? ⟨b, 11, none⟩ = some (.slice (some ⟨g1, 0, none⟩) (f + 1) cap1) := fun L => by
    rw [hwf.out]; split
    · rw [World.cell?_setCell_far _ _ _ _ hgb]; exact a11
    · split
      · exact a11
      · split
        · exact cell_alloc_d c11 _
        · exact c11
  have C4 : ∀ L, (wf L).cell? ⟨b, 4, none⟩ = some (.int .i64 (f : Int)) := fun L => by
    rw [hwf.out]; split
    · rw [World.cell?_setCell_far _ _ _ _ hgb]; exact a4
    · split
      · exact a4
      · split
        · exact cell_alloc_d c4 _
        · exact c4
  have CI : ∀ L, L.getD 26 false = false → (wf L).cell? ⟨g1, f, none⟩ = some vI := fun L h => by
    rw [hwf.out, h, if_neg (by simp)]
    split
    · exact cA
    · split
      · exact cell_alloc_d cI _
      · exact cI
  have hsame : ∀ (L : Array Bool) (i : Nat), i ≠ 23 → i ≠ 24 → i ≠ 26 → wf (L.setIfInBounds i true) = wf L := fun L i h23 h24 h26 => by
    rw [hwf.out, hwf.out, getD_set_ne (Ne.symm h26), getD_set_ne (Ne.symm h24), getD_set_ne (Ne.symm h23)]
  refine wp_region_flow (val := fun i => match i with
    | 0 => .pointer (some ⟨b, 0, none⟩)
    | 1 => .pointer (some ⟨b, 0, none⟩)
    | 2 => .pointer (some ⟨b, 11, none⟩)
    | 3 => .slice (some ⟨g1, 0, none⟩) (f + 1) cap1
    | 4 => .pointer (some ⟨b, 0, none⟩)
    | 5 => .pointer (some ⟨b, 0, none⟩)
    | 6 => .pointer (some ⟨b, 0, none⟩)
    | 7 => .pointer (some ⟨b, 4, none⟩)
    | 8 => .pointer (some ⟨b, 4, none⟩)
    | 9 => .int .i64 (f : Int)
    | 10 => .pointer (some ⟨b, 0, none⟩)
    | 11 => .pointer (some ⟨b, 0, none⟩)
    | 12 => .pointer (some ⟨b, 11, none⟩)
    | 13 => .slice (some ⟨g1, 0, none⟩) (f + 1) cap1
    | 14 => .pointer (some ⟨b, 0, none⟩)
    | 15 => .pointer (some ⟨b, 0, none⟩)
    | 16 => .pointer (some ⟨b, 0, none⟩)
    | 17 => .pointer (some ⟨b, 4, none⟩)
    | 18 => .pointer (some ⟨b, 4, none⟩)
    | 19 => .int .i64 (f : Int)
    | 20 => .pointer (some ⟨g1, f, none⟩)
    | 21 => vI
    | 22 => .int .i64 k
    | 23 => .slice (some ⟨W2.heap.size, 0, none⟩) 1 1
    | 24 => .slice (some ⟨gA, 0, none⟩) (zs.length + 1) capA
    | 25 => .pointer (some ⟨g1, f, none⟩)
    | _ => undef) wf (by kernel_rfl) (by kernel_rfl) (by kernel_rfl) (by rw [hwf.out]; rfl) ?_ ?_
  · refine ⟨?_, ?_, ?_, ?_, ?_, ?_, ?_, ?_, ?_, ?_, ?_, ?_, ?_, ?_, ?_, ?_, ?_, ?_, ?_, ?_, ?_, ?_, ?_, ?_, ?_, ?_, ?_, trivial⟩
    · intro L a hLs hl hdep hc hfr K hK
      have et0 : a.tmps.getD 0 undef = .pointer (some ⟨b, 0, none⟩) := hfr.evalBase 0 (by kernel_rfl)
      have ft0 : a.eval (.tmp 0) = .pointer (some ⟨b, 0, none⟩) := hfr.evalBase 0 (by kernel_rfl)
      rw [hsame _ _ (by omega) (by omega) (by omega)] at hK
      generalize wf L = wL at hK ⊢
      clear hfr hc hdep hl ft0 C11 C4 CI hsame hwf cA zA a11 a4 hrunA hownA hgrA hnilA hlocA c11 c4 cI zI hin hi3 hy0 hy1 hy2
      go_simp
      exact hK
    · intro L a hLs hl hdep hc hfr K hK
      have g0 : a.tmps[20]? = some (.pointer (some ⟨b, 0, none⟩)) := hfr.got 0 _ 20 rfl rfl (hdep ⟨0, .data⟩ (by simp) rfl) (by simp)
      have e0 : a.tmps.getD 20 undef = .pointer (some ⟨b, 0, none⟩) := hfr.eval 0 _ 20 rfl rfl (by simp) (hdep ⟨0, .data⟩ (by simp) rfl)
      have f0 : a.eval (.tmp 20) = .pointer (some ⟨b, 0, none⟩) := hfr.eval 0 _ 20 rfl rfl (by simp) (hdep ⟨0, .data⟩ (by simp) rfl)
      rw [hsame _ _ (by omega) (by omega) (by omega)] at hK
      generalize wf L = wL at hK ⊢
      clear hfr hc hdep hl f0 C11 C4 CI hsame hwf cA zA a11 a4 hrunA hownA hgrA hnilA hlocA c11 c4 cI zI hin hi3 hy0 hy1 hy2
      go_simp
      exact hK
    · intro L a hLs hl hdep hc hfr K hK
      have g1 : a.tmps[21]? = some (.pointer (some ⟨b, 0, none⟩)) := hfr.got 1 _ 21 rfl rfl (hdep ⟨1, .data⟩ (by simp) rfl) (by simp)
      have e1 : a.tmps.getD 21 undef = .pointer (some ⟨b, 0, none⟩) := hfr.eval 1 _ 21 rfl rfl (by simp) (hdep ⟨1, .data⟩ (by simp) rfl)
      have f1 : a.eval (.tmp 21) = .pointer (some ⟨b, 0, none⟩) := hfr.eval 1 _ 21 rfl rfl (by simp) (hdep ⟨1, .data⟩ (by simp) rfl)
      rw [hsame _ _ (by omega) (by omega) (by omega)] at hK
      generalize wf L = wL at hK ⊢
      clear hfr hc hdep hl f1 C11 C4 CI hsame hwf cA zA a11 a4 hrunA hownA hgrA hnilA hlocA c11 c4 cI zI hin hi3 hy0 hy1 hy2
      go_simp
      exact hK
    · intro L a hLs hl hdep hc hfr K hK
      have g2 : a.tmps[22]? = some (.pointer (some ⟨b, 11, none⟩)) := hfr.got 2 _ 22 rfl rfl (hdep ⟨2, .data⟩ (by simp) rfl) (by simp)
      have e2 : a.tmps.getD 22 undef = .pointer (some ⟨b, 11, none⟩) := hfr.eval 2 _ 22 rfl rfl (by simp) (hdep ⟨2, .data⟩ (by simp) rfl)
      have f2 : a.eval (.tmp 22) = .pointer (some ⟨b, 11, none⟩) := hfr.eval 2 _ 22 rfl rfl (by simp) (hdep ⟨2, .data⟩ (by simp) rfl)
      have hcell := C11 L
      rw [hsame _ _ (by omega) (by omega) (by omega)] at hK
      generalize wf L = wL at hcell hK ⊢
      clear hfr hc hdep hl f2 C11 C4 CI hsame hwf cA zA a11 a4 hrunA hownA hgrA hnilA hlocA c11 c4 cI zI hin hi3 hy0 hy1 hy2
      go_simp
      exact hK
    · intro L a hLs hl hdep hc hfr K hK
      have et0 : a.tmps.getD 0 undef = .pointer (some ⟨b, 0, none⟩) := hfr.evalBase 0 (by kernel_rfl)
      have ft0 : a.eval (.tmp 0) = .pointer (some ⟨b, 0, none⟩) := hfr.evalBase 0 (by kernel_rfl)
      rw [hsame _ _ (by omega) (by omega) (by omega)] at hK
      generalize wf L = wL at hK ⊢
      clear hfr hc hdep hl ft0 C11 C4 CI hsame hwf cA zA a11 a4 hrunA hownA hgrA hnilA hlocA c11 c4 cI zI hin hi3 hy0 hy1 hy2
      go_simp
      exact hK
    · intro L a hLs hl hdep hc hfr K hK
      have g4 : a.tmps[24]? = some (.pointer (some ⟨b, 0, none⟩)) := hfr.got 4 _ 24 rfl rfl (hdep ⟨4, .data⟩ (by simp) rfl) (by simp)
      have e4 : a.tmps.getD 24 undef = .pointer (some ⟨b, 0, none⟩) := hfr.eval 4 _ 24 rfl rfl (by simp) (hdep ⟨4, .data⟩ (by simp) rfl)
      have f4 : a.eval (.tmp 24) = .pointer (some ⟨b, 0, none⟩) := hfr.eval 4 _ 24 rfl rfl (by simp) (hdep ⟨4, .data⟩ (by simp) rfl)
      rw [hsame _ _ (by omega) (by omega) (by omega)] at hK
      generalize wf L = wL at hK ⊢
      clear hfr hc hdep hl f4 C11 C4 CI hsame hwf cA zA a11 a4 hrunA hownA hgrA hnilA hlocA c11 c4 cI zI hin hi3 hy0 hy1 hy2
      go_simp
      exact hK
    · intro L a hLs hl hdep hc hfr K hK
      have g5 : a.tmps[25]? = some (.pointer (some ⟨b, 0, none⟩)) := hfr.got 5 _ 25 rfl rfl (hdep ⟨5, .data⟩ (by simp) rfl) (by simp)
      have e5 : a.tmps.getD 25 undef = .pointer (some ⟨b, 0, none⟩) := hfr.eval 5 _ 25 rfl rfl (by simp) (hdep ⟨5, .data⟩ (by simp) rfl)
      have f5 : a.eval (.tmp 25) = .pointer (some ⟨b, 0, none⟩) := hfr.eval 5 _ 25 rfl rfl (by simp) (hdep ⟨5, .data⟩ (by simp) rfl)
      rw [hsame _ _ (by omega) (by omega) (by omega)] at hK
      generalize wf L = wL at hK ⊢
      clear hfr hc hdep hl f5 C11 C4 CI hsame hwf cA zA a11 a4 hrunA hownA hgrA hnilA hlocA c11 c4 cI zI hin hi3 hy0 hy1 hy2
      go_simp
      exact hK
    · intro L a hLs hl hdep hc hfr K hK
      have g6 : a.tmps[26]? = some (.pointer (some ⟨b, 0, none⟩)) := hfr.got 6 _ 26 rfl rfl (hdep ⟨6, .data⟩ (by simp) rfl) (by simp)
      have e6 : a.tmps.getD 26 undef = .pointer (some ⟨b, 0, none⟩) := hfr.eval 6 _ 26 rfl rfl (by simp) (hdep ⟨6, .data⟩ (by simp) rfl)
      have f6 : a.eval (.tmp 26) = .pointer (some ⟨b, 0, none⟩) := hfr.eval 6 _ 26 rfl rfl (by simp) (hdep ⟨6, .data⟩ (by simp) rfl)
      rw [hsame _ _ (by omega) (by omega) (by omega)] at hK
      generalize wf L = wL at hK ⊢
      clear hfr hc hdep hl f6 C11 C4 CI hsame hwf cA zA a11 a4 hrunA hownA hgrA hnilA hlocA c11 c4 cI zI hin hi3 hy0 hy1 hy2
      go_simp
      exact hK
    · intro L a hLs hl hdep hc hfr K hK
      have g7 : a.tmps[27]? = some (.pointer (some ⟨b, 4, none⟩)) := hfr.got 7 _ 27 rfl rfl (hdep ⟨7, .data⟩ (by simp) rfl) (by simp)
      have e7 : a.tmps.getD 27 undef = .pointer (some ⟨b, 4, none⟩) := hfr.eval 7 _ 27 rfl rfl (by simp) (hdep ⟨7, .data⟩ (by simp) rfl)
      have f7 : a.eval (.tmp 27) = .pointer (some ⟨b, 4, none⟩) := hfr.eval 7 _ 27 rfl rfl (by simp) (hdep ⟨7, .data⟩ (by simp) rfl)
      rw [hsame _ _ (by omega) (by omega) (by omega)] at hK
      generalize wf L = wL at hK ⊢
      clear hfr hc hdep hl f7 C11 C4 CI hsame hwf cA zA a11 a4 hrunA hownA hgrA hnilA hlocA c11 c4 cI zI hin hi3 hy0 hy1 hy2
      go_simp
      exact hK
    · intro L a hLs hl hdep hc hfr K hK
      have g8 : a.tmps[28]? = some (.pointer (some ⟨b, 4, none⟩)) := hfr.got 8 _ 28 rfl rfl (hdep ⟨8, .data⟩ (by simp) rfl) (by simp)
      have e8 : a.tmps.getD 28 undef = .pointer (some ⟨b, 4, none⟩) := hfr.eval 8 _ 28 rfl rfl (by simp) (hdep ⟨8, .data⟩ (by simp) rfl)
      have f8 : a.eval (.tmp 28) = .pointer (some ⟨b, 4, none⟩) := hfr.eval 8 _ 28 rfl rfl (by simp) (hdep ⟨8, .data⟩ (by simp) rfl)
      have hcell := C4 L
      rw [hsame _ _ (by omega) (by omega) (by omega)] at hK
      generalize wf L = wL at hcell hK ⊢
      clear hfr hc hdep hl f8 C11 C4 CI hsame hwf cA zA a11 a4 hrunA hownA hgrA hnilA hlocA c11 c4 cI zI hin hi3 hy0 hy1 hy2
      go_simp
      exact hK
    · intro L a hLs hl hdep hc hfr K hK
      have et0 : a.tmps.getD 0 undef = .pointer (some ⟨b, 0, none⟩) := hfr.evalBase 0 (by kernel_rfl)
      have ft0 : a.eval (.tmp 0) = .pointer (some ⟨b, 0, none⟩) := hfr.evalBase 0 (by kernel_rfl)
      rw [hsame _ _ (by omega) (by omega) (by omega)] at hK
      generalize wf L = wL at hK ⊢
      clear hfr hc hdep hl ft0 C11 C4 CI hsame hwf cA zA a11 a4 hrunA hownA hgrA hnilA hlocA c11 c4 cI zI hin hi3 hy0 hy1 hy2
      go_simp
      exact hK
    · intro L a hLs hl hdep hc hfr K hK
      have g10 : a.tmps[30]? = some (.pointer (some ⟨b, 0, none⟩)) := hfr.got 10 _ 30 rfl rfl (hdep ⟨10, .data⟩ (by simp) rfl) (by simp)
      have e10 : a.tmps.getD 30 undef = .pointer (some ⟨b, 0, none⟩) := hfr.eval 10 _ 30 rfl rfl (by simp) (hdep ⟨10, .data⟩ (by simp) rfl)
      have f10 : a.eval (.tmp 30) = .pointer (some ⟨b, 0, none⟩) := hfr.eval 10 _ 30 rfl rfl (by simp) (hdep ⟨10, .data⟩ (by simp) rfl)
      rw [hsame _ _ (by omega) (by omega) (by omega)] at hK
      generalize wf L = wL at hK ⊢
      clear hfr hc hdep hl f10 C11 C4 CI hsame hwf cA zA a11 a4 hrunA hownA hgrA hnilA hlocA c11 c4 cI zI hin hi3 hy0 hy1 hy2
      go_simp
      exact hK
    · intro L a hLs hl hdep hc hfr K hK
      have g11 : a.tmps[31]? = some (.pointer (some ⟨b, 0, none⟩)) := hfr.got 11 _ 31 rfl rfl (hdep ⟨11, .data⟩ (by simp) rfl) (by simp)
      have e11 : a.tmps.getD 31 undef = .pointer (some ⟨b, 0, none⟩) := hfr.eval 11 _ 31 rfl rfl (by simp) (hdep ⟨11, .data⟩ (by simp) rfl)
      have f11 : a.eval (.tmp 31) = .pointer (some ⟨b, 0, none⟩) := hfr.eval 11 _ 31 rfl rfl (by simp) (hdep ⟨11, .data⟩ (by simp) rfl)
      rw [hsame _ _ (by omega) (by omega) (by omega)] at hK
      generalize wf L = wL at hK ⊢
      clear hfr hc hdep hl f11 C11 C4 CI hsame hwf cA zA a11 a4 hrunA hownA hgrA hnilA hlocA c11 c4 cI zI hin hi3 hy0 hy1 hy2
      go_simp
      exact hK
    · intro L a hLs hl hdep hc hfr K hK
      have g12 : a.tmps[32]? = some (.pointer (some ⟨b, 11, none⟩)) := hfr.got 12 _ 32 rfl rfl (hdep ⟨12, .data⟩ (by simp) rfl) (by simp)
      have e12 : a.tmps.getD 32 undef = .pointer (some ⟨b, 11, none⟩) := hfr.eval 12 _ 32 rfl rfl (by simp) (hdep ⟨12, .data⟩ (by simp) rfl)
      have f12 : a.eval (.tmp 32) = .pointer (some ⟨b, 11, none⟩) := hfr.eval 12 _ 32 rfl rfl (by simp) (hdep ⟨12, .data⟩ (by simp) rfl)
      have hcell := C11 L
      rw [hsame _ _ (by omega) (by omega) (by omega)] at hK
      generalize wf L = wL at hcell hK ⊢
      clear hfr hc hdep hl f12 C11 C4 CI hsame hwf cA zA a11 a4 hrunA hownA hgrA hnilA hlocA c11 c4 cI zI hin hi3 hy0 hy1 hy2
      go_simp
      exact hK
    · intro L a hLs hl hdep hc hfr K hK
      have et0 : a.tmps.getD 0 undef = .pointer (some ⟨b, 0, none⟩) := hfr.evalBase 0 (by kernel_rfl)
      have ft0 : a.eval (.tmp 0) = .pointer (some ⟨b, 0, none⟩) := hfr.evalBase 0 (by kernel_rfl)
      rw [hsame _ _ (by omega) (by omega) (by omega)] at hK
      generalize wf L = wL at hK ⊢
      clear hfr hc hdep hl ft0 C11 C4 CI hsame hwf cA zA a11 a4 hrunA hownA hgrA hnilA hlocA c11 c4 cI zI hin hi3 hy0 hy1 hy2
      go_simp
      exact hK
    · intro L a hLs hl hdep hc hfr K hK
      have g14 : a.tmps[34]? = some (.pointer (some ⟨b, 0, none⟩)) := hfr.got 14 _ 34 rfl rfl (hdep ⟨14, .data⟩ (by simp) rfl) (by simp)
      have e14 : a.tmps.getD 34 undef = .pointer (some ⟨b, 0, none⟩) := hfr.eval 14 _ 34 rfl rfl (by simp) (hdep ⟨14, .data⟩ (by simp) rfl)
      have f14 : a.eval (.tmp 34) = .pointer (some ⟨b, 0, none⟩) := hfr.eval 14 _ 34 rfl rfl (by simp) (hdep ⟨14, .data⟩ (by simp) rfl)
      rw [hsame _ _ (by omega) (by omega) (by omega)] at hK
      generalize wf L = wL at hK ⊢
      clear hfr hc hdep hl f14 C11 C4 CI hsame hwf cA zA a11 a4 hrunA hownA hgrA hnilA hlocA c11 c4 cI zI hin hi3 hy0 hy1 hy2
      go_simp
      exact hK
    · intro L a hLs hl hdep hc hfr K hK
      have g15 : a.tmps[35]? = some (.pointer (some ⟨b, 0, none⟩)) := hfr.got 15 _ 35 rfl rfl (hdep ⟨15, .data⟩ (by simp) rfl) (by simp)
      have e15 : a.tmps.getD 35 undef = .pointer (some ⟨b, 0, none⟩) := hfr.eval 15 _ 35 rfl rfl (by simp) (hdep ⟨15, .data⟩ (by simp) rfl)
      have f15 : a.eval (.tmp 35) = .pointer (some ⟨b, 0, none⟩) := hfr.eval 15 _ 35 rfl rfl (by simp) (hdep ⟨15, .data⟩ (by simp) rfl)
      rw [hsame _ _ (by omega) (by omega) (by omega)] at hK
      generalize wf L = wL at hK ⊢
      clear hfr hc hdep hl f15 C11 C4 CI hsame hwf cA zA a11 a4 hrunA hownA hgrA hnilA hlocA c11 c4 cI zI hin hi3 hy0 hy1 hy2
      go_simp
      exact hK
    · intro L a hLs hl hdep hc hfr K hK
      have g16 : a.tmps[36]? = some (.pointer (some ⟨b, 0, none⟩)) := hfr.got 16 _ 36 rfl rfl (hdep ⟨16, .data⟩ (by simp) rfl) (by simp)
      have e16 : a.tmps.getD 36 undef = .pointer (some ⟨b, 0, none⟩) := hfr.eval 16 _ 36 rfl rfl (by simp) (hdep ⟨16, .data⟩ (by simp) rfl)
      have f16 : a.eval (.tmp 36) = .pointer (some ⟨b, 0, none⟩) := hfr.eval 16 _ 36 rfl rfl (by simp) (hdep ⟨16, .data⟩ (by simp) rfl)
      rw [hsame _ _ (by omega) (by omega) (by omega)] at hK
      generalize wf L = wL at hK ⊢
      clear hfr hc hdep hl f16 C11 C4 CI hsame hwf cA zA a11 a4 hrunA hownA hgrA hnilA hlocA c11 c4 cI zI hin hi3 hy0 hy1 hy2
      go_simp
      exact hK
    · intro L a hLs hl hdep hc hfr K hK
      have g17 : a.tmps[37]? = some (.pointer (some ⟨b, 4, none⟩)) := hfr.got 17 _ 37 rfl rfl (hdep ⟨17, .data⟩ (by simp) rfl) (by simp)
      have e17 : a.tmps.getD 37 undef = .pointer (some ⟨b, 4, none⟩) := hfr.eval 17 _ 37 rfl rfl (by simp) (hdep ⟨17, .data⟩ (by simp) rfl)
      have f17 : a.eval (.tmp 37) = .pointer (some ⟨b, 4, none⟩) := hfr.eval 17 _ 37 rfl rfl (by simp) (hdep ⟨17, .data⟩ (by simp) rfl)
      rw [hsame _ _ (by omega) (by omega) (by omega)] at hK
      generalize wf L = wL at hK ⊢
      clear hfr hc hdep hl f17 C11 C4 CI hsame hwf cA zA a11 a4 hrunA hownA hgrA hnilA hlocA c11 c4 cI zI hin hi3 hy0 hy1 hy2
      go_simp
      exact hK
    · intro L a hLs hl hdep hc hfr K hK
      have g18 : a.tmps[38]? = some (.pointer (some ⟨b, 4, none⟩)) := hfr.got 18 _ 38 rfl rfl (hdep ⟨18, .data⟩ (by simp) rfl) (by simp)
      have e18 : a.tmps.getD 38 undef = .pointer (some ⟨b, 4, none⟩) := hfr.eval 18 _ 38 rfl rfl (by simp) (hdep ⟨18, .data⟩ (by simp) rfl)
      have f18 : a.eval (.tmp 38) = .pointer (some ⟨b, 4, none⟩) := hfr.eval 18 _ 38 rfl rfl (by simp) (hdep ⟨18, .data⟩ (by simp) rfl)
      have hcell := C4 L
      rw [hsame _ _ (by omega) (by omega) (by omega)] at hK
      generalize wf L = wL at hcell hK ⊢
      clear hfr hc hdep hl f18 C11 C4 CI hsame hwf cA zA a11 a4 hrunA hownA hgrA hnilA hlocA c11 c4 cI zI hin hi3 hy0 hy1 hy2
      go_simp
      exact hK
    · intro L a hLs hl hdep hc hfr K hK
      have g13 : a.tmps[33]? = some (.slice (some ⟨g1, 0, none⟩) (f + 1) cap1) := hfr.got 13 _ 33 rfl rfl (hdep ⟨13, .data⟩ (by simp) rfl) (by simp)
      have e13 : a.tmps.getD 33 undef = .slice (some ⟨g1, 0, none⟩) (f + 1) cap1 := hfr.eval 13 _ 33 rfl rfl (by simp) (hdep ⟨13, .data⟩ (by simp) rfl)
      have f13 : a.eval (.tmp 33) = .slice (some ⟨g1, 0, none⟩) (f + 1) cap1 := hfr.eval 13 _ 33 rfl rfl (by simp) (hdep ⟨13, .data⟩ (by simp) rfl)
      have g19 : a.tmps[39]? = some (.int .i64 (f : Int)) := hfr.got 19 _ 39 rfl rfl (hdep ⟨19, .data⟩ (by simp) rfl) (by simp)
      have e19 : a.tmps.getD 39 undef = .int .i64 (f : Int) := hfr.eval 19 _ 39 rfl rfl (by simp) (hdep ⟨19, .data⟩ (by simp) rfl)
      have f19 : a.eval (.tmp 39) = .int .i64 (f : Int) := hfr.eval 19 _ 39 rfl rfl (by simp) (hdep ⟨19, .data⟩ (by simp) rfl)
      rw [hsame _ _ (by omega) (by omega) (by omega)] at hK
      generalize wf L = wL at hK ⊢
      clear hfr hc hdep hl f13 f19 C11 C4 CI hsame hwf cA zA a11 a4 hrunA hownA hgrA hnilA hlocA c11 c4 cI zI hin hi3 hy0 hy1 hy2
      go_simp
      exact hK
    · intro L a hLs hl hdep hc hfr K hK
      have g20 : a.tmps[40]? = some (.pointer (some ⟨g1, f, none⟩)) := hfr.got 20 _ 40 rfl rfl (hdep ⟨20, .data⟩ (by simp) rfl) (by simp)
      have e20 : a.tmps.getD 40 undef = .pointer (some ⟨g1, f, none⟩) := hfr.eval 20 _ 40 rfl rfl (by simp) (hdep ⟨20, .data⟩ (by simp) rfl)
      have f20 : a.eval (.tmp 40) = .pointer (some ⟨g1, f, none⟩) := hfr.eval 20 _ 40 rfl rfl (by simp) (hdep ⟨20, .data⟩ (by simp) rfl)
      have hno : L.getD 26 false = false := not_later hc hl 26 _ rfl ⟨21, .phase⟩ (by simp) rfl
      have hcell := CI L hno
      clear hno
      rw [hsame _ _ (by omega) (by omega) (by omega)] at hK
      generalize wf L = wL at hcell hK ⊢
      clear hfr hc hdep hl f20 C11 C4 CI hsame hwf cA zA a11 a4 hrunA hownA hgrA hnilA hlocA c11 c4 cI zI hin hi3 hy0 hy1 hy2
      go_simp
      exact hK
    · intro L a hLs hl hdep hc hfr K hK
      have et1 : a.tmps.getD 1 undef = .int .i64 k := hfr.evalBase 1 (by kernel_rfl)
      have ft1 : a.eval (.tmp 1) = .int .i64 k := hfr.evalBase 1 (by kernel_rfl)
      rw [hsame _ _ (by omega) (by omega) (by omega)] at hK
      generalize wf L = wL at hK ⊢
      clear hfr hc hdep hl ft1 C11 C4 CI hsame hwf cA zA a11 a4 hrunA hownA hgrA hnilA hlocA c11 c4 cI zI hin hi3 hy0 hy1 hy2
      go_simp
      exact hK
    · intro L a hLs hl hdep hc hfr K hK
      have g22 : a.tmps[42]? = some (.int .i64 k) := hfr.got 22 _ 42 rfl rfl (hdep ⟨22, .data⟩ (by simp) rfl) (by simp)
      have e22 : a.tmps.getD 42 undef = .int .i64 k := hfr.eval 22 _ 42 rfl rfl (by simp) (hdep ⟨22, .data⟩ (by simp) rfl)
      have f22 : a.eval (.tmp 42) = .int .i64 k := hfr.eval 22 _ 42 rfl rfl (by simp) (hdep ⟨22, .data⟩ (by simp) rfl)
      have hA1 : L.getD 24 false = false := not_later hc hl 24 _ rfl ⟨23, .data⟩ (by simp) rfl
      have hA2 : L.getD 26 false = false := not_later hc hl 26 _ rfl ⟨23, .phase⟩ (by simp) rfl
      have w1' : wf L = W2.drew := by rw [hwf.out, hA2, hA1, hl]; rfl
      have w2' : wf (L.setIfInBounds 23 true) = (W2.alloc (.cells #[.int .i64 k] 3)).drew := by
        rw [hwf.out, getD_set_ne (by omega), getD_set_ne (by omega), hA2, hA1, getD_set_self]
        · rfl
        · exact (by rw [hLs]; simp)
      rw [w1']
      rw [w2'] at hK
      clear hfr hc hdep hl w1' w2' hA1 hA2 C11 C4 CI hsame hwf cA zA a11 a4 hrunA hownA hgrA hnilA hlocA c11 c4 cI zI hin hi3 hy0 hy1 hy2 f22
      go_simp
      exact hK
    · intro L a hLs hl hdep hc hfr K hK
      have g21 : a.tmps[41]? = some (vI) := hfr.got 21 _ 41 rfl rfl (hdep ⟨21, .data⟩ (by simp) rfl) (by simp)
      have e21 : a.tmps.getD 41 undef = vI := hfr.eval 21 _ 41 rfl rfl (by simp) (hdep ⟨21, .data⟩ (by simp) rfl)
      have f21 : a.eval (.tmp 41) = vI := hfr.eval 21 _ 41 rfl rfl (by simp) (hdep ⟨21, .data⟩ (by simp) rfl)
      have g23 : a.tmps[43]? = some (.slice (some ⟨W2.heap.size, 0, none⟩) 1 1) := hfr.got 23 _ 43 rfl rfl (hdep ⟨23, .data⟩ (by simp) rfl) (by simp)
      have e23 : a.tmps.getD 43 undef = .slice (some ⟨W2.heap.size, 0, none⟩) 1 1 := hfr.eval 23 _ 43 rfl rfl (by simp) (hdep ⟨23, .data⟩ (by simp) rfl)
      have f23 : a.eval (.tmp 43) = .slice (some ⟨W2.heap.size, 0, none⟩) 1 1 := hfr.eval 23 _ 43 rfl rfl (by simp) (hdep ⟨23, .data⟩ (by simp) rfl)
      have h23 := hdep ⟨23, .data⟩ (by simp) rfl
      have h26 : L.getD 26 false = false := not_later hc hl 26 _ rfl ⟨24, .data⟩ (by simp) rfl
      have w1' : wf L = (W2.alloc (.cells #[.int .i64 k] 3)).drew := by rw [hwf.out, h26, hl, h23]; rfl
      have w2' : wf (L.setIfInBounds 24 true) = WA := by
        rw [hwf.out, getD_set_ne (by omega), h26, getD_set_self]
        · rfl
        · exact (by rw [hLs]; simp)
      rw [w1']
      rw [w2'] at hK
      rw [if_pos (by simp [Region.wanted])]
      unfold Oper.wp execOp
      simp only [resolve, invoke, builtin, Sem.run_bind, Sem.run_pure, Result.andThen_ok, List.map_toArray, List.map_cons, List.map_nil, f21, f23, hrunA]
      exact hK
    · intro L a hLs hl hdep hc hfr K hK
      have g3 : a.tmps[23]? = some (.slice (some ⟨g1, 0, none⟩) (f + 1) cap1) := hfr.got 3 _ 23 rfl rfl (hdep ⟨3, .data⟩ (by simp) rfl) (by simp)
      have e3 : a.tmps.getD 23 undef = .slice (some ⟨g1, 0, none⟩) (f + 1) cap1 := hfr.eval 3 _ 23 rfl rfl (by simp) (hdep ⟨3, .data⟩ (by simp) rfl)
      have f3 : a.eval (.tmp 23) = .slice (some ⟨g1, 0, none⟩) (f + 1) cap1 := hfr.eval 3 _ 23 rfl rfl (by simp) (hdep ⟨3, .data⟩ (by simp) rfl)
      have g9 : a.tmps[29]? = some (.int .i64 (f : Int)) := hfr.got 9 _ 29 rfl rfl (hdep ⟨9, .data⟩ (by simp) rfl) (by simp)
      have e9 : a.tmps.getD 29 undef = .int .i64 (f : Int) := hfr.eval 9 _ 29 rfl rfl (by simp) (hdep ⟨9, .data⟩ (by simp) rfl)
      have f9 : a.eval (.tmp 29) = .int .i64 (f : Int) := hfr.eval 9 _ 29 rfl rfl (by simp) (hdep ⟨9, .data⟩ (by simp) rfl)
      rw [hsame _ _ (by omega) (by omega) (by omega)] at hK
      generalize wf L = wL at hK ⊢
      clear hfr hc hdep hl f3 f9 C11 C4 CI hsame hwf cA zA a11 a4 hrunA hownA hgrA hnilA hlocA c11 c4 cI zI hin hi3 hy0 hy1 hy2
      go_simp
      exact hK
    · intro L a hLs hl hdep hc hfr K hK
      have g25 : a.tmps[45]? = some (.pointer (some ⟨g1, f, none⟩)) := hfr.got 25 _ 45 rfl rfl (hdep ⟨25, .data⟩ (by simp) rfl) (by simp)
      have e25 : a.tmps.getD 45 undef = .pointer (some ⟨g1, f, none⟩) := hfr.eval 25 _ 45 rfl rfl (by simp) (hdep ⟨25, .data⟩ (by simp) rfl)
      have f25 : a.eval (.tmp 45) = .pointer (some ⟨g1, f, none⟩) := hfr.eval 25 _ 45 rfl rfl (by simp) (hdep ⟨25, .data⟩ (by simp) rfl)
      have g24 : a.tmps[44]? = some (.slice (some ⟨gA, 0, none⟩) (zs.length + 1) capA) := hfr.got 24 _ 44 rfl rfl (hdep ⟨24, .data⟩ (by simp) rfl) (by simp)
      have e24 : a.tmps.getD 44 undef = .slice (some ⟨gA, 0, none⟩) (zs.length + 1) capA := hfr.eval 24 _ 44 rfl rfl (by simp) (hdep ⟨24, .data⟩ (by simp) rfl)
      have f24 : a.eval (.tmp 44) = .slice (some ⟨gA, 0, none⟩) (zs.length + 1) capA := hfr.eval 24 _ 44 rfl rfl (by simp) (hdep ⟨24, .data⟩ (by simp) rfl)
      have h24 := hdep ⟨24, .data⟩ (by simp) rfl
      have w1' : wf L = WA := by rw [hwf.out, hl, h24]; rfl
      have w2' : wf (L.setIfInBounds 26 true) = WA.setCell ⟨g1, f, none⟩ (.slice (some ⟨gA, 0, none⟩) (zs.length + 1) capA) := by
        rw [hwf.out, getD_set_self]
        · rfl
        · exact (by rw [hLs]; simp)
      rw [w1']
      rw [w2'] at hK
      clear hfr hc hdep hl w1' w2' h24 C11 C4 CI hsame hwf a11 a4 hrunA hownA hgrA hnilA hlocA c11 c4 cI zI hin hi3 hy0 hy1 hy2 f25 f24
      go_simp
      exact hK
  · intro L hall
    have hlast := hall 26 (by simp)
    rw [hwf.out, hlast, if_pos rfl]
    simp only [finA, Act.put, List.setIfInBounds_toArray, List.set_cons_zero, List.set_cons_succ]
    have HR3n := HR3
    have hsf3 : Hid ((putB r2 f (zs ++ [k])).s.f = (f : Int)) := hsf
    generalize World.setCell WA _ _ = W3 at HR3n ⊢
    obtain ⟨r3, hr3⟩ : ∃ r3, Hid (r3 = putB r2 f (zs ++ [k])) := ⟨_, Lib.hid rfl⟩
    rw [← hr3.out] at HR3n
    have hcl3 : Hid (r3.cs.length ≤ 100) := Lib.hid (by rw [hr3.out]; exact hcl2.out)
    clear hin hinm c11 c4 cI zI hzl hi3 hy0 hy1 hy2 hf0 hf1 hf2 hf3 hbf hgf hb2 hg12 hg2 hbg hgb hrunA hownA hgrA hnilA hlocA cA zA a11 a4 C11 C4 CI hsame hwf hall hlast HR3 hsf3 hsz2
    have HR3 := HR3n
    clear HR3n
    go_wp2_with fail
    have d12 := HR3.out.rb.c12
    have hsz3 := HR3.out.sz
    have hown3 := HR3.out.ow.own (3, cv, r3.cs.map (Value.int .i64)) (by simp [items])
    have hown3 : W3.ownsRow base 3 1 cv r3.cs.length (r3.cs.map (Value.int .i64)) := by simpa using hown3
    have hbc : some b ≠ cv.ownBlock := ownBlock_ne HR3.out.ow (p := (3, cv, r3.cs.map (Value.int .i64))) (by simp [items]) HR3.out.hb
    have hb3 : b < W3.heap.size := lt_of_block HR3.out.rb.blk
    have hcl : r3.cs.length ≤ 100 := hcl3.out
    obtain ⟨j3, hj3, hx0, hx1, hx2⟩ := info_parts info3
    obtain ⟨vC, WC, hrunA, hownA, hgrA, hnilA, hlocA⟩ := run_append_own_at (P := Tryd.prog) (w := (W3.alloc (.cells #[.int .i64 (cnt l r3.s k)] 3)).drew) base 28 28 3 j3 (.int .i64 0) 1 8 Tryd.underlying28 hj3 hx0 hx1 hx2 rfl (by omega) cv r3.cs.length (r3.cs.map (Value.int .i64)) ((hown3.alloc _).drew) ⟨W3.heap.size, 0, none⟩ 1 1 [.int .i64 (cnt l r3.s k)] rfl (World.news_of_block (cs := #[.int .i64 (cnt l r3.s k)]) (t := 3) (fr := (0, 0)) (heap_alloc_new W3 _)) (by simp [Value.oneCell']) (by unfold maxLen; omega) (by omega) (by simp; omega)
    obtain ⟨gC, capC, rfl⟩ := ownsRow_succ hownA
    have gg := grown_alloc_drew hgrA
    have rbC := HR3.out.rb.grown gg hbc
    have a12 := rbC.c12
    have zA2 := rbC.free 12
    have HR4 := Lib.hid (HR3.out.count (x := cnt l r3.s k) gg (by simpa using hownA) (hlocA.imp id (fun e k hk => by rw [e] at hk; cases hk; simp)))
    have gA0 := HR3.out.rb.at
    have gAC := rbC.at
    have gAS := HR4.out.rb.at
    obtain ⟨wf, hwf⟩ : ∃ wf : Array Bool → World, Hid (∀ L, wf L = if L.getD 14 false = true then WC.setCell ⟨b, 12, none⟩ (.slice (some ⟨gC, 0, none⟩) (r3.cs.length + 1) capC) else if L.getD 11 false = true then WC else if L.getD 10 false = true then (W3.alloc (.cells #[.int .i64 (cnt l r3.s k)] 3)).drew else W3.drew) := ⟨_, Lib.hid (fun _ => rfl)⟩
    have D12 : ∀ L, L.getD 14 false = false → (wf L).cell? ⟨b, 12, none⟩ = some cv := fun L h => by
      rw [hwf.out, h, if_neg (by simp)]
      split
      · exact a12
      · split
        · exact cell_alloc_d d12 _
        · exact d12
    have GA : ∀ L, GameAt (wf L) b l r3.s := fun L => by
      rw [hwf.out]; split
      · exact gAS
      · split
        · exact gAC
        · split
          · exact (gA0.grownN (World.grownBy_alloc W3 _ none)).drewN 1
          · exact gA0.drewN 1
    have hsame : ∀ (L : Array Bool) (i : Nat), i ≠ 10 → i ≠ 11 → i ≠ 14 → wf (L.setIfInBounds i true) = wf L := fun L i h10 h11 h14 => by
      rw [hwf.out, hwf.out, getD_set_ne (Ne.symm h14), getD_set_ne (Ne.symm h11), getD_set_ne (Ne.symm h10)]
    refine wp_region_flow (val := fun i => match i with
      | 0 => .pointer (some ⟨b, 0, none⟩)
      | 1 => .pointer (some ⟨b, 0, none⟩)
      | 2 => .pointer (some ⟨b, 0, none⟩)
      | 3 => .pointer (some ⟨b, 12, none⟩)
      | 4 => cv
      | 5 => .pointer (some ⟨b, 0, none⟩)
      | 6 => .pointer (some ⟨b, 0, none⟩)
      | 7 => .pointer (some ⟨b, 0, none⟩)
      | 8 => .int .i64 k
      | 9 => .int .i64 (cnt l r3.s k)
      | 10 => .slice (some ⟨W3.heap.size, 0, none⟩) 1 1
      | 11 => .slice (some ⟨gC, 0, none⟩) (r3.cs.length + 1) capC
      | 12 => .pointer (some ⟨b, 0, none⟩)
      | 13 => .pointer (some ⟨b, 12, none⟩)
      | _ => undef) wf (by kernel_rfl) (by kernel_rfl) (by kernel_rfl) (by rw [hwf.out]; rfl) ?_ ?_
    · refine ⟨?_, ?_, ?_, ?_, ?_, ?_, ?_, ?_, ?_, ?_, ?_, ?_, ?_, ?_, ?_, trivial⟩
      · intro L a hLs hl hdep hc hfr K hK
        have et0 : a.tmps.getD 0 undef = .pointer (some ⟨b, 0, none⟩) := hfr.evalBase 0 (by kernel_rfl)
        have ft0 : a.eval (.tmp 0) = .pointer (some ⟨b, 0, none⟩) := hfr.evalBase 0 (by kernel_rfl)
        rw [hsame _ _ (by omega) (by omega) (by omega)] at hK
        generalize wf L = wL at hK ⊢
        clear hfr hc hdep hl ft0 D12 GA hsame hwf a12 zA2 hrunA hownA hgrA hnilA hlocA d12 hown3 hj3 hx0 hx1 hx2
        go_simp
        exact hK
      · intro L a hLs hl hdep hc hfr K hK
        have et0 : a.tmps.getD 0 undef = .pointer (some ⟨b, 0, none⟩) := hfr.evalBase 0 (by kernel_rfl)
        have ft0 : a.eval (.tmp 0) = .pointer (some ⟨b, 0, none⟩) := hfr.evalBase 0 (by kernel_rfl)
        rw [hsame _ _ (by omega) (by omega) (by omega)] at hK
        generalize wf L = wL at hK ⊢
        clear hfr hc hdep hl ft0 D12 GA hsame hwf a12 zA2 hrunA hownA hgrA hnilA hlocA d12 hown3 hj3 hx0 hx1 hx2
        go_simp
        exact hK
      · intro L a hLs hl hdep hc hfr K hK
        have g1 : a.tmps[47]? = some (.pointer (some ⟨b, 0, none⟩)) := hfr.got 1 _ 47 rfl rfl (hdep ⟨1, .data⟩ (by simp) rfl) (by simp)
        have e1 : a.tmps.getD 47 undef = .pointer (some ⟨b, 0, none⟩) := hfr.eval 1 _ 47 rfl rfl (by simp) (hdep ⟨1, .data⟩ (by simp) rfl)
        have f1 : a.eval (.tmp 47) = .pointer (some ⟨b, 0, none⟩) := hfr.eval 1 _ 47 rfl rfl (by simp) (hdep ⟨1, .data⟩ (by simp) rfl)
        rw [hsame _ _ (by omega) (by omega) (by omega)] at hK
        generalize wf L = wL at hK ⊢
        clear hfr hc hdep hl f1 D12 GA hsame hwf a12 zA2 hrunA hownA hgrA hnilA hlocA d12 hown3 hj3 hx0 hx1 hx2
        go_simp
        exact hK
      · intro L a hLs hl hdep hc hfr K hK
        have g2 : a.tmps[48]? = some (.pointer (some ⟨b, 0, none⟩)) := hfr.got 2 _ 48 rfl rfl (hdep ⟨2, .data⟩ (by simp) rfl) (by simp)
        have e2 : a.tmps.getD 48 undef = .pointer (some ⟨b, 0, none⟩) := hfr.eval 2 _ 48 rfl rfl (by simp) (hdep ⟨2, .data⟩ (by simp) rfl)
        have f2 : a.eval (.tmp 48) = .pointer (some ⟨b, 0, none⟩) := hfr.eval 2 _ 48 rfl rfl (by simp) (hdep ⟨2, .data⟩ (by simp) rfl)
        rw [hsame _ _ (by omega) (by omega) (by omega)] at hK
        generalize wf L = wL at hK ⊢
        clear hfr hc hdep hl f2 D12 GA hsame hwf a12 zA2 hrunA hownA hgrA hnilA hlocA d12 hown3 hj3 hx0 hx1 hx2
        go_simp
        exact hK
      · intro L a hLs hl hdep hc hfr K hK
        have g3 : a.tmps[49]? = some (.pointer (some ⟨b, 12, none⟩)) := hfr.got 3 _ 49 rfl rfl (hdep ⟨3, .data⟩ (by simp) rfl) (by simp)
        have e3 : a.tmps.getD 49 undef = .pointer (some ⟨b, 12, none⟩) := hfr.eval 3 _ 49 rfl rfl (by simp) (hdep ⟨3, .data⟩ (by simp) rfl)
        have f3 : a.eval (.tmp 49) = .pointer (some ⟨b, 12, none⟩) := hfr.eval 3 _ 49 rfl rfl (by simp) (hdep ⟨3, .data⟩ (by simp) rfl)
        have hno : L.getD 14 false = false := not_later hc hl 14 _ rfl ⟨4, .phase⟩ (by simp) rfl
        have hcell := D12 L hno
        clear hno
        rw [hsame _ _ (by omega) (by omega) (by omega)] at hK
        generalize wf L = wL at hcell hK ⊢
        clear hfr hc hdep hl f3 D12 GA hsame hwf a12 zA2 hrunA hownA hgrA hnilA hlocA d12 hown3 hj3 hx0 hx1 hx2
        go_simp
        exact hK
      · intro L a hLs hl hdep hc hfr K hK
        have et0 : a.tmps.getD 0 undef = .pointer (some ⟨b, 0, none⟩) := hfr.evalBase 0 (by kernel_rfl)
        have ft0 : a.eval (.tmp 0) = .pointer (some ⟨b, 0, none⟩) := hfr.evalBase 0 (by kernel_rfl)
        rw [hsame _ _ (by omega) (by omega) (by omega)] at hK
        generalize wf L = wL at hK ⊢
        clear hfr hc hdep hl ft0 D12 GA hsame hwf a12 zA2 hrunA hownA hgrA hnilA hlocA d12 hown3 hj3 hx0 hx1 hx2
        go_simp
        exact hK
      · intro L a hLs hl hdep hc hfr K hK
        have g5 : a.tmps[51]? = some (.pointer (some ⟨b, 0, none⟩)) := hfr.got 5 _ 51 rfl rfl (hdep ⟨5, .data⟩ (by simp) rfl) (by simp)
        have e5 : a.tmps.getD 51 undef = .pointer (some ⟨b, 0, none⟩) := hfr.eval 5 _ 51 rfl rfl (by simp) (hdep ⟨5, .data⟩ (by simp) rfl)
        have f5 : a.eval (.tmp 51) = .pointer (some ⟨b, 0, none⟩) := hfr.eval 5 _ 51 rfl rfl (by simp) (hdep ⟨5, .data⟩ (by simp) rfl)
        rw [hsame _ _ (by omega) (by omega) (by omega)] at hK
        generalize wf L = wL at hK ⊢
        clear hfr hc hdep hl f5 D12 GA hsame hwf a12 zA2 hrunA hownA hgrA hnilA hlocA d12 hown3 hj3 hx0 hx1 hx2
        go_simp
        exact hK
      · intro L a hLs hl hdep hc hfr K hK
        have g6 : a.tmps[52]? = some (.pointer (some ⟨b, 0, none⟩)) := hfr.got 6 _ 52 rfl rfl (hdep ⟨6, .data⟩ (by simp) rfl) (by simp)
        have e6 : a.tmps.getD 52 undef = .pointer (some ⟨b, 0, none⟩) := hfr.eval 6 _ 52 rfl rfl (by simp) (hdep ⟨6, .data⟩ (by simp) rfl)
        have f6 : a.eval (.tmp 52) = .pointer (some ⟨b, 0, none⟩) := hfr.eval 6 _ 52 rfl rfl (by simp) (hdep ⟨6, .data⟩ (by simp) rfl)
        rw [hsame _ _ (by omega) (by omega) (by omega)] at hK
        generalize wf L = wL at hK ⊢
        clear hfr hc hdep hl f6 D12 GA hsame hwf a12 zA2 hrunA hownA hgrA hnilA hlocA d12 hown3 hj3 hx0 hx1 hx2
        go_simp
        exact hK
      · intro L a hLs hl hdep hc hfr K hK
        have et1 : a.tmps.getD 1 undef = .int .i64 k := hfr.evalBase 1 (by kernel_rfl)
        have ft1 : a.eval (.tmp 1) = .int .i64 k := hfr.evalBase 1 (by kernel_rfl)
        rw [hsame _ _ (by omega) (by omega) (by omega)] at hK
        generalize wf L = wL at hK ⊢
        clear hfr hc hdep hl ft1 D12 GA hsame hwf a12 zA2 hrunA hownA hgrA hnilA hlocA d12 hown3 hj3 hx0 hx1 hx2
        go_simp
        exact hK
      · intro L a hLs hl hdep hc hfr K hK
        have g7 : a.tmps[53]? = some (.pointer (some ⟨b, 0, none⟩)) := hfr.got 7 _ 53 rfl rfl (hdep ⟨7, .data⟩ (by simp) rfl) (by simp)
        have e7 : a.tmps.getD 53 undef = .pointer (some ⟨b, 0, none⟩) := hfr.eval 7 _ 53 rfl rfl (by simp) (hdep ⟨7, .data⟩ (by simp) rfl)
        have f7 : a.eval (.tmp 53) = .pointer (some ⟨b, 0, none⟩) := hfr.eval 7 _ 53 rfl rfl (by simp) (hdep ⟨7, .data⟩ (by simp) rfl)
        have g8 : a.tmps[54]? = some (.int .i64 k) := hfr.got 8 _ 54 rfl rfl (hdep ⟨8, .data⟩ (by simp) rfl) (by simp)
        have e8 : a.tmps.getD 54 undef = .int .i64 k := hfr.eval 8 _ 54 rfl rfl (by simp) (hdep ⟨8, .data⟩ (by simp) rfl)
        have f8 : a.eval (.tmp 54) = .int .i64 k := hfr.eval 8 _ 54 rfl rfl (by simp) (hdep ⟨8, .data⟩ (by simp) rfl)
        rw [hsame _ _ (by omega) (by omega) (by omega)] at hK
        have hg := GA L
        generalize wf L = wL at hg hK ⊢
        clear hfr hc hdep hl f7 f8 D12 GA hsame hwf a12 zA2 hrunA hownA hgrA hnilA hlocA d12 hown3 hj3 hx0 hx1 hx2
        go_simp
        refine (counts_any b l r3.s k _ hg).mono ?_
        rintro e w' ⟨rfl, rfl⟩
        exact hK
      · intro L a hLs hl hdep hc hfr K hK
        have g9 : a.tmps[55]? = some (.int .i64 (cnt l r3.s k)) := hfr.got 9 _ 55 rfl rfl (hdep ⟨9, .data⟩ (by simp) rfl) (by simp)
        have e9 : a.tmps.getD 55 undef = .int .i64 (cnt l r3.s k) := hfr.eval 9 _ 55 rfl rfl (by simp) (hdep ⟨9, .data⟩ (by simp) rfl)
        have f9 : a.eval (.tmp 55) = .int .i64 (cnt l r3.s k) := hfr.eval 9 _ 55 rfl rfl (by simp) (hdep ⟨9, .data⟩ (by simp) rfl)
        have hA1 : L.getD 11 false = false := not_later hc hl 11 _ rfl ⟨10, .data⟩ (by simp) rfl
        have hA2 : L.getD 14 false = false := not_later hc hl 14 _ rfl ⟨10, .phase⟩ (by simp) rfl
        have w1' : wf L = W3.drew := by rw [hwf.out, hA2, hA1, hl]; rfl
        have w2' : wf (L.setIfInBounds 10 true) = (W3.alloc (.cells #[.int .i64 (cnt l r3.s k)] 3)).drew := by
          rw [hwf.out, getD_set_ne (by omega), getD_set_ne (by omega), hA2, hA1, getD_set_self]
          · rfl
          · exact (by rw [hLs]; simp)
        rw [w1']
        rw [w2'] at hK
        clear hfr hc hdep hl w1' w2' hA1 hA2 D12 GA hsame hwf a12 zA2 hrunA hownA hgrA hnilA hlocA d12 hown3 hj3 hx0 hx1 hx2 f9
        go_simp
        exact hK
      · intro L a hLs hl hdep hc hfr K hK
        have g4 : a.tmps[50]? = some (cv) := hfr.got 4 _ 50 rfl rfl (hdep ⟨4, .data⟩ (by simp) rfl) (by simp)
        have e4 : a.tmps.getD 50 undef = cv := hfr.eval 4 _ 50 rfl rfl (by simp) (hdep ⟨4, .data⟩ (by simp) rfl)
        have f4 : a.eval (.tmp 50) = cv := hfr.eval 4 _ 50 rfl rfl (by simp) (hdep ⟨4, .data⟩ (by simp) rfl)
        have g10 : a.tmps[56]? = some (.slice (some ⟨W3.heap.size, 0, none⟩) 1 1) := hfr.got 10 _ 56 rfl rfl (hdep ⟨10, .data⟩ (by simp) rfl) (by simp)
        have e10 : a.tmps.getD 56 undef = .slice (some ⟨W3.heap.size, 0, none⟩) 1 1 := hfr.eval 10 _ 56 rfl rfl (by simp) (hdep ⟨10, .data⟩ (by simp) rfl)
        have f10 : a.eval (.tmp 56) = .slice (some ⟨W3.heap.size, 0, none⟩) 1 1 := hfr.eval 10 _ 56 rfl rfl (by simp) (hdep ⟨10, .data⟩ (by simp) rfl)
        have h23 := hdep ⟨10, .data⟩ (by simp) rfl
        have h26 : L.getD 14 false = false := not_later hc hl 14 _ rfl ⟨11, .data⟩ (by simp) rfl
        have w1' : wf L = (W3.alloc (.cells #[.int .i64 (cnt l r3.s k)] 3)).drew := by rw [hwf.out, h26, hl, h23]; rfl
        have w2' : wf (L.setIfInBounds 11 true) = WC := by
          rw [hwf.out, getD_set_ne (by omega), h26, getD_set_self]
          · rfl
          · exact (by rw [hLs]; simp)
        rw [w1']
        rw [w2'] at hK
        rw [if_pos (by simp [Region.wanted])]
        unfold Oper.wp execOp
        simp only [resolve, invoke, builtin, Sem.run_bind, Sem.run_pure, Result.andThen_ok, List.map_toArray, List.map_cons, List.map_nil, f4, f10, hrunA]
        exact hK
      · intro L a hLs hl hdep hc hfr K hK
        have g0 : a.tmps[46]? = some (.pointer (some ⟨b, 0, none⟩)) := hfr.got 0 _ 46 rfl rfl (hdep ⟨0, .data⟩ (by simp) rfl) (by simp)
        have e0 : a.tmps.getD 46 undef = .pointer (some ⟨b, 0, none⟩) := hfr.eval 0 _ 46 rfl rfl (by simp) (hdep ⟨0, .data⟩ (by simp) rfl)
        have f0 : a.eval (.tmp 46) = .pointer (some ⟨b, 0, none⟩) := hfr.eval 0 _ 46 rfl rfl (by simp) (hdep ⟨0, .data⟩ (by simp) rfl)
        rw [hsame _ _ (by omega) (by omega) (by omega)] at hK
        generalize wf L = wL at hK ⊢
        clear hfr hc hdep hl f0 D12 GA hsame hwf a12 zA2 hrunA hownA hgrA hnilA hlocA d12 hown3 hj3 hx0 hx1 hx2
        go_simp
        exact hK
      · intro L a hLs hl hdep hc hfr K hK
        have g12 : a.tmps[58]? = some (.pointer (some ⟨b, 0, none⟩)) := hfr.got 12 _ 58 rfl rfl (hdep ⟨12, .data⟩ (by simp) rfl) (by simp)
        have e12 : a.tmps.getD 58 undef = .pointer (some ⟨b, 0, none⟩) := hfr.eval 12 _ 58 rfl rfl (by simp) (hdep ⟨12, .data⟩ (by simp) rfl)
        have f12 : a.eval (.tmp 58) = .pointer (some ⟨b, 0, none⟩) := hfr.eval 12 _ 58 rfl rfl (by simp) (hdep ⟨12, .data⟩ (by simp) rfl)
        rw [hsame _ _ (by omega) (by omega) (by omega)] at hK
        generalize wf L = wL at hK ⊢
        clear hfr hc hdep hl f12 D12 GA hsame hwf a12 zA2 hrunA hownA hgrA hnilA hlocA d12 hown3 hj3 hx0 hx1 hx2
        go_simp
        exact hK
      · intro L a hLs hl hdep hc hfr K hK
        have g13 : a.tmps[59]? = some (.pointer (some ⟨b, 12, none⟩)) := hfr.got 13 _ 59 rfl rfl (hdep ⟨13, .data⟩ (by simp) rfl) (by simp)
        have e13 : a.tmps.getD 59 undef = .pointer (some ⟨b, 12, none⟩) := hfr.eval 13 _ 59 rfl rfl (by simp) (hdep ⟨13, .data⟩ (by simp) rfl)
        have f13 : a.eval (.tmp 59) = .pointer (some ⟨b, 12, none⟩) := hfr.eval 13 _ 59 rfl rfl (by simp) (hdep ⟨13, .data⟩ (by simp) rfl)
        have g11 : a.tmps[57]? = some (.slice (some ⟨gC, 0, none⟩) (r3.cs.length + 1) capC) := hfr.got 11 _ 57 rfl rfl (hdep ⟨11, .data⟩ (by simp) rfl) (by simp)
        have e11 : a.tmps.getD 57 undef = .slice (some ⟨gC, 0, none⟩) (r3.cs.length + 1) capC := hfr.eval 11 _ 57 rfl rfl (by simp) (hdep ⟨11, .data⟩ (by simp) rfl)
        have f11 : a.eval (.tmp 57) = .slice (some ⟨gC, 0, none⟩) (r3.cs.length + 1) capC := hfr.eval 11 _ 57 rfl rfl (by simp) (hdep ⟨11, .data⟩ (by simp) rfl)
        have h24 := hdep ⟨11, .data⟩ (by simp) rfl
        have w1' : wf L = WC := by rw [hwf.out, hl, h24]; rfl
        have w2' : wf (L.setIfInBounds 14 true) = WC.setCell ⟨b, 12, none⟩ (.slice (some ⟨gC, 0, none⟩) (r3.cs.length + 1) capC) := by
          rw [hwf.out, getD_set_self]
          · rfl
          · exact (by rw [hLs]; simp)
        rw [w1']
        rw [w2'] at hK
        clear hfr hc hdep hl w1' w2' h24 D12 GA hsame hwf hrunA hownA hgrA hnilA hlocA d12 hown3 hj3 hx0 hx1 hx2 f13 f11
        go_simp
        exact hK
    · intro L hall
      have hlast := hall 14 (by simp)
      rw [hwf.out, hlast, if_pos rfl]
      simp only [finA, Act.put, List.setIfInBounds_toArray, List.set_cons_zero, List.set_cons_succ]
      have HR4n := HR4
      generalize World.setCell WC _ _ = W4 at HR4n ⊢
      clear hsz3 hown3 hbc hb3 hcl hj3 hx0 hx1 hx2 hrunA hownA hgrA hnilA hlocA gg rbC a12 zA2 gA0 gAC gAS D12 GA hsame hwf hall hlast HR4 d12
      obtain ⟨r4, hr4⟩ : ∃ r4, Hid (r4 = cntB r3 (cnt l r3.s k)) := ⟨_, Lib.hid rfl⟩
      rw [← hr4.out] at HR4n
      have hs34 : Hid (r4.s = r.s) := Lib.hid (by rw [hr4.out]; show r3.s = _; rw [hr3.out]; exact hs2.out)
      have hcq : Hid (r3.s = r.s) := Lib.hid (by rw [hr3.out]; exact hs2.out)
      have ht4 : Hid (r4.tot = r.tot) := Lib.hid (by rw [hr4.out]; show r3.tot = _; rw [hr3.out]; exact ht2.out)
      have c13 : W4.cell? ⟨b, 13, none⟩ = some (.int .i64 r.tot) := by rw [← ht4.out]; exact HR4n.out.rb.c13
      have z13 := HR4n.out.rb.free 13
      have H4d : Hid (RecI w0 W4.drew B base b l r4 (.slice (some ⟨g1, 0, none⟩) (f + 1) cap1) (.slice (some ⟨gC, 0, none⟩) (r3.cs.length + 1) capC) (vs2.set f (.slice (some ⟨gA, 0, none⟩) (zs.length + 1) capA))) := Lib.hid (HR4n.out.keep (grown_drewN (World.grownBy.refl W4 none) 1))
      have hnn := cnt_bd l r.s k ok hk1 hk2
      have hm1 : 0 ≤ cnt l r.s k * (1 + r.s.x) := Int.mul_nonneg hnn.1 (by omega)
      have hm2 : cnt l r.s k * (1 + r.s.x) ≤ 40 := by
        have : cnt l r.s k * (1 + r.s.x) ≤ 10 * 4 := Int.mul_le_mul hnn.2 (by omega) (by omega) (by omega)
        omega
      obtain ⟨ad', had⟩ : ∃ ad' : Int, Hid (ad' = cnt l r.s k * (1 + r.s.x)) := ⟨_, Lib.hid rfl⟩
      rw [← had.out] at hm1 hm2
      have ew : IntKind.i64.wrap (r.tot + ad') = r.tot + ad' := IntWalk.i64_in _ (by omega)
      clear hnn
      go_wp2_with fail
      go_region_with (go_at_call 56; refine (adds_rec had.out hs34.out ht4.out ok hk1 hk2 hx1 hx2 (by assumption)).mono ?_; rintro e w' ⟨rfl, hX, c13', z13'⟩)
      all_goals
        have HR5 := Lib.hid (hX.out.total (r.tot + ad'))
        clear c13 z13 c13' z13' H4d hX HR4n ew
        generalize World.setCell _ _ _ = W5 at HR5 ⊢
        obtain ⟨h0, h1, h2, h3, h4, h5, h6, h7, h8, h9, h10⟩ := HR5.out.rb.at
        go_wp2_with fail
        refine (behind_lit (s0 := r.s) (by exact hs34.out) k ok hIn.out hk1 hk2).mono ?_
        rintro e w6 ⟨rfl, hb6⟩
        have HR6 := Lib.hid (HR5.out.keep hb6)
        clear hb6 h0 h1 h2 h3 h4 h5 h6 h7 h8 h9 h10 HR5
        obtain ⟨h0, h1, h2, h3, h4, h5, h6, h7, h8, h9, h10⟩ := HR6.out.rb.at
        have q0 := HR6.out.rb.free 0
        have q1 := HR6.out.rb.free 1
        have q2 := HR6.out.rb.free 2
        have q3 := HR6.out.rb.free 3
        have q4 := HR6.out.rb.free 4
        have q5 := HR6.out.rb.free 5
        have q6 := HR6.out.rb.free 6
        have q7 := HR6.out.rb.free 7
        have q8 := HR6.out.rb.free 8
        have q9 := HR6.out.rb.free 9
        have q10 := HR6.out.rb.free 10
        obtain ⟨sn, hsn⟩ : ∃ sn, Hid (sn = behS l r.s k) := ⟨_, Lib.hid rfl⟩
        rw [← hsn.out]
        go_wp2_with fail
        have HR7 := Lib.hid (HR6.out.game sn)
        clear h0 h1 h2 h3 h4 h5 h6 h7 h8 h9 h10 q0 q1 q2 q3 q4 q5 q6 q7 q8 q9 q10 HR6
        generalize World.setCell _ _ _ = w7 at HR7 ⊢
        go_returns
        refine ⟨rfl, Lib.hid ⟨_, _, _, by rw [fin_note hr2.out hr3.out hr4.out hcq.out hsn.out had.out hzs.out hfq.out] at HR7; exact HR7.out⟩⟩

end Go.Proofs.YtmjbidnlknmcgabDoor
