/- The law DictOver: fields are gone over as they were when All was called, whatever is done meanwhile; what is answered is its caller's. -/
import Derived.Test.YtolihcgpnoacaaaDoorIter
import Derived.Test.YtolihcgpnoacaaaDoorRefA
namespace Go.Proofs.YtolihcgpnoacaaaDoor.Over
open Go.RowKit Go.Maps Go.Sort Go.Shelf
open Go.Proofs.YtolihcgpnoacaaaDoor.DictMath
open Go.Proofs.YtolihcgpnoacaaaDoor.Base
open Go.Proofs.YtolihcgpnoacaaaDoor.Small
open Go.Proofs.YtolihcgpnoacaaaDoor.Of
open Go.Proofs.YtolihcgpnoacaaaDoor.Fields
open Go.Proofs.YtolihcgpnoacaaaDoor.Same
open Go.Proofs.YtolihcgpnoacaaaDoor.Nobody
open Go.Proofs.YtolihcgpnoacaaaDoor.Sure
open Go.Proofs.YtolihcgpnoacaaaDoor.Back
open Go.Proofs.YtolihcgpnoacaaaDoor.Walk
open Go.Proofs.YtolihcgpnoacaaaDoor.RefA
open Go.Proofs.YtolihcgpnoacaaaDoor.Iter
open Go.Proofs.YtolihcgpnoacaaaDoor.Parse
set_option linter.unusedVariables false
attribute [local go_sem] Oper.semAt_some

structure Sv (w0 : World) (Z Lb Db b m Bx : Nat) (lv : Int) (vF : Value) (l : FL) (W : World) : Prop where
  bel : Below w0.heap.size w0 W
  lc : W.heap[Lb]? = some (.cells #[.int .i64 lv] 3 (0, 0))
  dc : W.heap[Db]? = some (.cells #[.pointer (some ⟨b, 0, none⟩)] 24 (0, 0))
  dk : ∃ L', DK b m L' W
  mlo : w0.heap.size ≤ m
  bx : W.heap[Bx]? = some (.cells #[vF] 22 (0, 0))
  row : ∃ B, W.ownsRow B 52 2 vF l.length (l.flatMap fCells)
  ltZ : Lb < Z ∧ Db < Z ∧ b < Z ∧ m < Z ∧ Bx < Z ∧ ∀ g, vF.ownBlock = some g → g < Z
  zle : Z ≤ W.heap.size
theorem Sv.keep {w0 : World} {Z Lb Db b m Bx : Nat} {lv : Int} {vF : Value} {l : FL} {W W' : World} (h : Sv w0 Z Lb Db b m Bx lv vF l W) (hk : ∀ k, k < Z → W'.heap[k]? = W.heap[k]?) (hb : Below w0.heap.size w0 W') (hz : Z ≤ W'.heap.size) : Sv w0 Z Lb Db b m Bx lv vF l W' := by
  obtain ⟨z1, z2, z3, z4, z5, z6⟩ := h.ltZ
  obtain ⟨L', d⟩ := h.dk
  obtain ⟨B, hr⟩ := h.row
  exact ⟨hb, (hk _ z1).trans h.lc, (hk _ z2).trans h.dc, ⟨L', (hk _ z3).trans d.blk, owns_later d.map (hk _ z4), d.ris, d.len⟩, h.mlo, (hk _ z5).trans h.bx, ⟨B, row_later hr (fun g _ _ _ hg _ => hk g (z6 g hg))⟩, h.ltZ, hz⟩
theorem Sv.keepP {w0 : World} {Z Lb Db b m Bx : Nat} {lv : Int} {vF : Value} {l : FL} {W W' : World} (P : Nat → Prop) (h : Sv w0 Z Lb Db b m Bx lv vF l W) (hk : ∀ k, P k → W'.heap[k]? = W.heap[k]?) (p1 : P Lb) (p2 : P Db) (p3 : P b) (p4 : P m) (p5 : P Bx) (p6 : ∀ g, vF.ownBlock = some g → P g) (hb : Below w0.heap.size w0 W') (hz : Z ≤ W'.heap.size) : Sv w0 Z Lb Db b m Bx lv vF l W' := by
  obtain ⟨L', d⟩ := h.dk
  obtain ⟨B, hr⟩ := h.row
  exact ⟨hb, (hk _ p1).trans h.lc, (hk _ p2).trans h.dc, ⟨L', (hk _ p3).trans d.blk, owns_later d.map (hk _ p4), d.ris, d.len⟩, h.mlo, (hk _ p5).trans h.bx, ⟨B, row_later hr (fun g _ _ _ hg _ => hk g (p6 g hg))⟩, h.ltZ, hz⟩
theorem Sv.below {w0 : World} {Z Lb Db b m Bx : Nat} {lv : Int} {vF : Value} {l : FL} {W W' : World} (h : Sv w0 Z Lb Db b m Bx lv vF l W) (hb : Below W.heap.size W W') : Sv w0 Z Lb Db b m Bx lv vF l W' :=
  h.keep (fun k hk => hb.block k (Nat.lt_of_lt_of_le hk h.zle)) (Base.bel h.bel hb (Nat.le_refl _)) (Nat.le_trans h.zle hb.size)
theorem Sv.mv {w0 : World} {Z Lb Db b m Bx : Nat} {lv : Int} {vF : Value} {l L' : FL} {W W' : World} (h : Sv w0 Z Lb Db b m Bx lv vF l W) (hd : DK b m L' W') (hm : Mv m W W') : Sv w0 Z Lb Db b m Bx lv vF l W' := by
  obtain ⟨B, hr⟩ := h.row
  exact ⟨hm.below h.bel h.mlo (Nat.le_refl _), hm.blk h.lc, hm.blk h.dc, ⟨L', hd⟩, h.mlo, hm.blk h.bx, ⟨B, row_mv hr hm⟩, h.ltZ, Nat.le_trans h.zle hm.grown.size⟩
theorem Sv.more {w0 : World} {Z Z' Lb Db b m Bx : Nat} {lv : Int} {vF : Value} {l : FL} {W : World} (h : Sv w0 Z Lb Db b m Bx lv vF l W) (hz : Z ≤ Z') (hz2 : Z' ≤ W.heap.size) : Sv w0 Z' Lb Db b m Bx lv vF l W := by
  obtain ⟨z1, z2, z3, z4, z5, z6⟩ := h.ltZ
  exact ⟨h.bel, h.lc, h.dc, h.dk, h.mlo, h.bx, h.row, ⟨by omega, by omega, by omega, by omega, by omega, fun g hg => Nat.lt_of_lt_of_le (z6 g hg) hz⟩, hz2⟩
theorem ne_nilF (w : World) (B : Nat) : (binOp .eql 56 (.func (.func 36) #[] #[.pointer (some ⟨B, 0, none⟩)]) .nilFunc).run Tryd.prog w = .ok (.bool false) w := by kernel_rfl
/- the row that is spoilt -/
structure Rm (g n : Nat) (w : World) : Prop where
  ex : ∃ cur : Array Value, w.heap[g]? = some (.cells cur 52 (0, 0)) ∧ n * 2 ≤ cur.size
theorem Rm.cell {g n : Nat} {w : World} (h : Rm g n w) (j : Nat) (hj : j < n * 2) : (∃ v, w.cell? ⟨g, j, none⟩ = some v) ∧ w.frozen? ⟨g, j, none⟩ = false := by
  obtain ⟨cur, h1, h2⟩ := h.ex
  refine ⟨⟨cur[j]'(by omega), ?_⟩, Lib.frozen_of_heap h1 j⟩
  rw [Lib.cell_of_heap h1 j]
  exact Array.getElem?_eq_getElem (by omega)
theorem rm_set {g n : Nat} {w : World} (h : Rm g n w) (j : Nat) (x : Value) : Rm g n (w.setCell ⟨g, j, none⟩ x) := by
  obtain ⟨cur, h1, h2⟩ := h.ex
  exact ⟨⟨_, set_at h1 x, by simp [h2]⟩⟩
structure Sp (af : Option Addr) (n : Nat) (w4 wx : World) : Prop where
  gr : w4.grownBy wx (af.map (·.block))
  rm : n = 0 ∨ ∃ gf, af = some ⟨gf, 0, none⟩ ∧ Rm gf n wx
theorem sp_set {gf n : Nat} {w4 wx : World} (h : Sp (some ⟨gf, 0, none⟩) n w4 wx) (j : Nat) (x : Value) (hn : 0 < n) : Sp (some ⟨gf, 0, none⟩) n w4 (wx.setCell ⟨gf, j, none⟩ x) := by
  have e0 : Below 0 wx (wx.setCell ⟨gf, j, none⟩ x) := (Below.refl 0 wx).setCell (Nat.zero_le _) x
  refine ⟨h.gr.trans ⟨e0.os, e0.tape, e0.output, e0.size, fun k hk hne => Below.heap_setCell _ _ _ _ (fun e => hne (by rw [e]; rfl))⟩, .inr ⟨gf, rfl, ?_⟩⟩
  rcases h.rm with h0 | ⟨g, e, h1⟩
  · omega
  · injection e with e
    injection e with e1
    subst e1
    exact rm_set h1 j x
def spoilt : ByteArray := ⟨#[115, 112, 111, 105, 108, 116]⟩
/- a post that no panic meets -/
def calm (Q : Exit → Act → World → Prop) : Exit → Act → World → Prop
  | .normal, a, w => Q .normal a w
  | _, _, _ => False
theorem calm_le (Q : Exit → Act → World → Prop) : ∀ e a w, calm Q e a w → Q e a w
  | .normal, _, _, h => h
/- what a loop over the dict carries -/
structure Iv (w0 : World) (Lb Db b m Bx : Nat) (lv : Int) (vF : Value) (l : FL) (Ds : List Nat) (Tb Gb : Nat) (t : Int) (pre : List (Fx l)) (W : World) : Prop where
  sv : Sv w0 Tb Lb Db b m Bx lv vF l W
  tb : W.heap[Tb]? = some (.cells #[.int .i64 t] 3 (0, 0))
  got : ∃ vg, W.heap[Gb]? = some (.cells #[vg] 22 (0, 0)) ∧ W.ownsRow (Gb + 1) 52 2 vg pre.length ((pre.map (·.1)).flatMap fCells)
  gsz : Gb + 1 ≤ W.heap.size
  tg : Tb < Gb
  df : ∀ D ∈ Ds, D < Tb ∧ W.heap[D]? = some (.deferred (some []))
  zm : w0.heap.size ≤ Tb
theorem cells_not {o : Obj} {cs : Array Value} {t : TypeId} {fz : Nat × Nat} (h : o = .cells cs t fz) (h2 : o.isCells = false) : False := by subst h; cases h2
theorem iv_own (w0 : World) (Lb Db b m Bx : Nat) (lv : Int) (vF : Value) (l : FL) (Ds : List Nat) (Tb Gb : Nat) (t : Int) (B : Nat) (hB : Gb + 1 ≤ B) : OwnFrom B (Iv w0 Lb Db b m Bx lv vF l Ds Tb Gb t) := fun pre W W' row h hg hr => by
  have hlow : ∀ k, k < Gb + 1 → W'.heap[k]? = W.heap[k]? := fun k hk => hg.block k (Nat.lt_of_lt_of_le hk h.gsz) (fun e => by have := (hr k e.symm).1; omega)
  have hcel : ∀ (k : Nat) (cs : Array Value) (ty : TypeId) (fz : Nat × Nat), W.heap[k]? = some (.cells cs ty fz) → W'.heap[k]? = W.heap[k]? := fun k cs ty fz hk => hg.block k (lt_of hk) (fun e => by
    obtain ⟨_, o, ho, hn⟩ := hr k e.symm
    rw [hk] at ho
    injection ho with ho
    exact cells_not ho.symm hn)
  obtain ⟨vg, g1, g2⟩ := h.got
  have htg := h.tg
  refine ⟨h.sv.keep (fun k hk => hlow k (by omega)) ?_ (Nat.le_trans h.sv.zle hg.size), (hlow _ (by omega)).trans h.tb, ⟨vg, (hlow _ (by omega)).trans g1, row_later g2 (fun g cs ty fz _ hq => hcel g cs ty fz hq)⟩, Nat.le_trans h.gsz hg.size, h.tg, fun D hD => ⟨(h.df D hD).1, (hlow D (by have := (h.df D hD).1; omega)).trans (h.df D hD).2⟩, h.zm⟩
  exact h.sv.bel.grown hg h.sv.bel.size (fun j hj => by have := (hr j hj).1; have := h.zm; omega)
theorem iv_step {w0 : World} {Lb Db b m Bx : Nat} {lv : Int} {vF : Value} {l : FL} {Ds : List Nat} {Tb Gb : Nat} {t : Int} {pre : List (Fx l)} {W w1 : World} (h : Iv w0 Lb Db b m Bx lv vF l Ds Tb Gb t pre W) (x : Fx l) {vg v' : Value} (hv : W.ownsRow (Gb + 1) 52 2 vg pre.length ((pre.map (·.1)).flatMap fCells)) (o : Obj)
    (hg : (W.alloc o).grownBy w1 vg.ownBlock) (ho : w1.ownsRow (Gb + 1) 52 2 v' (pre.length + 1) ((pre.map (·.1)).flatMap fCells ++ fCells x.1)) :
    Iv w0 Lb Db b m Bx lv vF l Ds Tb Gb t (pre ++ [x]) (w1.setCell ⟨Gb, 0, none⟩ v') ∧ KeepsFrom (Gb + 1) W (w1.setCell ⟨Gb, 0, none⟩ v') ∧ (∀ k, k < Gb → (w1.setCell ⟨Gb, 0, none⟩ v').heap[k]? = W.heap[k]?) ∧ w1.heap[Gb]? = W.heap[Gb]? := by
  have hvb : ∀ k, vg.ownBlock = some k → Gb + 1 ≤ k ∧ ∃ cs ty fz, W.heap[k]? = some (.cells cs ty fz) := fun k hk => by
    rcases hv.2 with ⟨rfl, _⟩ | ⟨g, cap, cur, rfl, hb, hh, _⟩
    · cases hk
    · have : g = k := by simpa [Value.ownBlock] using hk
      subst this
      exact ⟨hb, cur, 52, (0, 0), hh⟩
  have hsz1 : W.heap.size ≤ w1.heap.size := by have := hg.size; simp at this; omega
  have hk1 : ∀ k, k < W.heap.size → vg.ownBlock ≠ some k → w1.heap[k]? = W.heap[k]? := fun k hk hne => (hg.block k (by simp; omega) (fun e => hne e.symm)).trans (Below.heap_alloc W o k hk)
  have hlow1 : ∀ k, k < Gb + 1 → w1.heap[k]? = W.heap[k]? := fun k hk => hk1 k (Nat.lt_of_lt_of_le hk h.gsz) (fun e => by have := (hvb k e).1; omega)
  have hlow : ∀ k, k < Gb → (w1.setCell ⟨Gb, 0, none⟩ v').heap[k]? = W.heap[k]? := fun k hk => (Below.heap_setCell _ _ _ _ (show k ≠ Gb from by omega)).trans (hlow1 k (by omega))
  obtain ⟨vg0, g1, _⟩ := h.got
  have hG1 : w1.heap[Gb]? = some (.cells #[vg0] 22 (0, 0)) := (hlow1 Gb (by omega)).trans g1
  have htg := h.tg
  have bel1 : Below w0.heap.size w0 (w1.setCell ⟨Gb, 0, none⟩ v') := by
    have e1 : Below w0.heap.size w0 (W.alloc o) := h.sv.bel.alloc h.sv.bel.size o
    have e2 : Below w0.heap.size w0 w1 := e1.grown hg e1.size (fun j hj => by have := (hvb j hj).1; have := h.zm; omega)
    exact e2.setCell (by have := h.zm; show _ ≤ Gb; omega) _
  have hsz2 : (w1.setCell ⟨Gb, 0, none⟩ v').heap.size = w1.heap.size := by simp [World.setCell]
  refine ⟨⟨h.sv.keep (fun k hk => hlow k (by omega)) bel1 (by rw [hsz2]; exact Nat.le_trans h.sv.zle hsz1), (hlow _ htg).trans h.tb, ⟨v', ?_, ?_⟩, by rw [hsz2]; exact Nat.le_trans h.gsz hsz1, h.tg, fun D hD => ⟨(h.df D hD).1, (hlow D (by have := (h.df D hD).1; omega)).trans (h.df D hD).2⟩, h.zm⟩, ⟨by rw [hsz2]; exact hsz1, fun k ob hk hb hn => ?_⟩, hlow, hlow1 Gb (by omega)⟩
  · have := set_at (i := 0) hG1 v'
    simpa using this
  · rw [List.length_append, List.map_append, List.flatMap_append]
    have e : (([x] : List (Fx l)).map (·.1)).flatMap fCells = fCells x.1 := by simp
    rw [e]
    exact row_later ho (fun g cs ty fz hgb _ => Below.heap_setCell _ _ _ _ (show g ≠ Gb from fun e => by
      have := (ho.lt g hgb).1
      omega))
  · rw [Below.heap_setCell _ _ _ _ (show k ≠ Gb from by omega), hk1 k (lt_of hb) (fun e => by
      obtain ⟨_, cs, ty, fz, hc⟩ := hvb k e
      rw [hb] at hc
      injection hc with hc
      exact cells_not hc hn)]
    exact hb
theorem iv_mv {w0 : World} {Lb Db b m Bx : Nat} {lv : Int} {vF : Value} {l L' : FL} {Ds : List Nat} {Tb Gb : Nat} {t : Int} {pre : List (Fx l)} {W W' : World} (h : Iv w0 Lb Db b m Bx lv vF l Ds Tb Gb t pre W) (hd : DK b m L' W') (hm : Mv m W W') : Iv w0 Lb Db b m Bx lv vF l Ds Tb Gb t pre W' := by
  obtain ⟨vg, g1, g2⟩ := h.got
  exact ⟨h.sv.mv hd hm, hm.blk h.tb, ⟨vg, hm.blk g1, row_mv g2 hm⟩, Nat.le_trans h.gsz hm.grown.size, h.tg, fun D hD => ⟨(h.df D hD).1, by
    have hne : D ≠ m := fun e => by
      obtain ⟨es, c, hmm⟩ := hm.was
      rw [← e, (h.df D hD).2] at hmm
      cases hmm
    exact (hm.grown.block D (lt_of (h.df D hD).2) (fun e => hne (by cases e; rfl))).trans (h.df D hD).2⟩, h.zm⟩
theorem kp_mv {w0 : World} {Z Lb Db b m Bx : Nat} {lv : Int} {vF : Value} {l : FL} {W w2 w4 : World} (h : Sv w0 Z Lb Db b m Bx lv vF l W) (hl : ∀ k, k < Z → w2.heap[k]? = W.heap[k]?) (hm : Mv m w2 w4) : Kp (fun k => k = Bx ∨ vF.ownBlock = some k) W w4 := fun k hk => by
  have hz : k < Z := by
    obtain ⟨_, _, _, _, z5, z6⟩ := h.ltZ
    rcases hk with rfl | hk
    · exact z5
    · exact z6 k hk
  have hc : ∃ cs ty fz, W.heap[k]? = some (.cells cs ty fz) := by
    rcases hk with rfl | hk
    · exact ⟨_, _, _, h.bx⟩
    · obtain ⟨B, hr⟩ := h.row
      rcases hr.2 with ⟨rfl, _⟩ | ⟨g, cap, cur, rfl, _, hh, _⟩
      · cases hk
      · have : g = k := by simpa [Value.ownBlock] using hk
        subst this
        exact ⟨_, _, _, hh⟩
  obtain ⟨cs, ty, fz, hc⟩ := hc
  rw [hc]
  exact hm.blk ((hl k hz).trans hc)
theorem mv_from {m B : Nat} {W W' : World} (h : Mv m W W') (hm : m < B) : KeepsFrom B W W' := KeepsFrom.of_grownBy h.grown (fun j hj => by cases hj; exact hm)
set_option maxHeartbeats 8000000 in
set_option maxRecDepth 100000 in
theorem over_yes (v : Value) (l : FL) (lv : Int) (w : World) (h : Gv w v l) (hcp : ∃ a c, v = .slice a l.length c ∧ l.length ≤ c) (hr : Ris l) (hlv : -9223372036854775808 ≤ lv ∧ lv ≤ 9223372036854775807) (hh : Has w) : Calls Tryd.prog 7 #[v, .int .i64 lv] w fun e w' => e = .returned (.bool true) ∧ Below w.heap.size w w' := by
  obtain ⟨i0, hi0, hz0, hz1, hz2⟩ := Rising.parts_of info52
  have HH := hid_of hh
  have bL : Below w.heap.size w (w.alloc (.cells #[.int .i64 lv] 3)) := (Below.refl _ w).alloc (Nat.le_refl _) _
  have H1 := hid_of (of_yes v l _ (h.fs.below bL) (by have := h.len; omega) hr h.big)
  have HG := hid_of (show FC w v l from ⟨h.fs, hcp⟩)
  have hlen := h.len
  have HSZ := hid_of h.szs
  have H8 := hid_of sure_call
  have HL : Hid ((w.alloc (.cells #[.int .i64 lv] 3)).heap[w.heap.size]? = some (.cells #[.int .i64 lv] 3 (0, 0))) := hid_of (heap_alloc_new w _)
  have BL := hid_of bL
  clear h hh bL
  refine (callsIn_wide (n := 5)).1 ?_
  refine callsIn_of_wp_marks Tryd.func7 rfl trivial ?_ rfl
  simp only [Tryd.ntmps7, List.size_toArray, List.length_cons, List.length_nil, Nat.reduceAdd, Nat.reduceSub, Array.replicate_succ, Array.replicate_zero, List.push_toArray, List.append_toArray, List.nil_append, List.cons_append]
  gi_wp2_with fail
  refine ⟨trivial, callsIn_wide.2 (H1.out.mono ?_)⟩
  rintro e w1 ⟨b, m, rfl, d1, lb, lm, bb⟩
  have lb' : w.heap.size + 1 ≤ b := by have := lb; simpa using this
  have lm' : w.heap.size + 1 ≤ m := by have := lm; simpa using this
  have hL1 : w1.heap[w.heap.size]? = some (.cells #[.int .i64 lv] 3 (0, 0)) := (bb.block _ (by simp)).trans HL.out
  have b1 : Below w.heap.size w w1 := Base.bel BL.out bb (Nat.le_refl _)
  obtain ⟨W2, hW2⟩ : ∃ W2, W2 = w1.alloc (.cells #[ptr b] 24) := ⟨_, rfl⟩
  have b2 : Below w1.heap.size w1 W2 := by rw [hW2]; exact (Below.refl _ w1).alloc (Nat.le_refl _) _
  have hD2 : W2.heap[w1.heap.size]? = some (.cells #[ptr b] 24 (0, 0)) := by rw [hW2]; exact heap_alloc_new w1 _
  have hL2 : W2.heap[w.heap.size]? = some (.cells #[.int .i64 lv] 3 (0, 0)) := (b2.block _ (lt_of hL1)).trans hL1
  have dk2 := d1.below b2
  have bw2 := Base.bel b1 b2 (Nat.le_refl _)
  obtain ⟨Db, hDb⟩ : ∃ Db, Db = w1.heap.size := ⟨_, rfl⟩
  obtain ⟨Lb, hLb⟩ : ∃ Lb, Lb = w.heap.size := ⟨_, rfl⟩
  have H3 := hid_of (all_fields b m l W2 dk2 (by omega))
  have cD : W2.cell? ⟨Db, 0, none⟩ = some (.pointer (some ⟨b, 0, none⟩)) := by rw [hDb]; exact Lib.cell_of_heap hD2 0
  have q24 := eq24 b
  have HW2 := hid_of hW2
  have HDb := hid_of hDb
  have HLb := hid_of hLb
  rw [← hDb] at hD2
  rw [← hLb] at hL2
  have HD2 := hid_of hD2
  have HL2 := hid_of hL2
  have HDK2 := hid_of dk2
  have HBW2 := hid_of bw2
  have HLO := hid_of (show w.heap.size ≤ m from by omega)
  clear d1 lb lm bb lb' lm' hL1 b1 b2 hW2 hDb hLb hD2 hL2 dk2 bw2 H1
  unfold ptr at *
  gi_wp2_with fail
  rw [← HW2.out, ← HDb.out, ← HLb.out]
  refine ⟨trivial, callsIn_wide.2 (H3.out.mono ?_)⟩
  rintro e w3 ⟨vf, rfl, o3, b3⟩
  have cD3 : w3.cell? ⟨Db, 0, none⟩ = some (.pointer (some ⟨b, 0, none⟩)) := cell_on b3 cD
  have dk3 := HDK2.out.below b3
  have H4 := hid_of (all_call b m l w3 dk3 (by omega))
  have HO3 := hid_of o3
  have B3 := hid_of b3
  have HDK3 := hid_of dk3
  obtain ⟨af, cf, hvf⟩ := fld_shape o3
  subst hvf
  unfold ptr at H4
  clear o3 b3 dk3 H3
  gi_wp2_with fail
  refine ⟨trivial, callsIn_wide.2 (H4.out.mono ?_)⟩
  rintro e w4 ⟨Bx, vF, rfl, hx4, hBx, o4, b4⟩
  have hne := ne_nilF
  have S4 : Hid (Sv w w4.heap.size Lb Db b m Bx lv vF l w4) := hid_of (by
    have b24 := Base.bel B3.out b4 (Nat.le_refl _)
    have d4 := HDK3.out.below b4
    refine ⟨Base.bel HBW2.out b24 (Nat.le_refl _), (b24.block _ (lt_of HL2.out)).trans HL2.out, (b24.block _ (lt_of HD2.out)).trans HD2.out, ⟨l, d4⟩, HLO.out, hx4, ⟨_, o4⟩, ⟨?_, ?_, lt_of d4.blk, d4.map.lt, lt_of hx4, fun g hg => (o4.lt g hg).2⟩, Nat.le_refl _⟩
    · exact Nat.lt_of_lt_of_le (lt_of HL2.out) b24.size
    · exact Nat.lt_of_lt_of_le (lt_of HD2.out) b24.size)
  have hRm : (af = none ∧ l.length = 0) ∨ ∃ gf, af = some ⟨gf, 0, none⟩ ∧ Rm gf l.length w4 ∧ W2.heap.size ≤ gf ∧ gf < w3.heap.size := by
    rcases HO3.out.2 with ⟨e, h0⟩ | ⟨g, cap, cur, e, hbg, hg, q1, q2, q3, q4⟩
    · injection e with e1 e2 e3
      exact .inl ⟨e1, h0⟩
    · injection e with e1 e2 e3
      subst e1
      exact .inr ⟨g, rfl, ⟨⟨cur, (b4.block g (lt_of hg)).trans hg, by rw [q3]; omega⟩⟩, hbg, lt_of hg⟩
  have HRm := hid_of hRm
  have HX4 := hid_of (And.intro hx4 (And.intro hBx o4))
  have DK4 := hid_of (HDK3.out.below b4)
  have B4 := hid_of b4
  clear hx4 hBx o4 b4 H4 hRm cD cD3 HO3
  gi_wp2_with fail
  have HSp : Hid (Sp af l.length w4 w4) := hid_of ⟨⟨rfl, rfl, rfl, Nat.le_refl _, fun _ _ _ => rfl⟩, by
    rcases HRm.out with ⟨_, h⟩ | ⟨gf, e, h, _⟩
    · exact .inl h
    · exact .inr ⟨gf, e, h⟩⟩
  clear hne q24
  gi_loopw [9] (fun si wx => ∃ k : Nat, k ≤ l.length ∧ si = .int .i64 (k : Int) ∧ Hid (Sp af l.length w4 wx)) (fun si wx => l.length - (intOf si).toNat)
  case atStart => exact ⟨0, by omega, rfl, HSp⟩
  case round =>
    obtain ⟨k, hk, rfl, HS⟩ := hrel
    by_cases hlt : k < l.length
    · obtain ⟨gf, rfl, hrm⟩ : ∃ gf, af = some ⟨gf, 0, none⟩ ∧ Rm gf l.length wr := by
        rcases HS.out.rm with h | h
        · omega
        · exact h
      obtain ⟨⟨v0, r0⟩, z0⟩ := hrm.cell (k * 2) (by omega)
      obtain ⟨⟨v1, r1⟩, z1⟩ := hrm.cell (k * 2 + 1) (by omega)
      have HS2 := hid_of (fun (x y : Value) => sp_set (sp_set HS.out (k * 2) x (by omega)) (k * 2 + 1) y (by omega))
      have e2 : IntKind.i64.wrap ((k : Int) + 1) = (k : Int) + 1 := IntWalk.i64_in _ (by omega)
      have g2 : (k : Int) < (l.length : Int) := by omega
      clear hrm
      gi_wp2_with fail
      go_roundw
      case rel => exact ⟨k + 1, by omega, by rw [show ((k + 1 : Nat) : Int) = (k : Int) + 1 from by omega], hid_of (HS2.out _ _)⟩
      case measure => simp [intOf]; omega
    · have gi : ¬ (k : Int) < (l.length : Int) := by omega
      have hkeep : ∀ j, (j < W2.heap.size ∨ w3.heap.size ≤ j ∧ j < w4.heap.size) → wr.heap[j]? = w4.heap[j]? := fun j hj => HS.out.gr.block j (by have := B3.out.size; have := B4.out.size; omega) (fun e => by
        rcases HRm.out with ⟨e2, _⟩ | ⟨gf, e2, _, h1, h2⟩
        · rw [e2] at e; cases e
        · rw [e2] at e
          have : j = gf := by simpa using e
          omega)
      have bwr : Below w.heap.size w wr := S4.out.bel.grown HS.out.gr S4.out.bel.size (fun j hj => by
        rcases HRm.out with ⟨e2, _⟩ | ⟨gf, e2, _, h1, h2⟩
        · rw [e2] at hj; cases hj
        · rw [e2] at hj
          have : gf = j := by simpa using hj
          have := HBW2.out.size
          omega)
      have S5 : Hid (Sv w w4.heap.size Lb Db b m Bx lv vF l wr) := hid_of (by
        refine S4.out.keepP (fun j => j < W2.heap.size ∨ w3.heap.size ≤ j ∧ j < w4.heap.size) hkeep (.inl (lt_of HL2.out)) (.inl (lt_of HD2.out)) (.inl (lt_of HDK2.out.blk)) (.inl HDK2.out.map.lt) (.inr ⟨HX4.out.2.1, lt_of HX4.out.1⟩) (fun g hg => .inr (HX4.out.2.2.lt g hg)) bwr HS.out.gr.size)
      have dk5 : DK b m l wr := ⟨(hkeep b (.inl (lt_of HDK2.out.blk))).trans DK4.out.blk, owns_later DK4.out.map (hkeep m (.inl HDK2.out.map.lt)), DK4.out.ris, DK4.out.len⟩
      have H6 := hid_of (set_call b m l ⟨#[255, 255, 109, 111, 114, 101]⟩ ⟨#[49]⟩ wr dk5 (by decide) (by decide) (by omega))
      have cD5 : wr.cell? ⟨Db, 0, none⟩ = some (.pointer (some ⟨b, 0, none⟩)) := Lib.cell_of_heap S5.out.dc 0
      obtain ⟨Z4, hZ4⟩ : ∃ Z4, Z4 = w4.heap.size := ⟨_, rfl⟩
      rw [← hZ4] at S5
      unfold ptr at H6
      clear hkeep bwr dk5 HS HSp HRm HX4 DK4 B4 B3 S4 HDK3 HDK2 HD2 HL2 hk hlt hZ4
      gi_wp2_with fail
      refine ⟨trivial, callsIn_wide.2 (H6.out.mono ?_)⟩
      rintro e w6 hw6
      obtain ⟨rfl, d6, m6⟩ := hw6
      have S6 := hid_of (S5.out.mv d6 m6)
      clear d6 m6 H6 S5 cD5
      gi_wp2_with fail
      refine wpIn_loop_rounds 3 ?_
      rw [roundsIn_succ]
      gi_wp2_with fail
      obtain ⟨Tb, hTb⟩ : ∃ Tb, Tb = w6.heap.size := ⟨_, rfl⟩
      obtain ⟨W7, hW7⟩ : ∃ W7, W7 = (w6.alloc (.cells #[.int .i64 0] 3)).alloc (.cells #[.slice none 0 0] 22) := ⟨_, rfl⟩
      have I7 : Iv w Lb Db b m Bx lv vF l [] Tb (Tb + 1) 0 [] W7 := by
        have bA : Below w6.heap.size w6 (w6.alloc (.cells #[.int .i64 0] 3)) := (Below.refl _ w6).alloc (Nat.le_refl _) _
        have bB : Below w6.heap.size w6 W7 := by rw [hW7]; exact bA.alloc (by simp) _
        have s7 : W7.heap.size = Tb + 2 := by rw [hW7, hTb]; simp
        have e1 : (w6.alloc (.cells #[.int .i64 0] 3)).heap.size = Tb + 1 := by rw [hTb]; simp
        have h1 : W7.heap[Tb]? = some (.cells #[.int .i64 0] 3 (0, 0)) := by
          rw [hW7, Below.heap_alloc _ _ _ (by rw [e1]; omega), hTb]
          exact heap_alloc_new w6 _
        have h2 : W7.heap[Tb + 1]? = some (.cells #[.slice none 0 0] 22 (0, 0)) := by
          rw [← e1, hW7]
          exact heap_alloc_new _ _
        refine ⟨(S6.out.below bB).more (by rw [hTb]; exact S6.out.zle) (by omega), h1, ⟨_, h2, World.ownsRow_nil _ _ _ _⟩, by omega, by omega, (fun D hD => by cases hD), by rw [hTb]; exact S6.out.bel.size⟩
      have s7 : W7.heap.size = Tb + 2 := by rw [hW7, hTb]; simp
      have hG7 : ∀ k, (k = Bx ∨ vF.ownBlock = some k) → k < Tb := fun k hk => by
        obtain ⟨_, _, _, _, z5, z6⟩ := I7.sv.ltZ
        rcases hk with rfl | hk
        · exact z5
        · exact z6 k hk
      have hF7 : FG (fun k => k = Bx ∨ vF.ownBlock = some k) W7 vF l := by
        obtain ⟨B, hrw⟩ := I7.sv.row
        exact ⟨fs_row hrw, fun g o n c e _ => .inr (by rw [e]; rfl)⟩
      have hIt := iter_stops 4 (by decide) (fun k => k = Bx ∨ vF.ownBlock = some k) Bx vF l W7 (by omega) (.inl rfl) (fun k hk => by have := hG7 k hk; omega) (Lib.cell_of_heap I7.sv.bx 0) hF7
      have hKb7 : ∀ (W : World) (q : Nat) (o o' : Obj), W7.heap.size ≤ q → W.heap[q]? = some o → o.isCells = false → o.isWalk = false → Kp (fun k => k = Bx ∨ vF.ownBlock = some k) W (W.putObj q o') := fun W q o o' hq _ _ _ k hk => by
        have := hG7 k hk
        by_cases hkW : k < W.heap.size
        · exact (grownBy_putObj' W q o').block k hkW (by intro e; cases e; omega)
        · have e1 : (W.putObj q o').heap.size = W.heap.size := by simp [World.putObj]
          rw [Array.getElem?_eq_none (by rw [e1]; omega), Array.getElem?_eq_none (by omega)]
      have HS7 := hid_of s7
      have HW7 := hid_of hW7
      have HTb := hid_of hTb
      have HI7 := hid_of I7
      rw [← hW7, ← hTb]
      clear s7 hW7 hTb I7 hF7
      apply wpIn_rangeFunc_ownG (F := Fence.wide) (n := 5) (P := Tryd.prog) (w := W7) rfl (by decide) (gf := 36) (lb := #[.pointer (some ⟨Bx, 0, none⟩)]) rfl trivial (enters_of Tryd.func36 (by kernel_rfl) rfl) hIt kp_t hKb7 (Below.refl _ _) (fun _ => rfl)
        (fun pre W => Iv w Lb Db b m Bx lv vF l [] Tb (Tb + 1) 0 pre W ∧ ¬ (1 ≤ lv ∧ lv ≤ (pre.length : Int)))
        (fun c pre W => Iv w Lb Db b m Bx lv vF l [] Tb (Tb + 1) 0 pre W ∧ (c = .exit 4 ∧ (pre.length : Int) = lv))
        (OwnFrom.and (iv_own w Lb Db b m Bx lv vF l [] Tb (Tb + 1) 0 _ (by rw [HS7.out]; omega)) (ownFrom_pure _ _))
        (fun c => OwnFrom.and (iv_own w Lb Db b m Bx lv vF l [] Tb (Tb + 1) 0 _ (by rw [HS7.out]; omega)) (ownFrom_pure _ _))
        ⟨HI7.out, by simp; omega⟩
      case hassign =>
        intro lp x W K hK
        unfold encF
        gi_wp2
        exact hK
      case hbody =>
        rintro lp pre x W ⟨hIv, hnb⟩ hpl
        have hsx := HSZ.out x.1 x.2
        obtain ⟨vg, hg1, hg2⟩ := hIv.got
        have hpl' : pre.length < l.length := hpl
        have cG : W.cell? ⟨Tb + 1, 0, none⟩ = some vg := Lib.cell_of_heap hg1 0
        have HIv := hid_of hIv
        have HG2 := hid_of hg2
        obtain ⟨ag, cg, hag, _⟩ := fs_row (l := pre.map (·.1)) (by rw [List.length_map]; exact hg2)
        rw [List.length_map] at hag
        have HX : Hid (fCells x.1 = [.string (mk x.1.1), .string (mk x.1.2)]) := rfl
        have HNX : Hid (∀ w1 v', w1.ownsRow (Tb + 1 + 1) 52 2 v' (pre.length + 1) ((pre.map (·.1)).flatMap fCells ++ [.string (mk x.1.1), .string (mk x.1.2)]) → (W.alloc (.cells #[.string (mk x.1.1), .string (mk x.1.2)] 52)).grownBy w1 vg.ownBlock → Iv w Lb Db b m Bx lv vF l [] Tb (Tb + 1) 0 (pre ++ [x]) (w1.setCell ⟨Tb + 1, 0, none⟩ v') ∧ KeepsFrom (Tb + 1 + 1) W (w1.setCell ⟨Tb + 1, 0, none⟩ v') ∧ (∀ k, k < Tb + 1 → (w1.setCell ⟨Tb + 1, 0, none⟩ v').heap[k]? = W.heap[k]?) ∧ w1.heap[Tb + 1]? = W.heap[Tb + 1]?) := hid_of fun w1 v' ho hg => iv_step hIv x hg2 _ hg ho
        have HGB := hid_of hg1
        subst hag
        have HSX := hid_of hsx
        clear hIv hg1 hg2 hsx
        generalize hX : mk x.1.1 = X at *
        generalize hY : mk x.1.2 = Y at *
        have HX1 := hid_of hX
        clear hX hY
        gi_wp2_with (first
          | (gi_at_builtin; refine wpListIn_append_own _ rfl _ _ 22 rfl (Tb + 1 + 1) 52 i0 (.agg #[.string ⟨#[]⟩, .string ⟨#[]⟩]) 2 32 Tryd.underlying22 hi0 hz0 hz1 hz2 rfl (by decide) _ _ _ rfl (HG2.out.alloc _) _ 1 1 [.string X, .string Y] rfl rfl (two_new _ _ _ _) (by simp [Value.oneCell']) (by unfold maxLen; omega) (by omega) (by have := HIv.out.gsz; simp; omega) ?_; intro v' w1 hown hgr hnil; obtain ⟨g', cap', rfl⟩ := ownsRow_succ hown; obtain ⟨hi1, hk1, hlow1, hG1⟩ := HNX.out w1 _ hown hgr; have cG1 : w1.cell? ⟨Tb + 1, 0, none⟩ = some (.slice ag pre.length cg) := Lib.cell_of_heap (hG1.trans HGB.out) 0; have fG1 : w1.frozen? ⟨Tb + 1, 0, none⟩ = false := Lib.frozen_of_heap (hG1.trans HGB.out) 0; have cD1 : (w1.setCell ⟨Tb + 1, 0, none⟩ (.slice (some ⟨g', 0, none⟩) (pre.length + 1) cap')).cell? ⟨Db, 0, none⟩ = some (.pointer (some ⟨b, 0, none⟩)) := Lib.cell_of_heap hi1.sv.dc 0; have HI1 := hid_of hi1; have HK1 := hid_of (And.intro hk1 hlow1); clear hi1 hk1 hlow1)
          | go_in)
        obtain ⟨L', dk'⟩ := HI1.out.sv.dk
        have H14 := hid_of (drop_call b m L' X _ dk' (by rw [← HX1.out, mk_size]; have := HSX.out.1; omega))
        have hG2 : (w1.setCell ⟨Tb + 1, 0, none⟩ (.slice (some ⟨g', 0, none⟩) (pre.length + 1) cap')).cell? ⟨Tb + 1, 0, none⟩ = some (.slice (some ⟨g', 0, none⟩) (pre.length + 1) cap') := World.cell?_setCell_same' _ _ _ (by rw [cG1]; rfl)
        have HG3 := hid_of hG2
        unfold ptr at H14
        clear dk' cG1 fG1 hG2 cD1 hown hgr hnil hG1
        refine ⟨trivial, (CallsIn.inRound lp (callsIn_wide.2 H14.out)).mono ?_⟩
        rintro e w4 hw4
        obtain ⟨rfl, d4, m4⟩ := hw4
        have hi4 := iv_mv HI1.out d4 m4
        have hmlt : m < Tb := hi4.sv.ltZ.2.2.2.1
        have x1 : w4.cell? ⟨Tb, 0, none⟩ = some (.int .i64 0) := Lib.cell_of_heap hi4.tb 0
        have x2 : w4.cell? ⟨Lb, 0, none⟩ = some (.int .i64 lv) := Lib.cell_of_heap hi4.sv.lc 0
        have x3 := m4.cell HG3.out
        have HKF : Hid (KeepsFrom W7.heap.size W w4) := hid_of (by rw [HS7.out]; exact HK1.out.1.trans (mv_from m4 (by omega)))
        have HKP : Hid (Kp (fun k => k = Bx ∨ vF.ownBlock = some k) W w4) := hid_of (kp_mv HIv.out.sv (fun k hk => HK1.out.2 k (by omega)) m4)
        have HI4 := hid_of hi4
        have hlp : ((pre ++ [x]).length : Int) = (pre.length : Int) + 1 := by simp
        clear hi4 d4 m4 H14 HG3 HI1 HK1 hmlt
        by_cases heq : (pre.length : Int) + 1 = lv
        · have t1 : (((pre.length : Int) + 1) == lv) = true := by simpa using heq
          have HEQ := hid_of heq
          clear heq
          gi_wp2_with fail
          exact ⟨HKF.out, HI4.out, rfl, by rw [hlp]; exact HEQ.out⟩
        · have t1 : (((pre.length : Int) + 1) == lv) = false := by simpa using heq
          have HEQ := hid_of heq
          clear heq
          gi_wp2_with fail
          exact ⟨HKF.out, HKP.out, HI4.out, fun hc => hnb ⟨hc.1, by have := HEQ.out; have := hc.2; rw [hlp] at this; omega⟩⟩
      case' hdone =>
        rintro D xs W hD hxs ⟨hIv, hnb⟩ hK
        have hxl : xs.length = l.length := by rw [hxs, xs_len l l.length (Nat.le_refl _)]
        have hxm : xs.map (·.1) = l := by rw [hxs, xs_map, List.take_length]
        obtain ⟨vg, hg1, hg2⟩ := hIv.got
        rw [hxm, hxl] at hg2
        have hq : 0 < lv → ¬ lv ≤ (l.length : Int) := fun h1 h2 => hnb ⟨h1, by rw [hxl]; exact h2⟩
        have x1 : W.cell? ⟨Tb, 0, none⟩ = some (.int .i64 0) := Lib.cell_of_heap hIv.tb 0
        have x2 : W.cell? ⟨Lb, 0, none⟩ = some (.int .i64 lv) := Lib.cell_of_heap hIv.sv.lc 0
        have x3 : W.cell? ⟨Tb + 1, 0, none⟩ = some vg := Lib.cell_of_heap hg1 0
        have H17 := hid_of (same_call vg v l l W (fs_row hg2) (HG.out.fs.below hIv.sv.bel) (by omega) (by omega))
        rw [decide_eq_true (rfl : l = l)] at H17
        obtain ⟨ag, cg, hag, _⟩ := fs_row hg2
        subst hag
        obtain ⟨vx, vc, hvx, _⟩ := hcp
        subst hvx
        have SV := hid_of hIv.sv
        have HTB := hid_of hIv.tb
        have HDF := hid_of (And.intro hD hK)
        clear hIv hnb hg1 hg2 hxs hxl hxm hD hK hIt hKb7
        rcases Int.lt_or_le 0 lv with q | q
        all_goals
          try (have q2 := hq q)
          clear hq
          gi_wp2_with fail
          refine ⟨trivial, callsIn_wide.2 (H17.out.mono ?_)⟩
          rintro e w8 hw8
          obtain ⟨rfl, b8⟩ := hw8
          have x4 := cell_on b8 x1
          have S8 := hid_of (SV.out.below b8)
          have HD8 : Hid (w8.heap[D]? = some (.deferred (some [])) ∧ W7.heap.size ≤ D) := hid_of ⟨(b8.block D (lt_of HDF.out.2)).trans HDF.out.2, HDF.out.1⟩
          clear b8 H17 x1 x2 x3
          gi_wp2_with fail
      case' hstop =>
        rintro D c pre W hD ⟨kk, hkk, hpre⟩ ⟨hIv, hc, hle⟩ hK
        have hxl : pre.length = kk + 1 := by rw [hpre, xs_len l (kk + 1) (by omega)]
        have hxm : pre.map (·.1) = l.take (kk + 1) := by rw [hpre, xs_map]
        have htl : (l.take (kk + 1)).length = kk + 1 := by rw [List.length_take]; omega
        obtain ⟨vg, hg1, hg2⟩ := hIv.got
        rw [hxm, hxl] at hg2
        have hg3 : W.ownsRow (Tb + 1 + 1) 52 2 vg (l.take (kk + 1)).length ((l.take (kk + 1)).flatMap fCells) := by rw [htl]; exact hg2
        have q1 : 0 < lv := by omega
        have q2 : lv ≤ (l.length : Int) := by omega
        have x1 : W.cell? ⟨Tb, 0, none⟩ = some (.int .i64 0) := Lib.cell_of_heap hIv.tb 0
        have x2 : W.cell? ⟨Lb, 0, none⟩ = some (.int .i64 lv) := Lib.cell_of_heap hIv.sv.lc 0
        have x3 : W.cell? ⟨Tb + 1, 0, none⟩ = some vg := Lib.cell_of_heap hg1 0
        obtain ⟨vx, vc, hvx, hcap⟩ := hcp
        subst hvx
        have hcut := RefA.cut_hi vx l.length vc (kk + 1) (by omega)
        rw [show ((kk + 1 : Nat) : Int) = lv from by rw [← hle, hxl]] at hcut
        have fW : FC W (.slice vx (kk + 1) vc) (l.take (kk + 1)) := FC.take (HG.out.below hIv.sv.bel) (kk + 1) (by omega)
        have H17 : Hid (∀ W', Below W.heap.size W W' → Calls Tryd.prog 17 #[vg, .slice vx (kk + 1) vc] W' fun e w' => e = .returned (.bool true) ∧ Below W'.heap.size W' w') := hid_of fun W' b' => by
          have := same_call vg (.slice vx (kk + 1) vc) (l.take (kk + 1)) (l.take (kk + 1)) W' ((fs_row hg3).below b') (fW.fs.below b') (by omega) (by omega)
          rw [decide_eq_true (rfl : l.take (kk + 1) = l.take (kk + 1))] at this
          exact this
        obtain ⟨ag, cg, hag, _⟩ := fs_row hg3
        rw [htl] at hag
        subst hag
        subst hc
        have SV := hid_of hIv.sv
        have HTB := hid_of hIv.tb
        have HDF := hid_of (And.intro hD hK)
        have KDW : Hid (Below W.heap.size W W.drew) := hid_of (Below.refl _ W).drew
        clear hIv hg1 hg2 hg3 hxl hxm htl hD hK hIt hKb7 hle hpre fW hkk
        gi_wp2_with fail
        refine Code.wpIn_mono (calm_le _) ?_
        gi_region_with (first
          | (refine ⟨trivial, ?_⟩; gi_at_call 17; refine (callsIn_wide.2 (H17.out _ KDW.out)).mono ?_; rintro e w8 hw8; obtain ⟨rfl, b8⟩ := hw8))
        all_goals
          unfold calm
          have b9 : Below W.heap.size W w8 := KDW.out.trans (b8.mono KDW.out.size)
          have x4 := cell_on b9 x1
          have S8 := hid_of (SV.out.below b9)
          have HD8 : Hid (w8.heap[D]? = some (.deferred (some [])) ∧ W7.heap.size ≤ D) := hid_of ⟨(b9.block D (lt_of HDF.out.2)).trans HDF.out.2, HDF.out.1⟩
          clear b8 b9 H17 x1 x2 x3
          gi_wp2_with fail
      all_goals
        clear hG7
        rw [roundsIn_succ]
        gi_wp2_with fail
        obtain ⟨T2, hT2⟩ : ∃ T2, T2 = w8.heap.size := ⟨_, rfl⟩
        obtain ⟨W9, hW9⟩ : ∃ W9, W9 = (w8.alloc (.cells #[.int .i64 1] 3)).alloc (.cells #[.slice none 0 0] 22) := ⟨_, rfl⟩
        have I9 : Iv w Lb Db b m Bx lv vF l [D] T2 (T2 + 1) 1 [] W9 := by
          have bA : Below w8.heap.size w8 (w8.alloc (.cells #[.int .i64 1] 3)) := (Below.refl _ w8).alloc (Nat.le_refl _) _
          have bB : Below w8.heap.size w8 W9 := by rw [hW9]; exact bA.alloc (by simp) _
          have s9 : W9.heap.size = T2 + 2 := by rw [hW9, hT2]; simp
          have e1 : (w8.alloc (.cells #[.int .i64 1] 3)).heap.size = T2 + 1 := by rw [hT2]; simp
          have h1 : W9.heap[T2]? = some (.cells #[.int .i64 1] 3 (0, 0)) := by
            rw [hW9, Below.heap_alloc _ _ _ (by rw [e1]; omega), hT2]
            exact heap_alloc_new w8 _
          have h2 : W9.heap[T2 + 1]? = some (.cells #[.slice none 0 0] 22 (0, 0)) := by
            rw [← e1, hW9]
            exact heap_alloc_new _ _
          refine ⟨(S8.out.below bB).more (by rw [hT2]; exact S8.out.zle) (by omega), h1, ⟨_, h2, World.ownsRow_nil _ _ _ _⟩, by omega, by omega, (fun D' hD' => ?_), by rw [hT2]; exact S8.out.bel.size⟩
          obtain rfl : D' = D := by simpa using hD'
          exact ⟨by rw [hT2]; exact lt_of HD8.out.1, (bB.block _ (lt_of HD8.out.1)).trans HD8.out.1⟩
        have s9 : W9.heap.size = T2 + 2 := by rw [hW9, hT2]; simp
        have hG9 : ∀ k, (k = Bx ∨ vF.ownBlock = some k) → k < T2 := fun k hk => by
          obtain ⟨_, _, _, _, z5, z6⟩ := I9.sv.ltZ
          rcases hk with rfl | hk
          · exact z5
          · exact z6 k hk
        have hF9 : FG (fun k => k = Bx ∨ vF.ownBlock = some k) W9 vF l := by
          obtain ⟨B, hrw⟩ := I9.sv.row
          exact ⟨fs_row hrw, fun g o n c e _ => .inr (by rw [e]; rfl)⟩
        have hIt := iter_stops 4 (by decide) (fun k => k = Bx ∨ vF.ownBlock = some k) Bx vF l W9 (by omega) (.inl rfl) (fun k hk => by have := hG9 k hk; omega) (Lib.cell_of_heap I9.sv.bx 0) hF9
        have hKb9 : ∀ (W : World) (q : Nat) (o o' : Obj), W9.heap.size ≤ q → W.heap[q]? = some o → o.isCells = false → o.isWalk = false → Kp (fun k => k = Bx ∨ vF.ownBlock = some k) W (W.putObj q o') := fun W q o o' hq _ _ _ k hk => by
          have := hG9 k hk
          by_cases hkW : k < W.heap.size
          · exact (grownBy_putObj' W q o').block k hkW (by intro e; cases e; omega)
          · have e1 : (W.putObj q o').heap.size = W.heap.size := by simp [World.putObj]
            rw [Array.getElem?_eq_none (by rw [e1]; omega), Array.getElem?_eq_none (by omega)]
        have HS9 := hid_of s9
        have HW9 := hid_of hW9
        have HT2 := hid_of hT2
        have HI9 := hid_of I9
        rw [← hW9, ← hT2]
        have HDlo : Hid (w.heap.size ≤ D ∧ D < T2) := hid_of ⟨by have := HD8.out.2; have := HS7.out; have := HI7.out.zm; omega, by rw [hT2]; exact lt_of HD8.out.1⟩
        clear s9 hW9 hT2 I9 hF9 x4 S8 HD8 SV HTB HDF
        apply wpIn_rangeFunc_ownG (F := Fence.wide) (n := 5) (P := Tryd.prog) (w := W9) rfl (by decide) (gf := 36) (lb := #[.pointer (some ⟨Bx, 0, none⟩)]) rfl trivial (enters_of Tryd.func36 (by kernel_rfl) rfl) hIt kp_t hKb9 (Below.refl _ _) (fun _ => rfl)
          (fun pre W => Iv w Lb Db b m Bx lv vF l [D] T2 (T2 + 1) 1 pre W)
          (fun c pre W => False)
          (iv_own w Lb Db b m Bx lv vF l [D] T2 (T2 + 1) 1 _ (by rw [HS9.out]; omega))
          (fun c _ _ _ _ hf _ _ => hf)
          HI9.out
        case hassign =>
          intro lp x W K hK
          unfold encF
          gi_wp2
          exact hK
        case hbody =>
          rintro lp pre x W hIv hpl
          have hsx := HSZ.out x.1 x.2
          obtain ⟨vg, hg1, hg2⟩ := hIv.got
          have hpl' : pre.length < l.length := hpl
          have cG : W.cell? ⟨T2 + 1, 0, none⟩ = some vg := Lib.cell_of_heap hg1 0
          have HIv := hid_of hIv
          have HG2 := hid_of hg2
          obtain ⟨ag2, cg2, hag, _⟩ := fs_row (l := pre.map (·.1)) (by rw [List.length_map]; exact hg2)
          rw [List.length_map] at hag
          have HNX : Hid (∀ w1 v', w1.ownsRow (T2 + 1 + 1) 52 2 v' (pre.length + 1) ((pre.map (·.1)).flatMap fCells ++ [.string (mk x.1.1), .string (mk x.1.2)]) → (W.alloc (.cells #[.string (mk x.1.1), .string (mk x.1.2)] 52)).grownBy w1 vg.ownBlock → Iv w Lb Db b m Bx lv vF l [D] T2 (T2 + 1) 1 (pre ++ [x]) (w1.setCell ⟨T2 + 1, 0, none⟩ v') ∧ KeepsFrom (T2 + 1 + 1) W (w1.setCell ⟨T2 + 1, 0, none⟩ v') ∧ (∀ k, k < T2 + 1 → (w1.setCell ⟨T2 + 1, 0, none⟩ v').heap[k]? = W.heap[k]?) ∧ w1.heap[T2 + 1]? = W.heap[T2 + 1]?) := hid_of fun w1 v' ho hg => iv_step hIv x hg2 _ hg ho
          have HGB := hid_of hg1
          subst hag
          have HSX := hid_of hsx
          clear hIv hg1 hg2 hsx
          generalize hX : mk x.1.1 = X at *
          generalize hY : mk x.1.2 = Y at *
          have HX1 := hid_of hX
          clear hX hY
          gi_wp2_with (first
            | (gi_at_builtin; refine wpListIn_append_own _ rfl _ _ 22 rfl (T2 + 1 + 1) 52 i0 (.agg #[.string ⟨#[]⟩, .string ⟨#[]⟩]) 2 32 Tryd.underlying22 hi0 hz0 hz1 hz2 rfl (by decide) _ _ _ rfl (HG2.out.alloc _) _ 1 1 [.string X, .string Y] rfl rfl (two_new _ _ _ _) (by simp [Value.oneCell']) (by unfold maxLen; omega) (by omega) (by have := HIv.out.gsz; simp; omega) ?_; intro v' w10 hown hgr hnil; obtain ⟨g', cap', rfl⟩ := ownsRow_succ hown; obtain ⟨hi1, hk1, hlow1, hG1⟩ := HNX.out w10 _ hown hgr; have cG1 : w10.cell? ⟨T2 + 1, 0, none⟩ = some (.slice ag2 pre.length cg2) := Lib.cell_of_heap (hG1.trans HGB.out) 0; have fG1 : w10.frozen? ⟨T2 + 1, 0, none⟩ = false := Lib.frozen_of_heap (hG1.trans HGB.out) 0; have cD1 : (w10.setCell ⟨T2 + 1, 0, none⟩ (.slice (some ⟨g', 0, none⟩) (pre.length + 1) cap')).cell? ⟨Db, 0, none⟩ = some (.pointer (some ⟨b, 0, none⟩)) := Lib.cell_of_heap hi1.sv.dc 0; have HI1 := hid_of hi1; have HK1 := hid_of (And.intro hk1 hlow1); clear hi1 hk1 hlow1)
            | go_in)
          obtain ⟨L', dk'⟩ := HI1.out.sv.dk
          have H14 := hid_of (drop_call b m L' X _ dk' (by rw [← HX1.out, mk_size]; have := HSX.out.1; omega))
          have hG2 : (w10.setCell ⟨T2 + 1, 0, none⟩ (.slice (some ⟨g', 0, none⟩) (pre.length + 1) cap')).cell? ⟨T2 + 1, 0, none⟩ = some (.slice (some ⟨g', 0, none⟩) (pre.length + 1) cap') := World.cell?_setCell_same' _ _ _ (by rw [cG1]; rfl)
          have HG3 := hid_of hG2
          unfold ptr at H14
          clear dk' cG1 fG1 hG2 cD1 hown hgr hnil hG1
          refine ⟨trivial, (CallsIn.inRound lp (callsIn_wide.2 H14.out)).mono ?_⟩
          rintro e w4' hw4
          obtain ⟨rfl, d4, m4⟩ := hw4
          have hi4 := iv_mv HI1.out d4 m4
          have hmlt : m < T2 := hi4.sv.ltZ.2.2.2.1
          have x1 : w4'.cell? ⟨T2, 0, none⟩ = some (.int .i64 1) := Lib.cell_of_heap hi4.tb 0
          have HKF : Hid (KeepsFrom W9.heap.size W w4') := hid_of (by rw [HS9.out]; exact HK1.out.1.trans (mv_from m4 (by omega)))
          have HKP : Hid (Kp (fun k => k = Bx ∨ vF.ownBlock = some k) W w4') := hid_of (kp_mv HIv.out.sv (fun k hk => HK1.out.2 k (by omega)) m4)
          have HI4 := hid_of hi4
          clear hi4 d4 m4 H14 HG3 HI1 HK1 hmlt
          gi_wp2_with fail
          exact ⟨HKF.out, HKP.out, HI4.out⟩
        case hdone =>
          rintro D2 xs W hD hxs hIv hK
          have hxl : xs.length = l.length := by rw [hxs, xs_len l l.length (Nat.le_refl _)]
          have hxm : xs.map (·.1) = l := by rw [hxs, xs_map, List.take_length]
          obtain ⟨vg, hg1, hg2⟩ := hIv.got
          rw [hxm, hxl] at hg2
          have x1 : W.cell? ⟨T2, 0, none⟩ = some (.int .i64 1) := Lib.cell_of_heap hIv.tb 0
          have x3 : W.cell? ⟨T2 + 1, 0, none⟩ = some vg := Lib.cell_of_heap hg1 0
          have H17 := hid_of (same_call vg _ l l W (fs_row hg2) (HG.out.fs.below hIv.sv.bel) (by omega) (by omega))
          rw [decide_eq_true (rfl : l = l)] at H17
          obtain ⟨ag2, cg2, hag, _⟩ := fs_row hg2
          subst hag
          have HBE := hid_of hIv.sv.bel
          have HDF := hid_of (And.intro hK (hIv.df D (by simp)).2)
          have HD2 := hid_of (show w.heap.size ≤ D2 ∧ D ≠ D2 from by have := HS9.out; have := HDlo.out; have := hIv.zm; exact ⟨by omega, by omega⟩)
          clear hIv hg1 hg2 hxs hxl hxm hD hK hIt hKb9
          gi_wp2_with fail
          refine ⟨trivial, callsIn_wide.2 (H17.out.mono ?_)⟩
          rintro e w11 hw11
          obtain ⟨rfl, b11⟩ := hw11
          have x4 := cell_on b11 x1
          have HB11 := hid_of b11
          clear b11 H17 x1 x3
          gi_wp2_with fail
          rw [roundsIn_succ]
          gi_wp2_with fail
          have bA : Below w11.heap.size w11 (w11.alloc (.cells #[.int .i64 2] 3)) := (Below.refl _ w11).alloc (Nat.le_refl _) _
          have bB : Below W.heap.size W (w11.alloc (.cells #[.int .i64 2] 3)) := Base.bel HB11.out bA (Nat.le_refl _)
          have bC := Base.bel HBE.out bB (Nat.le_refl _)
          refine ⟨trivial, callsIn_wide.2 ((H8.out _ (HH.out.later bC)).mono ?_)⟩
          rintro e w12 hw12
          obtain ⟨rfl, b12⟩ := hw12
          have bD := Base.bel bB b12 (Nat.le_refl _)
          have hK2 : w12.heap[D2]? = some (.deferred (some [])) := (bD.block _ (lt_of HDF.out.1)).trans HDF.out.1
          have hK1 : w12.heap[D]? = some (.deferred (some [])) := (bD.block _ (lt_of HDF.out.2)).trans HDF.out.2
          have bE := hid_of (Base.bel HBE.out bD (Nat.le_refl _))
          clear bA bB bC b12 bD
          gi_wp2_with fail
          have hK3 : (w12.putObj D2 (.deferred none)).heap[D]? = some (.deferred (some [])) := ((grownBy_putObj' w12 D2 (.deferred none)).block D (lt_of hK1) (fun e => HD2.out.2 (by cases e; rfl))).trans hK1
          refine ⟨by simp, .inl ⟨_, _, rfl, run_takeDeferred hK2, ?_⟩⟩
          refine ⟨by simp, .inl ⟨_, _, rfl, run_takeDeferred hK3, ?_⟩⟩
          have bF : Below w.heap.size w (w12.putObj D2 (.deferred none)) := bE.out.grown (grownBy_putObj' w12 D2 (.deferred none)) bE.out.size (fun j hj => by cases hj; exact HD2.out.1)
          have bG : Below w.heap.size w ((w12.putObj D2 (.deferred none)).putObj D (.deferred none)) := bF.grown (grownBy_putObj' _ D (.deferred none)) bF.size (fun j hj => by cases hj; exact HDlo.out.1)
          exact ⟨_, results_tmp rfl _ _ _, rfl, bG⟩
        case hstop =>
          rintro D2 c pre W hD _ hf _
          exact hf.elim
set_option maxHeartbeats 4000000 in
set_option maxRecDepth 100000 in
theorem over_no (v : Value) (l : FL) (lv : Int) (w : World) (h : Gv w v l) (hr : ¬ Ris l) (hh : Has w) : Calls Tryd.prog 7 #[v, .int .i64 lv] w fun e w' => e = .returned (.bool true) ∧ Below w.heap.size w w' := by
  have HH := hid_of hh
  have bL : Below w.heap.size w (w.alloc (.cells #[.int .i64 lv] 3)) := (Below.refl _ w).alloc (Nat.le_refl _) _
  have BL := hid_of bL
  have H1 := hid_of (of_no v l _ (h.fs.below bL) (by have := h.len; omega) hr)
  have H2 : Hid (∀ w1, Below w.heap.size w w1 → Calls Tryd.prog 9 #[v] w1 fun e w' => e = .returned (.bool false) ∧ Below w1.heap.size w1 w') := hid_of fun w1 b1 => by
    have := rises_call v l w1 (h.fs.below b1) (by have := h.len; omega)
    rw [decide_eq_false hr] at this
    exact this
  have H8 := hid_of sure_call
  clear h hr hh bL
  go_enter Tryd.func7, Tryd.ntmps7
  go_wp2_with fail
  refine H1.out.mono ?_
  rintro e w1 hw1
  obtain ⟨rfl, bb⟩ := hw1
  have B1 := hid_of (Base.bel BL.out bb (Nat.le_refl _))
  have B2 := hid_of (Base.bel B1.out ((Below.refl _ w1).alloc (Nat.le_refl _) (.cells #[.pointer none] 24)) (Nat.le_refl _))
  have H2' := hid_of (H2.out _ B2.out)
  clear bb H2 BL
  go_wp2_with fail
  refine H2'.out.mono ?_
  rintro e w2 hw2
  obtain ⟨rfl, bb⟩ := hw2
  have B3 := hid_of (Base.bel B2.out bb (Nat.le_refl _))
  clear bb B1 B2
  go_wp2_with fail
  refine (H8.out _ (HH.out.later B3.out)).mono ?_
  rintro e w4 hw4
  obtain ⟨rfl, bb⟩ := hw4
  go_wp2_with fail
  go_ret
  exact ⟨rfl, Base.bel B3.out bb (Nat.le_refl _)⟩
theorem over_call (v : Value) (l : FL) (lv : Int) (w : World) (h : Gv w v l) (hc : ∃ a c, v = .slice a l.length c ∧ l.length ≤ c) (hlv : -9223372036854775808 ≤ lv ∧ lv ≤ 9223372036854775807) (hh : Has w) : Calls Tryd.prog 7 #[v, .int .i64 lv] w fun e w' => e = .returned (.bool true) ∧ Below w.heap.size w w' := by
  by_cases hr : Ris l
  · exact over_yes v l lv w h hc hr hlv hh
  · exact over_no v l lv w h hr hh
end Go.Proofs.YtolihcgpnoacaaaDoor.Over
