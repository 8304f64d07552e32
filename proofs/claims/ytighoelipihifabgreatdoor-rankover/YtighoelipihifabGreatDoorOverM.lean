/- What the law RankOver carries. -/
import Derived.Test.YtighoelipihifabGreatDoorOverA
namespace Go.Proofs.YtighoelipihifabGreatDoor.OverM
open Go.RowKit Go.Maps Go.Sort Go.Shelf
open Go.Proofs.YtighoelipihifabGreatDoor.MapMath
open Go.Proofs.YtighoelipihifabGreatDoor.RankMath
open Go.Proofs.YtighoelipihifabGreatDoor.RankMath2
open Go.Proofs.YtighoelipihifabGreatDoor.RankMath3
open Go.Proofs.YtighoelipihifabGreatDoor.Base
open Go.Proofs.YtighoelipihifabGreatDoor.OverA
set_option linter.unusedVariables false
set_option linter.unusedSimpArgs false
/- blocks of S may turn in any way -/
structure Fs (S : Nat → Prop) (w w' : World) : Prop where
  os : w'.os = w.os
  tape : w'.tape = w.tape
  output : w'.output = w.output
  size : w.heap.size ≤ w'.heap.size
  block : ∀ k, k < w.heap.size → ¬ S k → w'.heap[k]? = w.heap[k]?
theorem Fs.of_below {S : Nat → Prop} {a b : World} (h : Below a.heap.size a b) : Fs S a b := ⟨h.os, h.tape, h.output, h.size, fun k hk _ => h.block k hk⟩
theorem Fs.grown {a b : World} {row : Option Nat} (h : a.grownBy b row) : Fs (fun k => row = some k) a b := ⟨h.os, h.tape, h.output, h.size, fun k hk n => h.block k hk fun e => n e.symm⟩
theorem Fs.mo {S : Nat → Prop} {a b : World} (h : Mo S a b) : Fs S a b := ⟨h.os, h.tape, h.output, h.size, h.block⟩
theorem Fs.set {w : World} {g i : Nat} (v : Value) : Fs (fun k => k = g) w (w.setCell ⟨g, i, none⟩ v) := by
  have e0 : Below 0 w (w.setCell ⟨g, i, none⟩ v) := (Below.refl 0 w).setCell (Nat.zero_le _) v
  exact ⟨e0.os, e0.tape, e0.output, e0.size, fun k hk hn => set_ne hn v⟩
theorem Fs.low {S : Nat → Prop} {a b : World} (h : Fs S a b) {base : Nat} (hb : base ≤ a.heap.size) (hS : ∀ k, S k → base ≤ k) : Below base a b := ⟨h.os, h.tape, h.output, h.size, fun k hk => h.block k (by omega) fun e => by have := hS k e; omega⟩
theorem cells_not {o : Obj} {cs : Array Value} {t : TypeId} {fz : Nat × Nat} (h : o = .cells cs t fz) (h2 : o.isCells = false) : False := by subst h; cases h2
theorem RX.fs {B b m : Nat} {t : T} {ml l : EL} {w w' : World} {S : Nat → Prop} (h : RX B b m t ml l w) (f : Fs S w w') (hb : ¬ S b) (hm : ¬ S m) (ht : ∀ k ∈ t.blks, ¬ S k) : RX B b m t ml l w' :=
  { h with blk := (f.block b (lt_of h.blk) hb).trans h.blk, map := owns_later h.map (f.block m h.map.lt hm), tr := h.tr.keep fun k hk => f.block k (h.tr.lt k hk).1 (ht k hk) }
theorem RX.low {B b m : Nat} {t : T} {ml l : EL} {w w' : World} {Z : Nat} (h : RX B b m t ml l w) (hz : ∀ k, k = b ∨ k = m ∨ k ∈ t.blks → w'.heap[k]? = w.heap[k]?) : RX B b m t ml l w' :=
  { h with blk := (hz b (.inl rfl)).trans h.blk, map := owns_later h.map (hz m (.inr (.inl rfl))), tr := h.tr.keep fun k hk => hz k (.inr (.inr hk)) }
theorem RK.low {B b : Nat} {l : EL} {w w' : World} (h : RK B b l w) (hb : Below w.heap.size w w') : RK B b l w' := h.below hb
structure Sv (w0 : World) (Z Lb Rb Bx B b m : Nat) (lv : Int) (vF vm : Value) (L : EL) (W : World) : Prop where
  bel : Below w0.heap.size w0 W
  lc : W.heap[Lb]? = some (.cells #[.int .i64 lv] 3 (0, 0))
  rc : W.heap[Rb]? = some (.cells #[ptr b] 23 (0, 0))
  bx : W.heap[Bx]? = some (.cells #[vF] 22 (0, 0))
  rF : OR 0 W vF L
  rm : OR 0 W vm L
  rk : ∃ t ml X, RX B b m t ml X W ∧ X.length ≤ big
  ltZ : Lb < Z ∧ Rb < Z ∧ Bx < Z ∧ m < Z ∧ (∀ g, vF.ownBlock = some g → g < Z) ∧ (∀ g, vm.ownBlock = some g → g < Z)
  zle : Z ≤ W.heap.size
  zm : w0.heap.size ≤ Z
  hB : w0.heap.size ≤ B
section
variable {w0 W W' : World} {Z Lb Rb Bx B b m : Nat} {lv : Int} {vF vm : Value} {L : EL}
theorem Sv.fs {S : Nat → Prop} (h : Sv w0 Z Lb Rb Bx B b m lv vF vm L W) (f : Fs S W W') (hS : ∀ k, S k → Z ≤ k ∧ kd W k ≠ 52 + 2 ∧ kd W k ≠ 73 + 2) : Sv w0 Z Lb Rb Bx B b m lv vF vm L W' := by
  obtain ⟨z1, z2, z3, z4, z5, z6⟩ := h.ltZ
  have hk : ∀ k, k < Z → W'.heap[k]? = W.heap[k]? := fun k q => f.block k (Nat.lt_of_lt_of_le q h.zle) fun s => by have := (hS k s).1; omega
  obtain ⟨t, ml, X, r, hx⟩ := h.rk
  exact ⟨h.bel.trans (f.low h.bel.size fun k s => Nat.le_trans h.zm (hS k s).1), (hk _ z1).trans h.lc, (hk _ z2).trans h.rc, (hk _ z3).trans h.bx, row_later h.rF (fun g _ _ _ hg _ _ => hk g (z5 g hg)), row_later h.rm (fun g _ _ _ hg _ _ => hk g (z6 g hg)), ⟨t, ml, X, RX.fs r f (fun s => (hS b s).2.1 (kd_cells r.blk)) (fun s => by have := (hS m s).1; omega) (fun k hk s => (hS k s).2.2 (r.tr.lt k hk).2), hx⟩, h.ltZ, Nat.le_trans h.zle f.size, h.zm, h.hB⟩
theorem Sv.below (h : Sv w0 Z Lb Rb Bx B b m lv vF vm L W) (f : Below W.heap.size W W') : Sv w0 Z Lb Rb Bx B b m lv vF vm L W' := h.fs (Fs.of_below (S := fun _ => False) f) fun _ s => s.elim
theorem Sv.em (h : Sv w0 Z Lb Rb Bx B b m lv vF vm L W) (e : EM B m W W') (r' : ∃ t ml X, RX B b m t ml X W' ∧ X.length ≤ big) : Sv w0 Z Lb Rb Bx B b m lv vF vm L W' := by
  obtain ⟨t, ml, X, r, hx⟩ := h.rk
  have hmB : B ≤ m := r.mb
  obtain ⟨es, c, hmm⟩ := owns_map r.map
  have hc : ∀ {k : Nat} {cs : Array Value} {ty : TypeId} {fz : Nat × Nat}, W.heap[k]? = some (.cells cs ty fz) → ty ≠ 52 → ty ≠ 73 → W'.heap[k]? = some (.cells cs ty fz) := fun hk h1 h2 => e.stay hk (fun q => by subst q; rw [hmm] at hk; injection hk with hk; cases hk) (by rw [kd_cells hk]; intro q; exact h1 (Nat.add_right_cancel q)) (by rw [kd_cells hk]; intro q; exact h2 (Nat.add_right_cancel q))
  exact ⟨h.bel.trans ((Fs.mo e).low h.bel.size fun k s => by
      have := h.hB
      rcases s with s | s
      · omega
      · omega), hc h.lc (by decide) (by decide), hc h.rc (by decide) (by decide), hc h.bx (by decide) (by decide), row_later h.rF (fun g cs t fz _ hg ht => (hc hg (by rw [ht]; decide) (by rw [ht]; decide)).trans hg.symm), row_later h.rm (fun g cs t fz _ hg ht => (hc hg (by rw [ht]; decide) (by rw [ht]; decide)).trans hg.symm), r', h.ltZ, Nat.le_trans h.zle e.size, h.zm, h.hB⟩
theorem Sv.more {Z' : Nat} (h : Sv w0 Z Lb Rb Bx B b m lv vF vm L W) (hz : Z ≤ Z') (hz2 : Z' ≤ W.heap.size) : Sv w0 Z' Lb Rb Bx B b m lv vF vm L W := by
  obtain ⟨z1, z2, z3, z4, z5, z6⟩ := h.ltZ
  exact ⟨h.bel, h.lc, h.rc, h.bx, h.rF, h.rm, h.rk, ⟨by omega, by omega, by omega, by omega, fun g hg => Nat.lt_of_lt_of_le (z5 g hg) hz, fun g hg => Nat.lt_of_lt_of_le (z6 g hg) hz⟩, hz2, Nat.le_trans h.zm hz, h.hB⟩
end
/- what a range carries: the time's box, what has come -/
structure Iv (w0 : World) (Lb Rb Bx B b m : Nat) (lv : Int) (vF vm : Value) (L : EL) (Ds : List Nat) (Tb Gb : Nat) (t : Int) (pre : List (Fx L)) (W : World) : Prop where
  sv : Sv w0 Tb Lb Rb Bx B b m lv vF vm L W
  tb : W.heap[Tb]? = some (.cells #[.int .i64 t] 3 (0, 0))
  got : ∃ vg, W.heap[Gb]? = some (.cells #[vg] 22 (0, 0)) ∧ OR (Gb + 1) W vg (pre.map (·.1))
  gsz : Gb + 1 ≤ W.heap.size
  tg : Tb < Gb
  df : ∀ D ∈ Ds, D < Tb ∧ W.heap[D]? = some (.deferred (some []))
section
variable {w0 W W' : World} {Lb Rb Bx B b m : Nat} {lv : Int} {vF vm : Value} {L : EL} {Ds : List Nat} {Tb Gb : Nat} {t : Int} {pre : List (Fx L)}
theorem iv_own (w0 : World) (Lb Rb Bx B b m : Nat) (lv : Int) (vF vm : Value) (L : EL) (Ds : List Nat) (Tb Gb : Nat) (t : Int) (B0 : Nat) (hB : Gb + 1 ≤ B0) : OwnFrom B0 (Iv w0 Lb Rb Bx B b m lv vF vm L Ds Tb Gb t) := fun pre W W' row h hg hr => by
  have htg := h.tg
  have hk : ∀ k, k < Gb + 1 → W'.heap[k]? = W.heap[k]? := fun k q => hg.block k (Nat.lt_of_lt_of_le q h.gsz) fun e => by have := (hr k e.symm).1; omega
  obtain ⟨vg, g1, g2⟩ := h.got
  refine ⟨h.sv.fs (Fs.grown hg) fun k e => ?_, (hk _ (by omega)).trans h.tb, ⟨vg, (hk _ (by omega)).trans g1, row_later g2 (fun g cs ty fz _ hh _ => hg.block g (lt_of hh) fun e => by
    obtain ⟨_, o, ho, hn⟩ := hr g e.symm
    rw [hh] at ho
    injection ho with ho
    exact cells_not ho.symm hn)⟩, Nat.le_trans h.gsz hg.size, h.tg, fun D hD => ⟨(h.df D hD).1, (hk D (by have := (h.df D hD).1; omega)).trans (h.df D hD).2⟩⟩
  obtain ⟨h1, o, ho, hn⟩ := hr k e
  exact ⟨by omega, kd_other ho hn _, kd_other ho hn _⟩
theorem iv_drop (h : Iv w0 Lb Rb Bx B b m lv vF vm L Ds Tb Gb t pre W) (e : EM B m W W') (r' : ∃ t ml X, RX B b m t ml X W' ∧ X.length ≤ big) : Iv w0 Lb Rb Bx B b m lv vF vm L Ds Tb Gb t pre W' ∧ (∀ (k : Nat) (cs : Array Value) (ty : TypeId) (fz : Nat × Nat), W.heap[k]? = some (Obj.cells cs ty fz) → ty ≠ 52 → ty ≠ 73 → W'.heap[k]? = some (Obj.cells cs ty fz)) := by
  obtain ⟨t', ml, X, r, hx⟩ := h.sv.rk
  obtain ⟨es, c, hmm⟩ := owns_map r.map
  have hc : ∀ (k : Nat) (cs : Array Value) (ty : TypeId) (fz : Nat × Nat), W.heap[k]? = some (.cells cs ty fz) → ty ≠ 52 → ty ≠ 73 → W'.heap[k]? = some (.cells cs ty fz) := fun k cs ty fz hk h1 h2 => e.stay hk (fun q => by subst q; rw [hmm] at hk; injection hk with hk; cases hk) (by rw [kd_cells hk]; intro q; exact h1 (Nat.add_right_cancel q)) (by rw [kd_cells hk]; intro q; exact h2 (Nat.add_right_cancel q))
  obtain ⟨vg, g1, g2⟩ := h.got
  refine ⟨⟨h.sv.em e r', hc _ _ _ _ h.tb (by decide) (by decide), ⟨vg, hc _ _ _ _ g1 (by decide) (by decide), row_later g2 (fun g cs t fz _ hg ht => (hc _ _ _ _ hg (by rw [ht]; decide) (by rw [ht]; decide)).trans hg.symm)⟩, Nat.le_trans h.gsz e.size, h.tg, fun D hD => ⟨(h.df D hD).1, e.stay (h.df D hD).2 (fun q => by have := (h.df D hD).2; rw [q, hmm] at this; cases this) (kd_other (h.df D hD).2 rfl _) (kd_other (h.df D hD).2 rfl _)⟩⟩, hc⟩
/- one more has come -/
theorem iv_step (h : Iv w0 Lb Rb Bx B b m lv vF vm L Ds Tb Gb t pre W) (x : Fx L) {vg v' : Value} {w1 : World} (hv : OR (Gb + 1) W vg (pre.map (·.1))) (o : Obj)
    (hg : (W.alloc o).grownBy w1 vg.ownBlock) (ho : OR (Gb + 1) w1 v' (pre.map (·.1) ++ [x.1])) :
    Iv w0 Lb Rb Bx B b m lv vF vm L Ds Tb Gb t (pre ++ [x]) (w1.setCell ⟨Gb, 0, none⟩ v') ∧ KeepsFrom (Gb + 1) W (w1.setCell ⟨Gb, 0, none⟩ v') ∧ (∀ k, k < Gb → (w1.setCell ⟨Gb, 0, none⟩ v').heap[k]? = W.heap[k]?) ∧ w1.heap[Gb]? = W.heap[Gb]? := by
  have hvb : ∀ k, vg.ownBlock = some k → Gb + 1 ≤ k ∧ ∃ cs fz, W.heap[k]? = some (.cells cs 35 fz) := fun k hk => by
    rcases hv.2 with ⟨rfl, _⟩ | ⟨g, cap, cur, rfl, hb, hh, _⟩
    · cases hk
    · have : g = k := by simpa [Value.ownBlock] using hk
      subst this
      exact ⟨hb, cur, (0, 0), hh⟩
  have hsz1 : W.heap.size ≤ w1.heap.size := by have := hg.size; simp at this; omega
  have f1 : Fs (fun k => vg.ownBlock = some k) W w1 := ⟨hg.os, hg.tape, hg.output, hsz1, fun k hk hne => (hg.block k (by simp; omega) (fun e => hne e.symm)).trans (Below.heap_alloc W o k hk)⟩
  have hlow1 : ∀ k, k < Gb + 1 → w1.heap[k]? = W.heap[k]? := fun k hk => f1.block k (Nat.lt_of_lt_of_le hk h.gsz) (fun e => by have := (hvb k e).1; omega)
  have hlow : ∀ k, k < Gb → (w1.setCell ⟨Gb, 0, none⟩ v').heap[k]? = W.heap[k]? := fun k hk => (Below.heap_setCell _ _ _ _ (show k ≠ Gb from by omega)).trans (hlow1 k (by omega))
  obtain ⟨vg0, g1, _⟩ := h.got
  have hG1 : w1.heap[Gb]? = some (.cells #[vg0] 22 (0, 0)) := (hlow1 Gb (by omega)).trans g1
  have htg := h.tg
  have hsz2 : (w1.setCell ⟨Gb, 0, none⟩ v').heap.size = w1.heap.size := by simp [World.setCell]
  have s1 := h.sv.fs f1 fun k e => by
    obtain ⟨q, cs, fz, hh⟩ := hvb k e
    exact ⟨by omega, by rw [kd_cells hh]; decide, by rw [kd_cells hh]; decide⟩
  have s2 := s1.fs (Fs.set (g := Gb) (i := 0) v') fun k e => by
    subst e
    exact ⟨by omega, by rw [kd_cells hG1]; decide, by rw [kd_cells hG1]; decide⟩
  refine ⟨⟨s2, (hlow _ htg).trans h.tb, ⟨v', ?_, ?_⟩, by rw [hsz2]; exact Nat.le_trans h.gsz hsz1, h.tg, fun D hD => ⟨(h.df D hD).1, (hlow D (by have := (h.df D hD).1; omega)).trans (h.df D hD).2⟩⟩, ⟨by rw [hsz2]; exact hsz1, fun k ob hk hb hn => ?_⟩, hlow, hlow1 Gb (by omega)⟩
  · have := set_at (i := 0) hG1 v'
    simpa using this
  · rw [List.map_append]
    exact row_later ho (fun g cs ty fz hgb _ _ => Below.heap_setCell _ _ _ _ (show g ≠ Gb from fun e => by
      have := (ho.lt g hgb).1
      omega))
  · rw [Below.heap_setCell _ _ _ _ (show k ≠ Gb from by omega), f1.block k (lt_of hb) (fun e => by
      obtain ⟨_, cs, fz, hc⟩ := hvb k e
      rw [hb] at hc
      injection hc with hc
      exact cells_not hc hn)]
    exact hb
end
theorem iv_start {w0 W : World} {Z Lb Rb Bx B b m : Nat} {lv : Int} {vF vm : Value} {L : EL} (h : Sv w0 Z Lb Rb Bx B b m lv vF vm L W) (Ds : List Nat) (hD : ∀ D ∈ Ds, W.heap[D]? = some (.deferred (some []))) (t : Int) :
    Iv w0 Lb Rb Bx B b m lv vF vm L Ds W.heap.size (W.heap.size + 1) t [] ((W.alloc (.cells #[.int .i64 t] 3)).alloc (.cells #[.slice none 0 0] 22)) ∧ ((W.alloc (.cells #[.int .i64 t] 3)).alloc (.cells #[.slice none 0 0] 22)).heap.size = W.heap.size + 2 := by
  have e1 : (W.alloc (.cells #[.int .i64 t] 3)).heap.size = W.heap.size + 1 := by simp
  have e2 : ((W.alloc (.cells #[.int .i64 t] 3)).alloc (.cells #[.slice none 0 0] 22)).heap.size = W.heap.size + 2 := by simp
  have bB : Below W.heap.size W ((W.alloc (.cells #[.int .i64 t] 3)).alloc (.cells #[.slice none 0 0] 22)) := Base.bel (bnew W _) (bnew _ _) (Nat.le_refl _)
  have h2 := heap_alloc_new (W.alloc (.cells #[.int .i64 t] 3)) (.cells #[.slice none 0 0] 22)
  rw [e1] at h2
  refine ⟨⟨(h.below bB).more h.zle (by omega), ?_, ⟨_, h2, or_nil _ _⟩, by omega, by omega, fun D q => ⟨lt_of (hD D q), (bB.block _ (lt_of (hD D q))).trans (hD D q)⟩⟩, e2⟩
  rw [Below.heap_alloc _ _ _ (by omega)]
  exact heap_alloc_new W _
theorem kq_em {w0 W w2 w4 : World} {Z Lb Rb Bx B b m : Nat} {lv : Int} {vF vm : Value} {L : EL} (h : Sv w0 Z Lb Rb Bx B b m lv vF vm L W) (hl : ∀ k, k < Z → w2.heap[k]? = W.heap[k]?) (hc : ∀ (k : Nat) (cs : Array Value) (ty : TypeId) (fz : Nat × Nat), w2.heap[k]? = some (Obj.cells cs ty fz) → ty ≠ 52 → ty ≠ 73 → w4.heap[k]? = some (Obj.cells cs ty fz)) : Kq (fun k => k = Bx ∨ vF.ownBlock = some k) W w4 := fun k hk => by
  obtain ⟨_, _, z3, _, z5, _⟩ := h.ltZ
  rcases hk with rfl | hk
  · rw [h.bx]
    exact hc _ _ _ _ ((hl _ z3).trans h.bx) (by decide) (by decide)
  · rcases h.rF.2 with ⟨rfl, _⟩ | ⟨g, cap, cur, rfl, _, hh, _⟩
    · cases hk
    · have e : g = k := by simpa [Value.ownBlock] using hk
      subst e
      rw [hh]
      exact hc _ _ _ _ ((hl _ (z5 _ hk)).trans hh) (by decide) (by decide)
theorem kq_lt {w0 W : World} {Z Lb Rb Bx B b m : Nat} {lv : Int} {vF vm : Value} {L : EL} (h : Sv w0 Z Lb Rb Bx B b m lv vF vm L W) : ∀ k, (k = Bx ∨ vF.ownBlock = some k) → k < Z := fun k hk => by
  obtain ⟨_, _, z3, _, z5, _⟩ := h.ltZ
  rcases hk with rfl | hk
  · exact z3
  · exact z5 k hk
theorem sv_start {w0 w4 wr w7 : World} {Lb Rb Bx B b : Nat} {lv : Int} {vF vm : Value} {L X : EL} (h : w4.heap[Rb]? = some (.cells #[ptr b] 23 (0, 0)) ∧ w4.heap[Lb]? = some (.cells #[.int .i64 lv] 3 (0, 0)) ∧ RK B b L w4 ∧ OR 0 w4 vm L ∧ Below w0.heap.size w0 w4 ∧ w4.heap[Bx]? = some (.cells #[vF] 22 (0, 0)) ∧ OR 0 w4 vF L) (hb : Below w4.heap.size w4 wr) (hB : w0.heap.size ≤ B) (hB2 : B ≤ wr.heap.size) (r : RK B b X w7) (e : Ev B wr w7) (hX : X.length ≤ big) : ∃ m, Sv w0 w7.heap.size Lb Rb Bx B b m lv vF vm L w7 := by
  obtain ⟨h1, h2, h3, h4, h5, h6, h7⟩ := h
  obtain ⟨m, t, ml, rx⟩ := r
  have hc : ∀ {k : Nat} {cs : Array Value} {ty : TypeId} {fz : Nat × Nat}, w4.heap[k]? = some (.cells cs ty fz) → RT (ty + 2) = false → w7.heap[k]? = some (.cells cs ty fz) := fun hk hn => by
    have hk2 := (hb.block _ (lt_of hk)).trans hk
    exact (e.block _ (lt_of hk2) (by rintro ⟨_, q⟩; rw [kd_cells hk2, hn] at q; cases q)).trans hk2
  have b7 : Below w0.heap.size w0 w7 := (Base.bel h5 hb (Nat.le_refl _)).trans ((e.below hB2).mono hB)
  have rF := row_ev (row_below h7 hb) e
  have rm := row_ev (row_below h4 hb) e
  have c1 := hc h1 (by decide)
  have c2 := hc h2 (by decide)
  have c6 := hc h6 (by decide)
  exact ⟨m, b7, c2, c1, c6, rF, rm, ⟨t, ml, X, rx, hX⟩, ⟨lt_of c2, lt_of c1, lt_of c6, rx.map.lt, fun g hg => (rF.lt g hg).2, fun g hg => (rm.lt g hg).2⟩, Nat.le_refl _, b7.size, hB⟩
theorem kq_low {Z : Nat} {G : Nat → Prop} {W W' : World} (hG : ∀ k, G k → k < Z) (h : ∀ k, k < Z → W'.heap[k]? = W.heap[k]?) : Kq G W W' := fun k hk => h k (hG k hk)
/- an append in whatever fence -/
theorem wplIn_eq {F : Fence} {n : Nat} {ops : Array Oper} {rest : List Oper} {o : Oper} {a : Act} {Q : Exit → Act → World → Prop} (hgd : o.guard = none) (s x : Operand) (t tx : TypeId) (ho : o.op = .call { callee := .builtin .append, args := #[s, x], argTypes := #[t, tx] }) (v u v' : Value) (W W' : World) (hs : a.eval s = v) (hx : a.eval x = u)
    (hr : (Builtin.append_ #[t, tx] o.type #[v, u]).run Tryz.prog W = .ok v' W') (hK : wpListIn F n Tryz.prog ops Q rest (a.put o.dst v') W') : wpListIn F n Tryz.prog ops Q (o :: rest) a W := by
  refine wpListIn_plain hgd fun K hK' => ?_
  unfold Oper.wpIn
  refine ⟨?_, ?_⟩
  · simp [Oper.about, ho, resolve, Target.leads, Sem.run_pure]
  · rw [Oper.semAt_plain F _ _ (by rw [ho]; intro c hc'; cases hc')]
    simp [execOp, ho, resolve, invoke, builtin, hs, hx, hr, Result.andThen]
    exact hK' _ _ hK
theorem kq_put {Q : Nat → Prop} {n : Nat} (hQ : ∀ k, Q k → k < n) (W : World) (q : Nat) (o o' : Obj) (hq : n ≤ q) (_ : W.heap[q]? = some o) (_ : o.isCells = false) (_ : o.isWalk = false) : Kq Q W (W.putObj q o') := fun k hk => by
  have := hQ k hk
  by_cases hkW : k < W.heap.size
  · exact (grownBy_putObj' W q o').block k hkW (by intro e; cases e; omega)
  · have e1 : (W.putObj q o').heap.size = W.heap.size := by simp [World.putObj]
    rw [Array.getElem?_eq_none (by rw [e1]; omega), Array.getElem?_eq_none (by omega)]
theorem inb {id : Nat} {Q : Exit → Act → World → Prop} {a : Act} {w : World} (h : Q .normal a w) : Exit.inBlock id Q (.exit id) a w := by
  unfold Exit.inBlock
  simp only [if_true]
  exact h
theorem share3 {α β γ : Type} {Goal : Prop} {P G : α → β → γ → Prop} (hmain : (∀ a b c, P a b c → G a b c) → Goal) (hrest : ∀ a b c, P a b c → G a b c) : Goal := hmain hrest
/- a post that no panic meets -/
def calm (Q : Exit → Act → World → Prop) : Exit → Act → World → Prop
  | .normal, a, w => Q .normal a w
  | _, _, _ => False
theorem calm_le (Q : Exit → Act → World → Prop) : ∀ e a w, calm Q e a w → Q e a w
  | .normal, _, _, h => h
/- a row that may be spoilt -/
structure Rm (g n : Nat) (w : World) : Prop where
  ex : ∃ cur : Array Value, w.heap[g]? = some (.cells cur 35 (0, 0)) ∧ n * 2 ≤ cur.size
theorem Rm.cell {g n : Nat} {w : World} (h : Rm g n w) (j : Nat) (hj : j < n * 2) : (∃ v, w.cell? ⟨g, j, none⟩ = some v) ∧ w.frozen? ⟨g, j, none⟩ = false := by
  obtain ⟨cur, h1, h2⟩ := h.ex
  refine ⟨⟨cur[j]'(by omega), ?_⟩, Lib.frozen_of_heap h1 j⟩
  rw [Lib.cell_of_heap h1 j]
  exact Array.getElem?_eq_getElem (by omega)
theorem Rm.set {g n g2 : Nat} {w : World} (h : Rm g n w) (j : Nat) (x : Value) : Rm g n (w.setCell ⟨g2, j, none⟩ x) := by
  obtain ⟨cur, h1, h2⟩ := h.ex
  by_cases e : g = g2
  · subst e
    exact ⟨⟨_, set_at h1 x, by simp [h2]⟩⟩
  · exact ⟨⟨cur, (set_ne e x).trans h1, h2⟩⟩
theorem Rm.of {C n : Nat} {w : World} {v : Value} {l : EL} (h : OR C w v l) (hn : n = l.length) : n = 0 ∨ ∃ g c, v = .slice (some ⟨g, 0, none⟩) n c ∧ Rm g n w ∧ C ≤ g := by
  subst hn
  rcases h.2 with ⟨e, h0⟩ | ⟨g, cap, cur, e, hb, hg, q1, q2, q3, q4⟩
  · left; omega
  · right
    exact ⟨g, cap, e, ⟨⟨cur, hg, by omega⟩⟩, hb⟩
end Go.Proofs.YtighoelipihifabGreatDoor.OverM
