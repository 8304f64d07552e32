/- Rows of texts that the law writes into, beside the disk. -/
import Derived.Test.YtilbffbmpgebmaaPlay
namespace Go.Proofs.Ytilbffbmpgebmaa.LastsR
open Go.RowKit Go.Maps Go.Sort
open Go.Proofs.Ytilbffbmpgebmaa.DiskMath
open Go.Proofs.Ytilbffbmpgebmaa.Base
open Go.Proofs.Ytilbffbmpgebmaa.File
open Go.Proofs.Ytilbffbmpgebmaa.File2
open Go.Proofs.Ytilbffbmpgebmaa.Plan
open Go.Proofs.Ytilbffbmpgebmaa.None2
open Go.Proofs.Ytilbffbmpgebmaa.RefTexts
open Go.Proofs.Ytilbffbmpgebmaa.Like
set_option linter.unusedVariables false

theorem row_base {w : World} {base base' n : Nat} {v : Value} {xs : List Value} (h : w.ownsRow base 9 1 v n xs) (hb : base' ≤ base) : w.ownsRow base' 9 1 v n xs :=
  ⟨h.1, h.2.imp id fun ⟨g, cap, cur, e, hg, rest⟩ => ⟨g, cap, cur, e, Nat.le_trans hb hg, rest⟩⟩
theorem row_ev {T : Nat → Bool} {w w' : World} {base b0 n : Nat} {v : Value} {xs : List Value} (hT : T 11 = false) (h : w.ownsRow base 9 1 v n xs) (he : Ev T b0 w w') : w'.ownsRow base 9 1 v n xs :=
  row_later h fun g hg => by
    obtain ⟨q1, q2, _⟩ := row_kd h hg
    exact he.block g q2 (Or.inr (by rw [q1]; exact hT))
theorem row_other {w : World} {base n g k : Nat} {v x : Value} {xs : List Value} (h : w.ownsRow base 9 1 v n xs) (hg : v.ownBlock ≠ some g) : (w.setCell ⟨g, k, none⟩ x).ownsRow base 9 1 v n xs :=
  row_later h fun q hq => set_ne (fun e => hg (by rw [← e]; exact hq)) _
theorem row_set {w : World} {base n g cap k : Nat} {l : List Bs} (h : w.ownsRow base 9 1 (.slice (some ⟨g, 0, none⟩) n cap) n (l.map encStr)) (hk : k < n) (u : Bs) :
    (w.setCell ⟨g, k, none⟩ (encStr u)).ownsRow base 9 1 (.slice (some ⟨g, 0, none⟩) n cap) n ((l.set k u).map encStr) := by
  have hl : l.length = n := by have := h.1; simpa using this
  refine ⟨by simp; exact hl, ?_⟩
  rcases h.2 with ⟨e, _⟩ | ⟨g', cap', cur, e, hb, hh, h1, h2, h3, h4⟩
  · cases e
  · injection e with e1 e2 e3
    injection e1 with e4
    injection e4 with e5
    subst e5 e3
    refine Or.inr ⟨g, cap, _, rfl, hb, set_at hh _, h1, h2, by rw [Array.size_setIfInBounds]; exact h3, ?_⟩
    rw [Array.toList_setIfInBounds, List.take_set, h4, List.map_set]
theorem row_cell {w : World} {base n g cap k : Nat} {l : List Bs} (h : w.ownsRow base 9 1 (.slice (some ⟨g, 0, none⟩) n cap) n (l.map encStr)) (hk : k < n) (hl : k < l.length) : w.cell? ⟨g, k, none⟩ = some (.string (mk (l[k]'hl))) ∧ w.frozen? ⟨g, k, none⟩ = false := by
  constructor
  · rw [h.cellAt k (by omega), List.getElem?_map, List.getElem?_eq_getElem hl]
    rfl
  · rcases h.2 with ⟨e, _⟩ | ⟨g', cap', cur, e, hb, hh, _⟩
    · cases e
    · injection e with e1 e2 e3
      injection e1 with e4
      injection e4 with e5
      subst e5
      exact Lib.frozen_of_heap hh _
theorem row_slice {w : World} {base n : Nat} {v : Value} {xs : List Value} (h : w.ownsRow base 9 1 v n xs) (hn : 0 < n) : ∃ g cap, v = .slice (some ⟨g, 0, none⟩) n cap ∧ n ≤ cap := by
  rcases h.2 with ⟨_, h0⟩ | ⟨g, cap, cur, e, _, _, h1, _⟩
  · omega
  · exact ⟨g, cap, e, h1⟩
theorem has_text {base b g k : Nat} {d : Dk} {w : World} {x : Value} (h : Has base b d w) (hg : kd w g = 11) : Has base b d (w.setCell ⟨g, k, none⟩ x) := by
  obtain ⟨y, h⟩ := h
  cases hh : w.heap[g]? with
  | none => unfold kd at hg; rw [hh] at hg; cases hg
  | some o =>
    cases o with
    | cells cur t fz =>
      have ht : t + 2 = 11 := by rw [kd_cells hh] at hg; exact hg
      refine ⟨y, h.keep (T := fun n => n == 11) (bs := 0) (Ev.set hh (Nat.zero_le _) (by simp [ht]) x) (fun n hn => ?_)⟩
      unfold DT at hn
      simp only [Bool.or_eq_true, beq_iff_eq] at hn
      rcases hn with ((((rfl | rfl) | rfl) | rfl) | rfl) | rfl <;> rfl
    | map es c => rw [kd_map hh] at hg; cases hg
    | _ => unfold kd at hg; rw [hh] at hg; cases hg
structure R3 (base : Nat) (vn v9 v15 : Value) (n : Nat) (nm ss wh : List Bs) (W : World) : Prop where
  rn : W.ownsRow base 9 1 vn n (nm.map encStr)
  rs : W.ownsRow base 9 1 v9 n (ss.map encStr)
  rw : W.ownsRow base 9 1 v15 n (wh.map encStr)
  ns : ∀ g, vn.ownBlock = some g → v9.ownBlock ≠ some g
  nw : ∀ g, vn.ownBlock = some g → v15.ownBlock ≠ some g
  sw : ∀ g, v9.ownBlock = some g → v15.ownBlock ≠ some g
variable {base n : Nat} {vn v9 v15 : Value} {nm ss wh : List Bs} {W W' : World}
theorem R3.ev {T : Nat → Bool} {b0 : Nat} (hT : T 11 = false) (h : R3 base vn v9 v15 n nm ss wh W) (he : Ev T b0 W W') : R3 base vn v9 v15 n nm ss wh W' := ⟨row_ev hT h.rn he, row_ev hT h.rs he, row_ev hT h.rw he, h.ns, h.nw, h.sw⟩
theorem R3.below (h : R3 base vn v9 v15 n nm ss wh W) (hb : Below W.heap.size W W') : R3 base vn v9 v15 n nm ss wh W' := h.ev (T := fun _ => false) (b0 := 0) rfl (Ev.of_below hb)
theorem R3.setW {g cap k : Nat} (h : R3 base vn v9 (.slice (some ⟨g, 0, none⟩) n cap) n nm ss wh W) (hk : k < n) (u : Bs) : R3 base vn v9 (.slice (some ⟨g, 0, none⟩) n cap) n nm ss (wh.set k u) (W.setCell ⟨g, k, none⟩ (encStr u)) :=
  ⟨row_other h.rn (fun e => h.nw g e rfl), row_other h.rs (fun e => h.sw g e rfl), row_set h.rw hk u, h.ns, h.nw, h.sw⟩
theorem R3.setS {g cap k : Nat} (h : R3 base vn (.slice (some ⟨g, 0, none⟩) n cap) v15 n nm ss wh W) (hk : k < n) (u : Bs) : R3 base vn (.slice (some ⟨g, 0, none⟩) n cap) v15 n nm (ss.set k u) wh (W.setCell ⟨g, k, none⟩ (encStr u)) :=
  ⟨row_other h.rn (fun e => h.ns g e rfl), row_set h.rs hk u, row_other h.rw (fun e => h.sw g rfl e), h.ns, h.nw, h.sw⟩
theorem sr_of {v : Value} {l : List Bs} {n : Nat} (h : W.ownsRow base 9 1 v n (l.map encStr)) (hl : l.length = n) : SR W v l := by
  subst hl
  rcases h.2 with ⟨e, h0⟩ | ⟨g, cap, cur, e, _⟩
  · exact ⟨_, _, by rw [e, h0], Or.inl (List.length_eq_zero_iff.1 h0)⟩
  · subst e
    exact sr_row h
theorem row_lt {v : Value} {xs : List Value} {g : Nat} (h : W.ownsRow base 9 1 v n xs) (hg : v.ownBlock = some g) : g < W.heap.size ∧ base ≤ g := ⟨(row_kd h hg).2.1, (row_kd h hg).2.2⟩
theorem sr_one (w : World) (s : ByteArray) : SR (w.alloc (.cells #[.string s] 9)) (.slice (some ⟨w.heap.size, 0, none⟩) 1 1) [bs s] := by
  refine ⟨_, _, rfl, Or.inr ⟨w.heap.size, 0, rfl, fun k hk => ?_⟩⟩
  rw [Nat.zero_add, Lib.cell_of_heap (heap_alloc_new w _) k]
  match k, hk with
  | 0, _ => show some (Value.string s) = some (.string (mk (bs s))); rw [mk_bs]
theorem ot_below {w0 : World} {l : List Bs} {v : Value} (h : OT w0 l v W) (hb : Below W.heap.size W W') : OT w0 l v W' := ⟨row_ev (T := fun _ => false) (b0 := 0) rfl h.1 (Ev.of_below hb), h.2.trans (hb.mono h.2.size)⟩
end Go.Proofs.Ytilbffbmpgebmaa.LastsR
