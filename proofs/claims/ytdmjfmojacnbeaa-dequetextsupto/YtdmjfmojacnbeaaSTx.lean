/- The program's list of texts beside the document's list of numbers. -/
import Derived.Test.YtdmjfmojacnbeaaSTMath2
namespace Go.Proofs.Ytdmjfmojacnbeaa.STx
open Go.RowKit
open Go.Proofs.Ytdmjfmojacnbeaa.Base (Fr Gr ptr hid_of lt_of bel_drewN)
open Go.Proofs.Ytdmjfmojacnbeaa.TextMath (InI)
open Go.Proofs.Ytdmjfmojacnbeaa.STexts (prt)
set_option linter.unusedVariables false
/-- the program's list at b holds the texts of l, the document's at u is l; nothing below B has turned since w0 -/
structure Tx (F : Nat → Prop) (B b : Nat) (l : List Int) (u : Value) (w0 w : World) : Prop where
  dq : SBase.DQ F b (l.map prt) w
  sl : Base.SL (fun k => ¬ F k) w u l
  ins : ∀ x ∈ l, InI x
  ow : ∀ k, F k → B ≤ k ∧ k < w.heap.size
  bl : Below B w0 w
  sz : B ≤ w.heap.size
theorem Tx.read {F : Nat → Prop} {B b : Nat} {l : List Int} {u : Value} {w0 w w' : World} (h : Tx F B b l u w0 w) (k : Below w.heap.size w w') : Tx F B b l u w0 w' :=
  ⟨h.dq.below k, h.sl.below k, h.ins, fun j hj => ⟨(h.ow j hj).1, Nat.lt_of_lt_of_le (h.ow j hj).2 k.size⟩, h.bl.trans (k.mono h.sz), Nat.le_trans h.sz k.size⟩
theorem Tx.drewN {F : Nat → Prop} {B b : Nat} {l : List Int} {u : Value} {w0 w : World} (h : Tx F B b l u w0 w) (m : Nat) : Tx F B b l u w0 (w.drewN m) := h.read (bel_drewN w m)
/-- behind a call that turns the program's list, where the document's next one was there -/
theorem Tx.next {F : Nat → Prop} {B b : Nat} {l l' : List Int} {u r : Value} {w0 w w' : World} (h : Tx F B b l u w0 w) (q : SBase.DQ (Gr F w) b (l'.map prt) w') (f : Fr F w w') (s : Base.SL (fun k => ¬ Gr F w k) w' r l') (hi : ∀ x ∈ l', InI x) : ∃ F', Tx F' B b l' r w0 w' :=
  ⟨fun k => Gr F w k ∧ k < w'.heap.size, q.low, s.mono fun k _ e c => e c.1, hi, fun k e => ⟨by
    rcases e.1 with e1 | e1
    · exact (h.ow k e1).1
    · exact Nat.le_trans h.sz e1, e.2⟩, h.bl.trans (f.below h.sz fun k e => (h.ow k e).1), Nat.le_trans h.sz f.size⟩
/-- behind such a call, where the document's next one is made behind it -/
theorem Tx.next2 {F : Nat → Prop} {B b : Nat} {l l' : List Int} {u r : Value} {w0 w w3 w4 : World} (h : Tx F B b l u w0 w) (q : SBase.DQ (Gr F w) b (l'.map prt) w3) (f : Fr F w w3) (k : Below w3.heap.size w3 w4) (n : Base.SL (fun k => w3.heap.size ≤ k) w4 r l') (hi : ∀ x ∈ l', InI x) : ∃ F', Tx F' B b l' r w0 w4 :=
  ⟨fun j => Gr F w j ∧ j < w3.heap.size, (q.low).below k, n.mono fun j _ e c => by have := c.2; omega, hi, fun j e => ⟨by
    rcases e.1 with e1 | e1
    · exact (h.ow j e1).1
    · exact Nat.le_trans h.sz e1, Nat.lt_of_lt_of_le e.2 k.size⟩, (h.bl.trans (f.below h.sz fun j e => (h.ow j e).1)).trans (k.mono (Nat.le_trans h.sz f.size)), Nat.le_trans h.sz (Nat.le_trans f.size k.size)⟩
/-- what is left of a list, or joined of two, is within bounds -/
theorem ins_app {l m : List Int} (hl : ∀ x ∈ l, InI x) (hm : ∀ x ∈ m, InI x) : ∀ x ∈ l ++ m, InI x := fun x h => by
  rcases List.mem_append.1 h with h | h
  · exact hl x h
  · exact hm x h
theorem ins_rev {l : List Int} (hl : ∀ x ∈ l, InI x) : ∀ x ∈ l.reverse, InI x := fun x h => hl x (List.mem_reverse.1 h)
theorem ins_take {l : List Int} (hl : ∀ x ∈ l, InI x) (k : Nat) : ∀ x ∈ l.take k, InI x := fun x h => hl x (List.mem_of_mem_take h)
theorem ins_drop {l : List Int} (hl : ∀ x ∈ l, InI x) (k : Nat) : ∀ x ∈ l.drop k, InI x := fun x h => hl x (List.mem_of_mem_drop h)
theorem ins_piece {l : List Int} (hl : ∀ x ∈ l, InI x) (x y : Int) : ∀ z ∈ Piece.pieceS l x y, InI z := by
  unfold Piece.pieceS
  exact ins_take (ins_drop hl _) _
theorem ins_dropS {l : List Int} (hl : ∀ x ∈ l, InI x) (i : Nat) (ps : List Nat) : ∀ z ∈ DropC.dropS l i ps, InI z := by
  induction l generalizing i ps with
  | nil => intro z h; cases ps <;> cases h
  | cons x r ih =>
    have hr : ∀ z ∈ r, InI z := fun z h => hl z (List.mem_cons_of_mem _ h)
    have hx := hl x List.mem_cons_self
    intro z h
    cases ps with
    | nil =>
      rw [DropC.dropS] at h
      rcases List.mem_cons.1 h with rfl | h
      · exact hx
      · exact ih hr _ _ z h
    | cons p ps =>
      rw [DropC.dropS] at h
      split at h
      · exact ih hr _ _ z h
      · rcases List.mem_cons.1 h with rfl | h
        · exact hx
        · exact ih hr _ _ z h
theorem ins_insS {l : List Int} (hl : ∀ x ∈ l, InI x) (k : Nat) {v : Int} (hv : InI v) : ∀ z ∈ Insert.insS l k v, InI z := by
  unfold Insert.insS
  refine ins_app (ins_take hl k) fun z h => ?_
  rcases List.mem_cons.1 h with rfl | h
  · exact hv
  · exact ins_drop hl k z h
end Go.Proofs.Ytdmjfmojacnbeaa.STx
