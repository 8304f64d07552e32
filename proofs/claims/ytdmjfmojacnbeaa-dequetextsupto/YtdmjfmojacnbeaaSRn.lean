/- What a list of texts does, told in numbers; a round's world. -/
import Derived.Test.YtdmjfmojacnbeaaSDeed
import Derived.Test.YtdmjfmojacnbeaaPrint
namespace Go.Proofs.Ytdmjfmojacnbeaa.SRn
open Go.RowKit
open Go.Proofs.Ytdmjfmojacnbeaa.Base (Fr Gr ptr hid_of lt_of bel_drewN cell_lt)
open Go.Proofs.Ytdmjfmojacnbeaa.TextMath (InI)
open Go.Proofs.Ytdmjfmojacnbeaa.STexts (prt texts_call sameT_call)
open Go.Proofs.Ytdmjfmojacnbeaa.DoA (box insD)
open Go.Proofs.Ytdmjfmojacnbeaa.STx
open Go.Proofs.Ytdmjfmojacnbeaa.SDeed
set_option linter.unusedVariables false
section
variable {F : Nat → Prop} {b : Nat} {l : List Int} {w : World}
theorem t_popFront (h : SBase.DQ F b (l.map prt) w) (x : Int) (hb : l.length ≤ 8388608) :
    Calls Try.prog 23 #[ptr b, .int .i64 x] w fun e w' => ∃ v, e = .returned v ∧ SBase.NR w.heap.size w' v ((l.take (Keep.clamp x l.length)).map prt) ∧ SBase.DQ (Gr F w) b ((l.drop (Keep.clamp x l.length)).map prt) w' ∧ Fr F w w' := by
  have := SPop.popFront_call h x (by rw [List.length_map]; omega)
  rw [List.length_map, ← List.map_take, ← List.map_drop] at this
  exact this
theorem t_popBack (h : SBase.DQ F b (l.map prt) w) (x : Int) (hb : l.length ≤ 8388608) :
    Calls Try.prog 25 #[ptr b, .int .i64 x] w fun e w' => ∃ v, e = .returned v ∧ SBase.NR w.heap.size w' v ((l.drop (l.length - Keep.clamp x l.length)).reverse.map prt) ∧ SBase.DQ (Gr F w) b ((l.take (l.length - Keep.clamp x l.length)).map prt) w' ∧ Fr F w w' := by
  have := SPop.popBack_call h x (by rw [List.length_map]; omega)
  rw [List.length_map, ← List.map_take, ← List.map_drop, ← List.map_reverse] at this
  exact this
theorem t_remove (h : SBase.DQ F b (l.map prt) w) (hl : ∀ x ∈ l, InI x) (c : Int) {v : Int} (hv : InI v) (hb : l.length ≤ 8388608) :
    Calls Try.prog 27 #[ptr b, .int .i64 c, .string (prt v)] w fun e w' => e = .returned (.int .i64 ((Remove.remP l c v).length : Int)) ∧ SBase.DQ (Gr F w) b ((DropC.dropS l 0 (Remove.remP l c v)).map prt) w' ∧ Fr F w w' := by
  have := SRemove.remove_call h c (prt v) (by rw [List.length_map]; omega)
  rw [STMath2.remP_map hl hv, STMath2.drop_map] at this
  exact this
theorem t_insert_no (h : SBase.DQ F b (l.map prt) w) (hl : ∀ x ∈ l, InI x) (bf : Bool) {p : Int} (v : Int) (hp : InI p) (hb : l.length ≤ 8388608) (hf : FindMath.findN l p 1 false 1 l.length = []) :
    Calls Try.prog 30 #[ptr b, .bool bf, .string (prt p), .string (prt v)] w fun e w' => e = .returned (.int .i64 (-1)) ∧ Below w.heap.size w w' :=
  (SInsert.insert_no h bf (prt p) (prt v) (by rw [List.length_map]; omega) (by rw [List.length_map, STMath.findN_map hl hp]; exact hf)).mono fun e w' ⟨h1, _, h2⟩ => ⟨h1, h2⟩
theorem t_insert_yes (h : SBase.DQ F b (l.map prt) w) (hl : ∀ x ∈ l, InI x) (bf : Bool) {p : Int} (v : Int) (k : Nat) (hp : InI p) (hb : l.length ≤ 8388608) (hf : FindMath.findN l p 1 false 1 l.length = [k]) (hk : k < l.length) :
    Calls Try.prog 30 #[ptr b, .bool bf, .string (prt p), .string (prt v)] w fun e w' => e = .returned (.int .i64 ((l.length + 1 : Nat) : Int)) ∧ SBase.DQ (Gr F w) b ((Insert.insS l (if bf then k else k + 1) v).map prt) w' ∧ Fr F w w' := by
  have := SInsert.insert_yes h bf (prt p) (prt v) k (by rw [List.length_map]; omega) (by rw [List.length_map]; omega) (by rw [List.length_map, STMath.findN_map hl hp]; exact hf) (by rw [List.length_map]; exact hk)
  rw [List.length_map, STMath2.ins_map] at this
  exact this
theorem t_slice (h : SBase.DQ F b (l.map prt) w) (x y : Int) (hx : InI x) (hy : InI y) (hb : l.length ≤ 8388608) :
    Calls Try.prog 33 #[ptr b, .int .i64 x, .int .i64 y] w fun e w' => ∃ v, e = .returned v ∧ SBase.NR w.heap.size w' v ((Piece.pieceS l x y).map prt) ∧ Below w.heap.size w w' := by
  have := SPiece.slice_call h x y hx.1 hy.1 hx.2 hy.2 (by rw [List.length_map]; omega)
  rw [STMath2.piece_map] at this
  exact this
end
/-- a round's world: the two lists, the deed's box at X, its list -/
structure Rn (F : Nat → Prop) (B b X : Nat) (l : List Int) (u : Value) (K A Bq C : Int) (m : List Int) (la : Option Addr) (lc : Nat) (bf : Bool) (w0 w : World) : Prop where
  tx : Tx F B b l u w0 w
  bx : w.heap[X]? = some (.cells (box K A Bq C (.slice la m.length lc) bf) 30 (0, 0))
  low : ∀ k, F k → k < X
  sm : Base.SL (fun k => k < B) w (.slice la m.length lc) m
section
variable {F : Nat → Prop} {B b X : Nat} {l : List Int} {u : Value} {K A Bq C : Int} {m : List Int} {la : Option Addr} {lc : Nat} {bf : Bool} {w0 w w' : World}
theorem Rn.start (h : Tx F B b l u w0 w) (hm : Base.SL (fun k => k < B) w (.slice la m.length lc) m) :
    Rn F B b w.heap.size l u K A Bq C m la lc bf w0 (w.alloc (.cells (box K A Bq C (.slice la m.length lc) bf) 30)) :=
  have k := (Below.refl w.heap.size w).alloc (Nat.le_refl _) (.cells (box K A Bq C (.slice la m.length lc) bf) 30)
  ⟨h.read k, heap_alloc_new w _, fun k e => (h.ow k e).2, hm.below k⟩
theorem Rn.read (h : Rn F B b X l u K A Bq C m la lc bf w0 w) (k : Below w.heap.size w w') : Rn F B b X l u K A Bq C m la lc bf w0 w' :=
  ⟨h.tx.read k, (k.block _ (lt_of h.bx)).trans h.bx, h.low, h.sm.below k⟩
theorem Rn.drewN (h : Rn F B b X l u K A Bq C m la lc bf w0 w) (n : Nat) : Rn F B b X l u K A Bq C m la lc bf w0 (w.drewN n) := h.read (bel_drewN w n)
theorem Rn.box (h : Rn F B b X l u K A Bq C m la lc bf w0 w) (f : Fr F w w') : w'.heap[X]? = some (.cells (DoA.box K A Bq C (.slice la m.length lc) bf) 30 (0, 0)) :=
  (f.block X (lt_of h.bx) fun e => Nat.lt_irrefl _ (h.low X e)).trans h.bx
theorem Rn.list (h : Rn F B b X l u K A Bq C m la lc bf w0 w) (f : Fr F w w') : Base.SL (fun k => k < B) w' (.slice la m.length lc) m :=
  h.sm.keep fun k hk e => f.block k hk fun c => by have := (h.tx.ow k c).1; omega
theorem Rn.c1 (h : w.heap[X]? = some (.cells (DoA.box K A Bq C (.slice la m.length lc) bf) 30 (0, 0))) : w.cell? ⟨X, 1, none⟩ = some (.slice la m.length lc) := Lib.cell_of_heap h 1
theorem Rn.c2 (h : w.heap[X]? = some (.cells (DoA.box K A Bq C (.slice la m.length lc) bf) 30 (0, 0))) : w.cell? ⟨X, 2, none⟩ = some (.int .i64 A) := Lib.cell_of_heap h 2
theorem Rn.c3 (h : w.heap[X]? = some (.cells (DoA.box K A Bq C (.slice la m.length lc) bf) 30 (0, 0))) : w.cell? ⟨X, 3, none⟩ = some (.int .i64 Bq) := Lib.cell_of_heap h 3
theorem Rn.c5 (h : w.heap[X]? = some (.cells (DoA.box K A Bq C (.slice la m.length lc) bf) 30 (0, 0))) : w.cell? ⟨X, 5, none⟩ = some (.bool bf) := Lib.cell_of_heap h 5
/-- texts made behind the own blocks -/
theorem Rn.far (h : Rn F B b X l u K A Bq C m la lc bf w0 w) {v : Value} {t : List ByteArray} (n : SBase.NR w.heap.size w' v t) : SBase.SL (fun k => ¬ F k) w' v t := n.sl.mono fun k _ e c => by have := (h.tx.ow k c).2; omega
/-- what a call that only reads keeps of the box -/
theorem Rn.cells (h : Rn F B b X l u K A Bq C m la lc bf w0 w) : w.cell? ⟨X, 2, none⟩ = some (.int .i64 A) ∧ w.cell? ⟨X, 3, none⟩ = some (.int .i64 Bq) ∧ w.cell? ⟨X, 5, none⟩ = some (.bool bf) := ⟨Rn.c2 h.bx, Rn.c3 h.bx, Rn.c5 h.bx⟩
theorem Rn.turned (h : Rn F B b X l u K A Bq C m la lc bf w0 w) (f : Fr F w w') : w'.cell? ⟨X, 2, none⟩ = some (.int .i64 A) ∧ w'.cell? ⟨X, 3, none⟩ = some (.int .i64 Bq) ∧ w'.cell? ⟨X, 5, none⟩ = some (.bool bf) := ⟨Rn.c2 (h.box f), Rn.c3 (h.box f), Rn.c5 (h.box f)⟩
theorem Rn.sz (h : Rn F B b X l u K A Bq C m la lc bf w0 w) : X ≤ w.heap.size := Nat.le_of_lt (lt_of h.bx)
theorem g24 (h : Rn F B b X l u K A Bq C m la lc bf w0 w) {G : Nat → Prop} {t : Value} {lt : List Int} (s : Base.SL G w t lt) (hb : lt.length ≤ 8388608) :
    Calls Try.prog 24 #[t] w fun e w' => ∃ r, e = .returned r ∧ Hid (Base.NR X w' r lt.reverse ∧ Below w.heap.size w w' ∧ Rn F B b X l u K A Bq C m la lc bf w0 w') ∧ w'.cell? ⟨X, 2, none⟩ = some (.int .i64 A) ∧ w'.cell? ⟨X, 3, none⟩ = some (.int .i64 Bq) ∧ w'.cell? ⟨X, 5, none⟩ = some (.bool bf) :=
  (Same.turned_call s (by omega)).mono fun e w' ⟨r, h1, h2, h3⟩ => ⟨r, h1, ⟨h2.mono h.sz, h3, h.read h3⟩, (h.read h3).cells⟩
theorem g21 (h : Rn F B b X l u K A Bq C m la lc bf w0 w) {G : Nat → Prop} {t : Value} {lt : List Int} (s : Base.SL G w t lt) (y : Int) (hb : lt.length ≤ 8388608) :
    Calls Try.prog 21 #[t, .int .i64 y] w fun e w' => ∃ r q, e = .returned (.tuple #[r, q]) ∧ Hid (Base.NR X w' r (lt.take (Keep.clamp y lt.length)) ∧ Base.NR X w' q (lt.drop (Keep.clamp y lt.length)) ∧ Rn F B b X l u K A Bq C m la lc bf w0 w') ∧ w'.cell? ⟨X, 2, none⟩ = some (.int .i64 A) ∧ w'.cell? ⟨X, 3, none⟩ = some (.int .i64 Bq) ∧ w'.cell? ⟨X, 5, none⟩ = some (.bool bf) :=
  (Ref.rpop_call s y (by omega)).mono fun e w' ⟨r, q, h1, h2, h3, h4⟩ => ⟨r, q, h1, ⟨h2.mono h.sz, h3.mono h.sz, h.read h4⟩, (h.read h4).cells⟩
theorem g28 (h : Rn F B b X l u K A Bq C m la lc bf w0 w) {n : Int} (hn : InI n) :
    Calls Try.prog 28 #[.int .i64 n] w fun e w' => e = .returned (.string (prt n)) ∧ Hid (Below w.heap.size w w' ∧ Rn F B b X l u K A Bq C m la lc bf w0 w') ∧ w'.cell? ⟨X, 2, none⟩ = some (.int .i64 A) ∧ w'.cell? ⟨X, 3, none⟩ = some (.int .i64 Bq) ∧ w'.cell? ⟨X, 5, none⟩ = some (.bool bf) :=
  (Print.rprint_any n w hn).mono fun e w' ⟨h1, h2⟩ => ⟨h1, ⟨h2, h.read h2⟩, (h.read h2).cells⟩
theorem g27 (h : Rn F B b X l u K A Bq C m la lc bf w0 w) (c : Int) {v : Int} (hv : InI v) (hb : l.length ≤ 8388608) {t : Nat} (ht : t = (Remove.remP l c v).length) :
    Calls Try.prog 27 #[ptr b, .int .i64 c, .string (prt v)] w fun e w' => e = .returned (.int .i64 (t : Int)) ∧ Hid (SBase.DQ (Gr F w) b ((DropC.dropS l 0 (Remove.remP l c v)).map prt) w' ∧ Fr F w w' ∧ Rn F B b X l u K A Bq C m la lc bf w0 w) ∧ w'.cell? ⟨X, 2, none⟩ = some (.int .i64 A) ∧ w'.cell? ⟨X, 3, none⟩ = some (.int .i64 Bq) ∧ w'.cell? ⟨X, 5, none⟩ = some (.bool bf) :=
  (t_remove h.tx.dq h.tx.ins c hv hb).mono fun e w' ⟨h1, h2, h3⟩ => ⟨by rw [ht]; exact h1, ⟨h2, h3, h⟩, h.turned h3⟩
theorem g30no (h : Rn F B b X l u K A Bq C m la lc bf w0 w) (f : Bool) {p : Int} (v : Int) (hp : InI p) (hb : l.length ≤ 8388608) (hf : FindMath.findN l p 1 false 1 l.length = []) :
    Calls Try.prog 30 #[ptr b, .bool f, .string (prt p), .string (prt v)] w fun e w' => e = .returned (.int .i64 (-1)) ∧ Hid (Rn F B b X l u K A Bq C m la lc bf w0 w') ∧ w'.cell? ⟨X, 2, none⟩ = some (.int .i64 A) ∧ w'.cell? ⟨X, 3, none⟩ = some (.int .i64 Bq) ∧ w'.cell? ⟨X, 5, none⟩ = some (.bool bf) :=
  (t_insert_no h.tx.dq h.tx.ins f v hp hb hf).mono fun e w' ⟨h1, h2⟩ => ⟨h1, h.read h2, (h.read h2).cells⟩
theorem g30yes (h : Rn F B b X l u K A Bq C m la lc bf w0 w) (f : Bool) {p : Int} (v : Int) (k : Nat) (hp : InI p) (hb : l.length ≤ 8388608) (hf : FindMath.findN l p 1 false 1 l.length = [k]) (hk : k < l.length) {t : Nat} (ht : t = l.length + 1) :
    Calls Try.prog 30 #[ptr b, .bool f, .string (prt p), .string (prt v)] w fun e w' => e = .returned (.int .i64 (t : Int)) ∧ Hid (SBase.DQ (Gr F w) b ((Insert.insS l (if f then k else k + 1) v).map prt) w' ∧ Fr F w w' ∧ Rn F B b X l u K A Bq C m la lc bf w0 w) ∧ w'.cell? ⟨X, 2, none⟩ = some (.int .i64 A) ∧ w'.cell? ⟨X, 3, none⟩ = some (.int .i64 Bq) ∧ w'.cell? ⟨X, 5, none⟩ = some (.bool bf) :=
  (t_insert_yes h.tx.dq h.tx.ins f v k hp hb hf hk).mono fun e w' ⟨h1, h2, h3⟩ => ⟨by rw [ht]; exact h1, ⟨h2, h3, h⟩, h.turned h3⟩
theorem g33 (h : Rn F B b X l u K A Bq C m la lc bf w0 w) (x y : Int) (hx : InI x) (hy : InI y) (hb : l.length ≤ 8388608) :
    Calls Try.prog 33 #[ptr b, .int .i64 x, .int .i64 y] w fun e w' => ∃ v, e = .returned v ∧ Hid (SBase.NR X w' v ((Piece.pieceS l x y).map prt) ∧ Below w.heap.size w w' ∧ Rn F B b X l u K A Bq C m la lc bf w0 w') ∧ w'.cell? ⟨X, 2, none⟩ = some (.int .i64 A) ∧ w'.cell? ⟨X, 3, none⟩ = some (.int .i64 Bq) ∧ w'.cell? ⟨X, 5, none⟩ = some (.bool bf) :=
  (t_slice h.tx.dq x y hx hy hb).mono fun e w' ⟨r, h1, h2, h3⟩ => ⟨r, h1, ⟨h2.mono h.sz, h3, h.read h3⟩, (h.read h3).cells⟩
theorem g34 (h : Rn F B b X l u K A Bq C m la lc bf w0 w) (x y : Int) (hx : InI x) (hy : InI y) (hb : l.length ≤ 8388608) :
    Calls Try.prog 34 #[u, .int .i64 x, .int .i64 y] w fun e w' => ∃ r, e = .returned r ∧ Hid (Base.NR X w' r (Piece.pieceS l x y) ∧ Below w.heap.size w w' ∧ Rn F B b X l u K A Bq C m la lc bf w0 w') ∧ w'.cell? ⟨X, 2, none⟩ = some (.int .i64 A) ∧ w'.cell? ⟨X, 3, none⟩ = some (.int .i64 Bq) ∧ w'.cell? ⟨X, 5, none⟩ = some (.bool bf) :=
  (RefB.rpiece_call h.tx.sl x y hx.1 hy.1 hx.2 hy.2 (by omega)).mono fun e w' ⟨r, h1, h2, h3⟩ => ⟨r, h1, ⟨h2.mono h.sz, h3, h.read h3⟩, (h.read h3).cells⟩
theorem g16 (h : Rn F B b X l u K A Bq C m la lc bf w0 w) {G : Nat → Prop} {t : Value} {lt : List Int} (s : Base.SL G w t lt) (hI : ∀ x ∈ lt, InI x) (hb : lt.length ≤ 8388608) :
    Calls Try.prog 16 #[t] w fun e w' => ∃ r, e = .returned r ∧ Hid (SBase.NR X w' r (lt.map prt) ∧ Below w.heap.size w w' ∧ Rn F B b X l u K A Bq C m la lc bf w0 w') ∧ w'.cell? ⟨X, 2, none⟩ = some (.int .i64 A) ∧ w'.cell? ⟨X, 3, none⟩ = some (.int .i64 Bq) ∧ w'.cell? ⟨X, 5, none⟩ = some (.bool bf) :=
  (texts_call s hI (by omega)).mono fun e w' ⟨r, h1, h2, h3⟩ => ⟨r, h1, ⟨h2.mono h.sz, h3, h.read h3⟩, (h.read h3).cells⟩
theorem g22 (h : Rn F B b X l u K A Bq C m la lc bf w0 w) {p q : Value} {lt : List ByteArray} (s : SBase.NR X w p lt) (s' : SBase.NR X w q lt) (hb : lt.length ≤ 8388608) :
    Calls Try.prog 22 #[p, q] w fun e w' => e = .returned (.bool true) ∧ Hid (Rn F B b X l u K A Bq C m la lc bf w0 w') ∧ w'.cell? ⟨X, 2, none⟩ = some (.int .i64 A) ∧ w'.cell? ⟨X, 3, none⟩ = some (.int .i64 Bq) ∧ w'.cell? ⟨X, 5, none⟩ = some (.bool bf) :=
  (sameT_call s.sl s'.sl rfl (by omega)).mono fun e w' ⟨h1, j, h2⟩ => ⟨h1, by rw [h2]; exact h.drewN j, by rw [h2]; exact (h.drewN j).cells⟩
theorem piece_len (l : List Int) (x y : Int) : (Piece.pieceS l x y).length ≤ l.length := by unfold Piece.pieceS; simp; omega
theorem at_none {l : List Int} {i : Int} (h : (Place.atS l i).2 = false) : (Place.atS l i).1 = 0 := by
  unfold Place.atS at *
  split at h
  · cases h
  · rfl
theorem at_in {l : List Int} (hl : ∀ x ∈ l, InI x) (i : Int) : InI (Place.atS l i).1 := by
  unfold Place.atS
  split
  · rename_i k e
    have hk := Place.idx_lt e
    simp only [List.getElem?_eq_getElem hk, Option.getD_some]
    exact hl _ (List.getElem_mem hk)
  · exact ⟨by decide, by decide⟩
theorem g31 (h : Rn F B b X l u K A Bq C m la lc bf w0 w) (i : Int) (hi : InI i) {x : Int} {t : Bool} (hx : x = (Place.atS l i).1) (ht : t = (Place.atS l i).2) :
    Calls Try.prog 31 #[ptr b, .int .i64 i] w fun e w' => e = .returned (.tuple #[.string (if t then prt x else ⟨#[]⟩), .bool t]) ∧ Below w.heap.size w w' := by
  have := SPlace.at_call h.tx.dq i hi.1
  rw [STMath2.at_map, ← hx, ← ht] at this
  refine this.mono fun e w' ⟨h1, h2⟩ => ⟨?_, h2⟩
  rw [h1]
  cases t <;> rfl
end
end Go.Proofs.Ytdmjfmojacnbeaa.SRn
