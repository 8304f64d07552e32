/- The document's own way to match, in plain terms: the places that can be come to; and rows of bools in memory. -/
import Derived.Test.YtaglcpjjekaohaaMath
import Derived.OwnWalk
import Derived.Deep.Draws
namespace Go.Proofs.Ytaglcpjjekaohaa.RefMath
open Go.RowKit
open Go.Proofs.Ytaglcpjjekaohaa.Math
set_option linter.unusedVariables false

/-! ### rows of bools -/
def gt (xs : List Bool) (j : Nat) : Bool := xs.getD j false
theorem gt_set (xs : List Bool) (i j : Nat) (b : Bool) (h : i < xs.length) : gt (xs.set i b) j = if j = i then b else gt xs j := by
  unfold gt
  rw [List.getD_eq_getElem?_getD, List.getD_eq_getElem?_getD, List.getElem?_set]
  by_cases e : i = j
  · subst e; simp [h]
  · rw [if_neg e, if_neg (fun x => e x.symm)]
theorem gt_some (xs : List Bool) (j : Nat) (h : j < xs.length) : xs[j]? = some (gt xs j) := by
  unfold gt; rw [List.getD_eq_getElem?_getD, List.getElem?_eq_getElem h]; rfl

def Row (w : World) (B : Nat) (xs : List Bool) : Prop := w.heap[B]? = some (.cells (xs.map Value.bool).toArray 4 (0, 0))
theorem Row.cell {w : World} {B : Nat} {xs : List Bool} (h : Row w B xs) (j : Nat) (hj : j < xs.length) : w.cell? ⟨B, j, none⟩ = some (.bool (gt xs j)) := by
  rw [cell_of_row w B j _ _ _ h, List.getElem?_toArray, List.getElem?_map, gt_some xs j hj]; rfl
theorem Row.frozen {w : World} {B : Nat} {xs : List Bool} (h : Row w B xs) (j : Nat) : w.frozen? ⟨B, j, none⟩ = false := frozen_of_row w B j _ _ h
theorem Row.put {w : World} {B : Nat} {xs : List Bool} (h : Row w B xs) (j : Nat) (b : Bool) : Row (w.setCell ⟨B, j, none⟩ (.bool b)) B (xs.set j b) := by
  unfold Row
  rw [heap_setCell_same w B j _ _ _ h, List.map_set, List.setIfInBounds_toArray]
theorem Row.other {w : World} {B C : Nat} {xs : List Bool} (h : Row w B xs) (hne : B ≠ C) (j : Nat) (v : Value) : Row (w.setCell ⟨C, j, none⟩ v) B xs := by
  unfold Row
  rw [heap_setCell_other w ⟨C, j, none⟩ B v hne]; exact h
theorem Row.lt {w : World} {B : Nat} {xs : List Bool} (h : Row w B xs) : B < w.heap.size := (Array.getElem?_eq_some_iff.1 h).1
theorem Row.drewN {w : World} {B : Nat} {xs : List Bool} (h : Row w B xs) (m : Nat) : Row (w.drewN m) B xs := h
theorem Row.kept {w w' : World} {B : Nat} {xs : List Bool} {row : Option Nat} (h : Row w B xs) (hg : w.grownBy w' row) (hne : some B ≠ row) : Row w' B xs := (hg.block B h.lt hne).trans h
theorem row_of_own {w w' : World} {base n : Nat} (h : w'.ownsRow base 4 1 (.slice (some ⟨w.heap.size, 0, none⟩) n n) n (madeCells #[Value.bool false] n).toList) : Row w' w.heap.size (List.replicate n false) := by
  rcases h.2 with ⟨e, _⟩ | ⟨g, cap, cur, e, _, hb, _, _, hs, ht⟩
  · cases e
  · cases e
    unfold Row
    rw [hb]
    have h1 : cur.toList = (madeCells #[Value.bool false] n).toList := by rw [← ht, List.take_of_length_le (by simp; omega)]
    have h2 : (madeCells #[Value.bool false] n).toList = List.replicate n (Value.bool false) := toList_madeCells_one _ n
    have h3 : cur = (List.map Value.bool (List.replicate n false)).toArray := by
      apply Array.toList_inj.1
      rw [h1, List.map_replicate]
      exact h2
    rw [h3]
theorem gt_replicate (n j : Nat) : gt (List.replicate n false) j = false := by
  unfold gt; rw [List.getD_eq_getElem?_getD, List.getElem?_replicate]; split <;> rfl
/-- Nothing but the block B turns. -/
theorem kept_set (w : World) (B j : Nat) (v : Value) : w.grownBy (w.setCell ⟨B, j, none⟩ v) (some B) :=
  ⟨rfl, rfl, rfl, by simp, fun k _ hne => heap_setCell_other w ⟨B, j, none⟩ k v (fun e => hne (by rw [e]))⟩
theorem kept_trans {a b c : World} {row : Option Nat} (h : a.grownBy b row) (k : b.grownBy c row) : a.grownBy c row :=
  ⟨k.os.trans h.os, k.tape.trans h.tape, k.output.trans h.output, Nat.le_trans h.size k.size, fun j hj hne => (k.block j (Nat.lt_of_lt_of_le hj h.size) hne).trans (h.block j hj hne)⟩
theorem kept_drewN (w : World) (n : Nat) (row : Option Nat) : w.grownBy (w.drewN n) row := ⟨rfl, rfl, rfl, Nat.le_refl _, fun _ _ _ => rfl⟩
theorem below_drewN {B : Nat} {a w : World} (h : Below B a w) (n : Nat) : Below B a (w.drewN n) := h.trans ⟨rfl, rfl, rfl, Nat.le_refl _, fun _ _ => rfl⟩

/-! ### places -/
def star (p : ByteArray) (i : Nat) : Bool := if h : i < p.size then p[i].toNat == 42 else false
theorem star_iff {p : ByteArray} {i : Nat} (h : i < p.size) : star p i = true ↔ p[i].toNat = 42 := by unfold star; rw [dif_pos h]; simp
def Past (p : ByteArray) (xs ys : List Bool) : Prop :=
  ys.length = p.size + 1 ∧ gt ys 0 = gt xs 0 ∧ ∀ j, j < p.size → gt ys (j + 1) = (gt xs (j + 1) || (gt ys j && star p j))
/-- .. as far as place i. -/
def PastTo (p : ByteArray) (xs ys : List Bool) (i : Nat) : Prop :=
  ys.length = p.size + 1 ∧ gt ys 0 = gt xs 0 ∧ (∀ j, j < i → gt ys (j + 1) = (gt xs (j + 1) || (gt ys j && star p j))) ∧ ∀ j, i < j → gt ys j = gt xs j
theorem past_zero {p : ByteArray} {xs : List Bool} (h : xs.length = p.size + 1) : PastTo p xs xs 0 := ⟨h, rfl, fun j hj => by omega, fun _ _ => rfl⟩
theorem past_end {p : ByteArray} {xs ys : List Bool} {i : Nat} (h : PastTo p xs ys i) (hi : p.size ≤ i) : Past p xs ys := ⟨h.1, h.2.1, fun j hj => h.2.2.1 j (by omega)⟩
theorem past_same {p : ByteArray} {xs ys : List Bool} {i : Nat} (h : PastTo p xs ys i) (hq : (gt ys i && star p i) = false) : PastTo p xs ys (i + 1) := by
  refine ⟨h.1, h.2.1, fun j hj => ?_, fun j hj => h.2.2.2 j (by omega)⟩
  by_cases e : j = i
  · subst e; rw [h.2.2.2 (j + 1) (by omega), hq, Bool.or_false]
  · exact h.2.2.1 j (by omega)
theorem past_put {p : ByteArray} {xs ys : List Bool} {i : Nat} (hi : i < p.size) (h : PastTo p xs ys i) (hq : (gt ys i && star p i) = true) : PastTo p xs (ys.set (i + 1) true) (i + 1) := by
  have hl : i + 1 < ys.length := by rw [h.1]; omega
  refine ⟨by rw [List.length_set]; exact h.1, by rw [gt_set _ _ _ _ hl, if_neg (by omega)]; exact h.2.1, fun j hj => ?_, fun j hj => by rw [gt_set _ _ _ _ hl, if_neg (by omega)]; exact h.2.2.2 j (by omega)⟩
  rw [gt_set _ _ _ _ hl, gt_set _ _ _ _ hl, if_neg (show j ≠ i + 1 by omega)]
  by_cases e : j = i
  · subst e; rw [if_pos rfl, hq, Bool.or_true]
  · rw [if_neg (by omega)]; exact h.2.2.1 j (by omega)

/-- One of the places xs goes on from k to the text's end. -/
def Some1 (p s : ByteArray) (xs : List Bool) (k : Nat) : Prop := ∃ i, i ≤ p.size ∧ gt xs i = true ∧ MM p s i k = true
def Closed (p : ByteArray) (xs : List Bool) : Prop := ∀ i, i < p.size → gt xs i = true → star p i = true → gt xs (i + 1) = true
theorem past_closed {p : ByteArray} {xs ys : List Bool} (h : Past p xs ys) : Closed p ys := by
  intro i hi h1 h2
  rw [h.2.2 i hi, h1, h2]; simp
theorem star_back {p s : ByteArray} {i k : Nat} (hi : i < p.size) (hs : star p i = true) (h : MM p s (i + 1) k = true) : MM p s i k = true := by
  have e := (star_iff hi).1 hs
  by_cases hk : k < s.size
  · rw [MM_star hi e hk, h, Bool.true_or]
  · rw [MM_star_end hi e (by omega), h]
theorem past_some {p s : ByteArray} {xs ys : List Bool} {k : Nat} (h : Past p xs ys) : Some1 p s xs k ↔ Some1 p s ys k := by
  constructor
  · rintro ⟨i, h1, h2, h3⟩
    refine ⟨i, h1, ?_, h3⟩
    cases i with
    | zero => rw [h.2.1]; exact h2
    | succ j => rw [h.2.2 j (by omega), h2, Bool.true_or]
  · rintro ⟨i, h1, h2, h3⟩
    induction i with
    | zero => exact ⟨0, h1, by rw [← h.2.1]; exact h2, h3⟩
    | succ j ih =>
      rw [h.2.2 j (by omega), Bool.or_eq_true, Bool.and_eq_true] at h2
      rcases h2 with h2 | ⟨h2, h4⟩
      · exact ⟨j + 1, h1, h2, h3⟩
      · exact ih (by omega) h2 (star_back (by omega) h4 h3)
/-- By the byte c from place i to place j. -/
def Step (p : ByteArray) (c i j : Nat) : Prop := (star p i = true ∧ j = i) ∨ (star p i = false ∧ j = PN p i ∧ PT p c i = true)
/-- nx: where the places of xs that lie ahead of n come to by the byte c. -/
def NextTo (p : ByteArray) (c : Nat) (xs nx : List Bool) (n : Nat) : Prop :=
  nx.length = p.size + 1 ∧ ∀ j, j ≤ p.size → (gt nx j = true ↔ ∃ i, i < n ∧ gt xs i = true ∧ Step p c i j)
theorem next_zero (p : ByteArray) (c : Nat) (xs : List Bool) : NextTo p c xs (List.replicate (p.size + 1) false) 0 :=
  ⟨by simp, fun j hj => by rw [gt_replicate]; constructor; · intro h; cases h
                           · rintro ⟨i, h, _⟩; omega⟩
theorem next_same {p : ByteArray} {c : Nat} {xs nx : List Bool} {i : Nat} (h : NextTo p c xs nx i) (hx : gt xs i = false) : NextTo p c xs nx (i + 1) := by
  refine ⟨h.1, fun j hj => ?_⟩
  rw [h.2 j hj]
  constructor
  · rintro ⟨i', h1, h2⟩; exact ⟨i', by omega, h2⟩
  · rintro ⟨i', h1, h2, h3⟩
    by_cases e : i' = i
    · subst e; rw [hx] at h2; cases h2
    · exact ⟨i', by omega, h2, h3⟩
theorem next_star {p : ByteArray} {c : Nat} {xs nx : List Bool} {i : Nat} (hi : i < p.size) (h : NextTo p c xs nx i) (hx : gt xs i = true) (hs : star p i = true) : NextTo p c xs (nx.set i true) (i + 1) := by
  have hl : i < nx.length := by rw [h.1]; omega
  refine ⟨by rw [List.length_set]; exact h.1, fun j hj => ?_⟩
  rw [gt_set _ _ _ _ hl]
  by_cases e : j = i
  · subst e
    rw [if_pos rfl]
    exact ⟨fun _ => ⟨j, by omega, hx, Or.inl ⟨hs, rfl⟩⟩, fun _ => rfl⟩
  · rw [if_neg e, h.2 j hj]
    constructor
    · rintro ⟨i', h1, h2⟩; exact ⟨i', by omega, h2⟩
    · rintro ⟨i', h1, h2, h3⟩
      by_cases e2 : i' = i
      · subst e2
        rcases h3 with ⟨_, h4⟩ | ⟨h4, _⟩
        · exact absurd h4 e
        · rw [hs] at h4; cases h4
      · exact ⟨i', by omega, h2, h3⟩
theorem next_piece {p : ByteArray} {c : Nat} {xs nx : List Bool} {i J : Nat} {b : Bool} (hi : i < p.size) (h : NextTo p c xs nx i) (hx : gt xs i = true) (hs : star p i = false) (hJ : J = PN p i) (hb : b = (gt nx J || PT p c i)) : NextTo p c xs (nx.set J b) (i + 1) := by
  subst hJ
  have hle : PN p i ≤ p.size := PN_le (Nat.le_of_lt hi)
  have hl : PN p i < nx.length := by rw [h.1]; omega
  refine ⟨by rw [List.length_set]; exact h.1, fun j hj => ?_⟩
  rw [gt_set _ _ _ _ hl]
  by_cases e : j = PN p i
  · subst e
    rw [if_pos rfl, hb, Bool.or_eq_true, h.2 _ hj]
    constructor
    · rintro (⟨i', h1, h2⟩ | h4)
      · exact ⟨i', by omega, h2⟩
      · exact ⟨i, by omega, hx, Or.inr ⟨hs, rfl, h4⟩⟩
    · rintro ⟨i', h1, h2, h3⟩
      by_cases e2 : i' = i
      · subst e2
        rcases h3 with ⟨h4, _⟩ | ⟨_, _, h4⟩
        · rw [hs] at h4; cases h4
        · exact Or.inr h4
      · exact Or.inl ⟨i', by omega, h2, h3⟩
  · rw [if_neg e, h.2 j hj]
    constructor
    · rintro ⟨i', h1, h2⟩; exact ⟨i', by omega, h2⟩
    · rintro ⟨i', h1, h2, h3⟩
      by_cases e2 : i' = i
      · subst e2
        rcases h3 with ⟨h4, _⟩ | ⟨_, h4, _⟩
        · rw [hs] at h4; cases h4
        · exact absurd h4 e
      · exact ⟨i', by omega, h2, h3⟩
theorem next_some {p s : ByteArray} {xs nx : List Bool} {k : Nat} (hk : k < s.size) (hc : Closed p xs) (h : NextTo p s[k].toNat xs nx p.size) : Some1 p s xs k ↔ Some1 p s nx (k + 1) := by
  constructor
  · rintro ⟨i, h1, h2, h3⟩
    have key : ∀ d i, i + d = p.size → gt xs i = true → MM p s i k = true → Some1 p s nx (k + 1) := by
      intro d
      induction d with
      | zero =>
        intro i e _ h3
        have := (MM_end (p := p) (s := s) (i := i) (k := k) (by omega)).1 h3
        omega
      | succ d ih =>
        intro i e h2 h3
        have hi : i < p.size := by omega
        cases hs : star p i with
        | true =>
          rw [MM_star hi ((star_iff hi).1 hs) hk, Bool.or_eq_true] at h3
          rcases h3 with h3 | h3
          · exact ih (i + 1) (by omega) (hc i hi h2 hs) h3
          · exact ⟨i, by omega, (h.2 i (by omega)).2 ⟨i, hi, h2, Or.inl ⟨hs, rfl⟩⟩, h3⟩
        | false =>
          rw [MM_byte hi (fun x => by rw [(star_iff hi).2 x] at hs; cases hs) hk, Bool.and_eq_true] at h3
          exact ⟨PN p i, PN_le (by omega), (h.2 _ (PN_le (by omega))).2 ⟨i, hi, h2, Or.inr ⟨hs, rfl, h3.1⟩⟩, h3.2⟩
    exact key (p.size - i) i (by omega) h2 h3
  · rintro ⟨j, h1, h2, h3⟩
    obtain ⟨i, hi, h4, h5⟩ := (h.2 j h1).1 h2
    refine ⟨i, by omega, h4, ?_⟩
    rcases h5 with ⟨hs, rfl⟩ | ⟨hs, rfl, h6⟩
    · rw [MM_star hi ((star_iff hi).1 hs) hk, h3, Bool.or_true]
    · rw [MM_byte hi (fun x => by rw [(star_iff hi).2 x] at hs; cases hs) hk, h6, h3]; rfl
theorem end_some {p s : ByteArray} {xs : List Bool} {k : Nat} (hk : k = s.size) (hc : Closed p xs) : Some1 p s xs k ↔ gt xs p.size = true := by
  constructor
  · rintro ⟨i, h1, h2, h3⟩
    have key : ∀ d i, i + d = p.size → gt xs i = true → MM p s i k = true → gt xs p.size = true := by
      intro d
      induction d with
      | zero => intro i e h2 _; have : i = p.size := by omega
                subst this; exact h2
      | succ d ih =>
        intro i e h2 h3
        have hi : i < p.size := by omega
        cases hs : star p i with
        | true =>
          rw [MM_star_end hi ((star_iff hi).1 hs) (by omega)] at h3
          exact ih (i + 1) (by omega) (hc i hi h2 hs) h3
        | false =>
          rw [MM_none hi (fun x => by rw [(star_iff hi).2 x] at hs; cases hs) (by omega)] at h3
          cases h3
    exact key (p.size - i) i (by omega) h2 h3
  · intro h; exact ⟨p.size, Nat.le_refl _, h, (MM_end (Nat.le_refl _)).2 (by omega)⟩
theorem start_some (p s : ByteArray) : Some1 p s ((List.replicate (p.size + 1) false).set 0 true) 0 ↔ MM p s 0 0 = true := by
  have hl : 0 < (List.replicate (p.size + 1) false).length := by simp
  constructor
  · rintro ⟨i, h1, h2, h3⟩
    rw [gt_set _ _ _ _ hl] at h2
    by_cases e : i = 0
    · subst e; exact h3
    · rw [if_neg e, gt_replicate] at h2; cases h2
  · intro h; exact ⟨0, Nat.zero_le _, by rw [gt_set _ _ _ _ hl, if_pos rfl], h⟩
end Go.Proofs.Ytaglcpjjekaohaa.RefMath
