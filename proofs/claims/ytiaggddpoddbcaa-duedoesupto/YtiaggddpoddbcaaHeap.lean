/- container/heap's up and down over what the program moves by them: given what Less and Swap do. -/
import Derived.Test.YtiaggddpoddbcaaProg
import Derived.Test.YtiaggddpoddbcaaRiseMath
import Derived.WalkKit
import Derived.Below
import Derived.Deep.LoopGhost
namespace Go.Proofs.Ytiaggddpoddbcaa.Heap
open Go.RowKit
open Go.Proofs.Ytiaggddpoddbcaa.HeapMath
set_option linter.unusedVariables false
set_option linter.unusedSimpArgs false
theorem hid_of {p : Prop} (h : p) : Hid p := h
/-- what Less and Swap of a thing do: R tells the row that a world holds, F what stays -/
structure Moves {α : Type} [Inhabited α] (less swap : Nat) (lt : α → α → Prop) [DecidableRel lt] (pv : Value) (R : World → List α → Prop) (F : World → World → Prop) : Prop where
  refl : ∀ w, F w w
  trans : ∀ a b c, F a b → F b c → F a c
  less : ∀ w l (i j : Nat), R w l → i < l.length → j < l.length → Calls Try.prog less #[pv, .int .i64 (i : Int), .int .i64 (j : Int)] w fun e w' => e = .returned (.bool (decide (lt (pl l i) (pl l j)))) ∧ R w' l ∧ F w w'
  swap : ∀ w l (i j : Nat), R w l → i < l.length → j < l.length → Calls Try.prog swap #[pv, .int .i64 (i : Int), .int .i64 (j : Int)] w fun e w' => e = .returned (.tuple #[]) ∧ R w' (swp l i j) ∧ F w w'
/-- the same entries, in the order of a heap as far as n -/
def Was {α : Type} [Inhabited α] (lt : α → α → Prop) (n : Nat) (l l' : List α) : Prop := Hp lt l' n ∧ l'.Perm l ∧ ∀ k, n ≤ k → pl l' k = pl l k
/-- what down leaves: b tells whether anything was moved -/
def Down {α : Type} [Inhabited α] (lt : α → α → Prop) (n i0 : Nat) (l l' : List α) (b : Bool) : Prop := l'.Perm l ∧ (∀ k, n ≤ k → pl l' k = pl l k) ∧ (b = true → Hp lt l' n) ∧ (b = false → l' = l ∧ Up lt l n i0)
def DownE {α : Type} [Inhabited α] (lt : α → α → Prop) (n i0 : Nat) (l : List α) (R : World → List α → Prop) (F : World → World → Prop) (w : World) (e : Ending) (w' : World) : Prop := ∃ (b : Bool) (l' : List α), e = .returned (.bool b) ∧ R w' l' ∧ Down lt n i0 l l' b ∧ F w w'
/-- down, on its way -/
structure Mid {α : Type} [Inhabited α] (lt : α → α → Prop) (n i0 i : Nat) (l m : List α) : Prop where
  perm : m.Perm l
  behind : ∀ k, n ≤ k → pl m k = pl l k
  way : (i = i0 ∧ m = l ∧ D0 lt l n i0) ∨ (i0 < i ∧ Dn lt m n i)
theorem Mid.start {α : Type} [Inhabited α] {lt : α → α → Prop} {n i0 : Nat} {l : List α} (h : D0 lt l n i0) : Mid lt n i0 i0 l l := ⟨List.Perm.refl _, fun _ _ => rfl, .inl ⟨rfl, rfl, h⟩⟩
theorem Mid.step {α : Type} [Inhabited α] [DecidableEq α] {lt : α → α → Prop} {n i0 i j : Nat} {l m : List α} (h : Mid lt n i0 i l m) (o : STO lt) (hn : n ≤ m.length) (hin : i < n) (hi0 : i0 ≤ i) (hj : Least lt m n i j) (hl : lt (pl m j) (pl m i)) : Mid lt n i0 j l (swp m i j) := by
  have hij : i < j := by have := par_lt hj.1; have := hj.2.2.1; omega
  have hjn := hj.2.1
  refine ⟨(swp_perm (by omega) (by omega)).trans h.perm, fun k hk => ?_, .inr ⟨by omega, ?_⟩⟩
  · rw [swp_at (by omega) (by omega), if_neg (by omega), if_neg (by omega)]; exact h.behind k hk
  · rcases h.way with ⟨e1, e2, hd⟩ | ⟨_, hd⟩
    · rw [e2] at hj hl hn ⊢
      rw [e1] at hj hl ⊢
      exact hd.first o hn hj hl
    · exact hd.step o hn hj hl
theorem Mid.fin {α : Type} [Inhabited α] {lt : α → α → Prop} {n i0 i : Nat} {l m : List α} (h : Mid lt n i0 i l m) (o : STO lt) (hc : ∀ k, 0 < k → k < n → par k = i → ¬ lt (pl m k) (pl m i)) : Down lt n i0 l m (decide (i0 < i)) := by
  refine ⟨h.perm, h.behind, fun hb => ?_, fun hb => ?_⟩
  · rcases h.way with ⟨e1, _, _⟩ | ⟨_, hd⟩
    · have := of_decide_eq_true hb; omega
    · exact hd.fin hc
  · rcases h.way with ⟨e1, e2, hd⟩ | ⟨q, _⟩
    · rw [e2, e1] at hc
      exact ⟨e2, hd.fin hc⟩
    · have := of_decide_eq_false hb; omega
end Go.Proofs.Ytiaggddpoddbcaa.Heap
