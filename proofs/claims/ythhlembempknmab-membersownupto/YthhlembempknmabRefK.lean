/- The document's Add, Remove, Count, After. -/
import Derived.Test.YthhlembempknmabRefJ
namespace Go.Proofs.Ythhlembempknmab.RefK
open Go.RowKit Go.Sort
open Go.Proofs.Ythhlembempknmab.SetMath
open Go.Proofs.Ythhlembempknmab.Base
open Go.Proofs.Ythhlembempknmab.Small
open Go.Proofs.Ythhlembempknmab.Lists
open Go.Proofs.Ythhlembempknmab.ROf
open Go.Proofs.Ythhlembempknmab.Code
open Go.Proofs.Ythhlembempknmab.After
open Go.Proofs.Ythhlembempknmab.RefJ
set_option linter.unusedVariables false
set_option linter.unusedSimpArgs false
theorem diff_two (l m : List Bs) : diff [l, m] = dif l m := by
  show (S l).filter (fun x => [m].all fun m => decide (x ∉ m)) = _
  unfold dif
  congr 1
  funext x
  simp
theorem ll_new {G : Nat → Prop} {w : World} {us : List Value} {ls : List (List El)} (hl : us.length = ls.length) (h : ∀ (j : Nat) (u : Value) (l : List El), us[j]? = some u → ls[j]? = some l → SL G w u l) : LL (fun _ => True) (w.alloc (.cells us.toArray 22)) (some ⟨w.heap.size, 0, none⟩) ls us :=
  ⟨hl, .inr ⟨w.heap.size, 0, rfl, trivial, fun j u hj => by
    rw [Lib.cell_of_heap (heap_alloc_new w _), Nat.zero_add]
    simpa using hj⟩, fun j u l h1 h2 => ((h j u l h1 h2).below ((Below.refl _ w).alloc (Nat.le_refl _) _)).mono fun _ _ _ => trivial⟩
theorem ll_two {G G' : Nat → Prop} {w : World} {u v : Value} {l m : List El} (h : SL G w u l) (h' : SL G' w v m) : LL (fun _ => True) (w.alloc (.cells #[u, v] 22)) (some ⟨w.heap.size, 0, none⟩) [l, m] [u, v] :=
  ll_new (G := fun _ => True) rfl fun j x y h1 h2 => by
    match j with
    | 0 => cases h1; cases h2; exact h.mono fun _ _ _ => trivial
    | 1 => cases h1; cases h2; exact h'.mono fun _ _ _ => trivial
    | j + 2 => simp at h1
end Go.Proofs.Ythhlembempknmab.RefK
