/- MembersSets, walked. -/
import Derived.Test.YthhlembempknmabKept
namespace Go.Proofs.Ythhlembempknmab.Sets
open Go.RowKit Go.Sort
open Go.Proofs.Ythhlembempknmab.SetMath
open Go.Proofs.Ythhlembempknmab.Base
open Go.Proofs.Ythhlembempknmab.Small
open Go.Proofs.Ythhlembempknmab.Of
open Go.Proofs.Ythhlembempknmab.Lists
open Go.Proofs.Ythhlembempknmab.ROf
open Go.Proofs.Ythhlembempknmab.Code
open Go.Proofs.Ythhlembempknmab.After
open Go.Proofs.Ythhlembempknmab.Awake
open Go.Proofs.Ythhlembempknmab.RefK
open Go.Proofs.Ythhlembempknmab.Twins
open Go.Proofs.Ythhlembempknmab.Kept
set_option linter.unusedVariables false
set_option linter.unusedSimpArgs false
theorem ll_one {G : Nat → Prop} {w : World} {u : Value} {l : List El} (h : SL G w u l) : LL (fun _ => True) (w.alloc (.cells #[u] 22)) (some ⟨w.heap.size, 0, none⟩) [l] [u] :=
  ll_new (G := fun _ => True) rfl fun j x y h1 h2 => by
    match j with
    | 0 => cases h1; cases h2; exact h.mono fun _ _ _ => trivial
    | j + 1 => simp at h1
/-- all that came to be since w0 lies above it -/
structure On (w0 w : World) : Prop where
  bl : Below w0.heap.size w0 w
theorem On.refl (w : World) : On w w := ⟨Below.refl _ _⟩
theorem On.go {w0 w w' : World} (h : On w0 w) (b : Below w.heap.size w w') : On w0 w' := ⟨bel h.bl b (Nat.le_refl _)⟩
theorem On.drewN {w0 w : World} (h : On w0 w) (n : Nat) : On w0 (w.drewN n) := ⟨bdrew h.bl n⟩
theorem On.alloc {w0 w : World} (h : On w0 w) (o : Obj) : On w0 (w.alloc o) := h.go ((Below.refl _ w).alloc (Nat.le_refl _) o)
end Go.Proofs.Ythhlembempknmab.Sets
