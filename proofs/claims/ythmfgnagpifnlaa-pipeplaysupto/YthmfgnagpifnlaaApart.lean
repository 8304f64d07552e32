/- What is done to the other connections plays no part: two networks side by side. -/
import Derived.Test.YthmfgnagpifnlaaApartM
import Derived.Test.YthmfgnagpifnlaaOps
namespace Go.Proofs.Ythmfgnagpifnlaa.Apart
open Go.RowKit
open Go.Proofs.Ythmfgnagpifnlaa.PipeMath
open Go.Proofs.Ythmfgnagpifnlaa.Base
open Go.Proofs.Ythmfgnagpifnlaa.Queue
open Go.Proofs.Ythmfgnagpifnlaa.Queue2
open Go.Proofs.Ythmfgnagpifnlaa.Net
open Go.Proofs.Ythmfgnagpifnlaa.Connect
open Go.Proofs.Ythmfgnagpifnlaa.Calls
open Go.Proofs.Ythmfgnagpifnlaa.Calls3
open Go.Proofs.Ythmfgnagpifnlaa.Sure
open Go.Proofs.Ythmfgnagpifnlaa.Line
open Go.Proofs.Ythmfgnagpifnlaa.Done
open Go.Proofs.Ythmfgnagpifnlaa.Ops
set_option linter.unusedVariables false

/- two networks in one memory, from base on -/
structure Two (base a b : Nat) (na nb : Nt) (w0 w : World) : Prop where
  two : ∃ Fa Fb, Has Fa a na w ∧ Has Fb b nb w ∧ (∀ k, Fa k → ¬ Fb k) ∧ (∀ k, Fa k → base ≤ k ∧ k < w.heap.size) ∧ ∀ k, Fb k → base ≤ k ∧ k < w.heap.size
  low : base ≤ w.heap.size
  bl : Below base w0 w
theorem has_low {F : Nat → Prop} {b : Nat} {n : Nt} {w : World} (h : Has F b n w) : Has (fun k => F k ∧ k < w.heap.size) b n w := by
  obtain ⟨y, h⟩ := h
  exact ⟨y, h.low⟩
theorem has_keep {F G : Nat → Prop} {b : Nat} {n : Nt} {w w' : World} (h : Has F b n w) (he : Fr G w w') (hd : ∀ k, F k → ¬ G k) : Has F b n w' := by
  obtain ⟨y, h⟩ := h
  exact ⟨y, h.keep he hd⟩
theorem Two.swap {base a b : Nat} {na nb : Nt} {w0 w : World} (h : Two base a b na nb w0 w) : Two base b a nb na w0 w := by
  obtain ⟨Fa, Fb, h1, h2, h3, h4, h5⟩ := h.two
  exact ⟨⟨Fb, Fa, h2, h1, fun k e e2 => h3 k e2 e, h5, h4⟩, h.low, h.bl⟩
theorem Two.below {base a b : Nat} {na nb : Nt} {w0 w w' : World} (h : Two base a b na nb w0 w) (e : Below w.heap.size w w') : Two base a b na nb w0 w' := by
  obtain ⟨Fa, Fb, h1, h2, h3, h4, h5⟩ := h.two
  exact ⟨⟨Fa, Fb, has_keep (G := fun _ => False) h1 (Fr.of_below e) (fun _ _ e => e), has_keep (G := fun _ => False) h2 (Fr.of_below e) (fun _ _ e => e), h3, fun k e2 => ⟨(h4 k e2).1, Nat.lt_of_lt_of_le (h4 k e2).2 e.size⟩, fun k e2 => ⟨(h5 k e2).1, Nat.lt_of_lt_of_le (h5 k e2).2 e.size⟩⟩, Nat.le_trans h.low e.size, h.bl.trans (e.mono h.low)⟩
theorem Two.drewN {base a b : Nat} {na nb : Nt} {w0 w : World} (h : Two base a b na nb w0 w) (m : Nat) : Two base a b na nb w0 (w.drewN m) := h.below ⟨rfl, rfl, rfl, Nat.le_refl _, fun _ _ => rfl⟩
theorem Two.alloc {base a b : Nat} {na nb : Nt} {w0 w : World} (h : Two base a b na nb w0 w) (o : Obj) : Two base a b na nb w0 (w.alloc o) := h.below ((Below.refl _ w).alloc (Nat.le_refl _) o)
/- a call on the first one -/
theorem Two.call {base a b : Nat} {na nb na' : Nt} {w0 w : World} {f : FuncId} {args : Array Value} {P : Ending → Prop} (h : Two base a b na nb w0 w)
    (hc : ∀ F y, NK F a y na w → Calls Try.prog f args w fun e w' => P e ∧ Has (Gr F w) a na' w' ∧ Fr F w w') : Calls Try.prog f args w fun e w' => P e ∧ Two base a b na' nb w0 w' ∧ ∀ k, k < base → w'.heap[k]? = w.heap[k]? := by
  obtain ⟨Fa, Fb, ⟨y, h1⟩, h2, h3, h4, h5⟩ := h.two
  refine (hc Fa y h1).mono fun e w' ⟨p, q, f⟩ => ⟨p, ⟨⟨fun k => Gr Fa w k ∧ k < w'.heap.size, Fb, has_low q, has_keep h2 f (fun k e e2 => h3 k e2 e), fun k e e2 => ?_, fun k e => ⟨?_, e.2⟩, fun k e => ⟨(h5 k e).1, Nat.lt_of_lt_of_le (h5 k e).2 f.size⟩⟩, Nat.le_trans h.low f.size, h.bl.trans (f.below h.low fun k e => (h4 k e).1)⟩, fun k hk => f.block k (Nat.lt_of_lt_of_le hk h.low) (fun e => by have := (h4 k e).1; omega)⟩
  · rcases e.1 with e1 | e1
    · exact h3 k e1 e2
    · have := (h5 k e2).2; omega
  · rcases e.1 with e1 | e1
    · exact (h4 k e1).1
    · exact Nat.le_trans h.low e1
/- .. that only asks -/
theorem Two.ask {base a b : Nat} {na nb : Nt} {w0 w : World} {f : FuncId} {args : Array Value} {Q : Ending → World → Prop} (h : Two base a b na nb w0 w) (hc : ∀ F y, NK F a y na w → Calls Try.prog f args w Q) : Calls Try.prog f args w Q := by
  obtain ⟨Fa, Fb, ⟨y, h1⟩, h2, h3, h4, h5⟩ := h.two
  exact hc Fa y h1
end Go.Proofs.Ythmfgnagpifnlaa.Apart
