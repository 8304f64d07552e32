/- A deed done within the round of a range. -/
import Derived.Test.YtdmjfmojacnbeaaWalkM
import Derived.Test.YtdmjfmojacnbeaaEoes
namespace Go.Proofs.Ytdmjfmojacnbeaa.WalkN
open Go.RowKit Go.Shelf
open Go.Proofs.Ytdmjfmojacnbeaa.Base
open Go.Proofs.Ytdmjfmojacnbeaa.EoA
open Go.Proofs.Ytdmjfmojacnbeaa.Eoes
open Go.Proofs.Ytdmjfmojacnbeaa.Seq
open Go.Proofs.Ytdmjfmojacnbeaa.WalkM
set_option linter.unusedVariables false
set_option linter.unusedSimpArgs false
/-- all that stands but F -/
abbrev Cf (F X : Nat → Prop) (W : World) : Cx := ⟨fun k => k < W.heap.size ∧ ¬ F k, X⟩
theorem Vw.deed {b : Nat} {Q X : Nat → Prop} {Wb Tb : Nat} {l' : List El} {at' : Int} {W : World} (h : Vw b Q X Wb Tb l' at' W) (hQ : ∀ k, Q k → k < W.heap.size) :
    ∃ F r, W.heap[Wb]? = some (.cells #[r] 22 (0, 0)) ∧ Sx F (Cf F X W) b l' r W W ∧ (∀ k, Q k → (Cf F X W).Lo k) ∧ ∀ W' r' F' l2, Sx F' (Cf F X W) b l2 r' W W' →
      Ok Q W W' ∧ W'.heap[Wb]? = some (.cells #[r] 22 (0, 0)) ∧ Ok Q W (W'.setCell ⟨Wb, 0, none⟩ r') ∧ Vw b Q X Wb Tb l2 at' (W'.setCell ⟨Wb, 0, none⟩ r') := by
  obtain ⟨⟨F, r, cw, dq, sl, hf⟩, ct, xw, xl⟩ := h
  refine ⟨F, r, cw, ⟨dq, sl, fun k e => ⟨fun c => c.2 e, isc_lt (hf k e).2.2⟩, xl, fun k e => e.1, Fr.refl _ _⟩, fun k e => ⟨hQ k e, fun c => (hf k c).1 e⟩, fun W' r' F' l2 s => ?_⟩
  have f : Fr F W W' := s.bl.mono fun k hk e => by
    by_cases q : F k
    · exact q
    · exact absurd (show (Cf F X W).Lo k from ⟨hk, q⟩) e
  have hF' : ∀ k, F' k → F k ∨ W.heap.size ≤ k := fun k e => by
    by_cases q : k < W.heap.size
    · by_cases q2 : F k
      · exact .inl q2
      · exact absurd (show (Cf F X W).Lo k from ⟨q, q2⟩) (s.ow k e).1
    · exact .inr (by omega)
  have ok1 : Ok Q W W' := Fr.mono f fun k _ e => ⟨(hf k e).2.2, (hf k e).1⟩
  have kx : ∀ k, X k → W'.heap[k]? = W.heap[k]? := fun k e => f.block k (xl k e) fun c => (hf k c).2.1 e
  have nq : ∀ k, F' k → ¬ Q k ∧ ¬ X k := fun k e => by
    rcases hF' k e with c | c
    · exact ⟨(hf k c).1, (hf k c).2.1⟩
    · exact ⟨fun q => by have := hQ k q; omega, fun q => by have := xl k q; omega⟩
  have cw' : W'.heap[Wb]? = some (.cells #[r] 22 (0, 0)) := (kx Wb xw.1).trans cw
  have kb : ∀ k, k ≠ Wb → (W'.setCell ⟨Wb, 0, none⟩ r').heap[k]? = W'.heap[k]? := fun k hk => set_ne hk _
  have cw2 : (W'.setCell ⟨Wb, 0, none⟩ r').heap[Wb]? = some (.cells #[r'] 22 (0, 0)) := by
    have := set_at (i := 0) cw' r'
    simpa using this
  refine ⟨ok1, cw', ok1.trans (Ok.set ⟨_, _, _, cw'⟩ xw.2.2.2.1 r'), ⟨⟨fun k => F' k ∧ IsC W' k, r', cw2, (DQ.isc s.dq).keep fun k _ e => kb k fun q => (nq k e.1).2 (by rw [q]; exact xw.1), (s.sl.keep fun k _ e => kb k fun q => e.2 (by rw [q]; exact xw.1)).mono fun k _ e => ⟨fun c => e.1 c.1, e.2⟩, fun k e => ⟨(nq k e.1).1, (nq k e.1).2, isc_same e.2 (kb k fun q => (nq k e.1).2 (by rw [q]; exact xw.1))⟩⟩, ((kb Tb (Ne.symm xw.2.2.1)).trans (kx Tb xw.2.1)).trans ct, xw, fun k e => by rw [size_set]; exact Nat.lt_of_lt_of_le (xl k e) f.size⟩⟩
end Go.Proofs.Ytdmjfmojacnbeaa.WalkN
