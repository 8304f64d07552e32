/- A region that draws its order, within a round: as it goes outside of one. -/
import Derived.Test.YtdmjfmojacnbeaaWalkN
import Derived.OrdersHeld
import Derived.OrdersIn
import Derived.RegionTactic
import Derived.Deep.RegionHeld3
import Derived.RangeFuncCalls
namespace Go.Proofs.Ytdmjfmojacnbeaa.WalkR
open Go Go.RowKit
section
variable {P : Program} {ops : Array Oper} {Q : Exit → Act → World → Prop} {md : Region.Mode} {S : World → Prop} {l n : Nat}
/-- no defer statement -/
def plainOp (o : Oper) : Bool := match o.op with
  | .defer _ => false
  | _ => true
theorem op_round {o : Oper} {a : Act} {w : World} {K K' : Act → World → Prop} (hd : plainOp o = true) (hK : ∀ a w, K a w → K' a w) (h : o.wp P a w K Q) : o.wpIn (Fence.wide.inRound l) n P a w K' Q := by
  unfold Oper.wpIn
  unfold Oper.wp at h
  refine ⟨fun _ _ => trivial, ?_⟩
  rw [Oper.semAt_eq _ _ _ (fun c e => by unfold plainOp at hd; rw [e] at hd; cases hd)]
  revert h
  generalize (execOp a.eval o).run P w = r
  intro h
  cases r with
  | ok x w' =>
    cases x with
    | value v => exact hK _ _ h
    | skip => exact hK _ _ h
    | defer d => exact hK _ _ h
    | enter f args =>
      exact ⟨fun h => (by simp [Fence.wide] at h), (CallsIn.inRound l (callsIn_wide.2 h)).mono fun e w'' he => by
        cases e with
        | returned v => exact hK _ _ he
        | panicked c => exact he
        | outgrown => exact he⟩
    | row r args =>
      exact ⟨fun h => (by simp [Fence.wide] at h), fun c cs _ => by
        obtain ⟨v, w'', q, s⟩ := h c cs
        exact ⟨v, w'', hK _ _ q, stepsIn_wide.2 s⟩⟩
    | _ => exact h.elim
  | halt x w' => cases x <;> exact h
theorem any_round (hd : ∀ (i : Nat) (o : Oper), ops[i]? = some o → plainOp o = true) (hQ : ¬ LetsOut Q) : ∀ (fuel : Nat) (listed : Array Bool) (a : Act) (w : World), wpAny P md ops Q fuel listed a w → wpAnyIn (Fence.wide.inRound l) n P md ops Q fuel listed a w
  | 0, _, _, _, h => h
  | fuel + 1, listed, a, w, h => ⟨h.1, fun i hi => by
      have h2 := h.2 i hi
      unfold wpOp at h2
      unfold wpOpIn
      split
      · rename_i e
        rw [e] at h2
        exact any_round hd hQ fuel _ a w h2
      · rename_i o e
        rw [e] at h2
        dsimp only at h2
        split
        · rename_i hw
          rw [if_pos hw] at h2
          rcases h2 with h2 | h2
          · exact op_round (hd i o e) (fun a' w' h3 => any_round hd hQ fuel _ a' w' h3) h2
          · exact absurd h2.2 hQ
        · rename_i hw
          rw [if_neg hw] at h2
          exact ⟨fun _ _ => trivial, any_round hd hQ fuel _ _ w h2⟩⟩
theorem region_round {id : Nat} {a : Act} {w : World} (hm : P.follows .mixedOrders = true) (hd : ops.all plainOp = true) (hQ : ¬ LetsOut Q)
    (h : wpAnyH P .any ops Q S ops.size (Array.replicate ops.size false) a w.drew) : (Code.region id ops true).wpIn (Fence.wide.inRound l) n P Q a w :=
  wpIn_region_any hm (any_round (fun i o e => by
    obtain ⟨hi, e⟩ := Array.getElem?_eq_some_iff.1 e
    rw [← e]
    exact Array.all_eq_true.1 hd i hi) hQ _ _ _ _ (wpAny_of_held _ _ _ _ h))
end
end Go.Proofs.Ytdmjfmojacnbeaa.WalkR
