/- Going over an index of nothing. -/
import Derived.Test.YtiaggddpoddbcaaNilS
import Derived.RangeFuncNested
import Derived.RangeFuncBound
import Derived.RangeFuncCalls
import Derived.RangeFuncLeaves
import Derived.Shelf.Abstract
import Derived.WalkKit
import Derived.OwnWalkIn
import Derived.TacticsInMore
import Derived.LoopNIn
import Derived.LoopIn
import Derived.Stop.RegionWithIn
namespace Go.Proofs.Ytiaggddpoddbcaa.IterN
open Go.RowKit Go.Shelf
open Go.Proofs.Ytiaggddpoddbcaa.Heap
set_option linter.unusedVariables false
attribute [local go_sem] Oper.semAt_some
/- the blocks of which G speaks stand -/
def Kp (G : Nat → Prop) (W W' : World) : Prop := ∀ k, G k → W'.heap[k]? = W.heap[k]?
theorem kp_t {G : Nat → Prop} {A B C : World} (h : Kp G A B) (k : Kp G B C) : Kp G A C := fun i hi => (k i hi).trans (h i hi)
set_option maxRecDepth 100000 in
set_option maxHeartbeats 4000000 in
theorem iter_none (enc : Unit → Array Value) (n : Nat) (hn : 1 ≤ n) (G : Nat → Prop) (Bx : Nat) (a : Option Addr) (c : Nat) (w : World) (hc : w.cell? ⟨Bx, 0, none⟩ = some (.slice a 0 c)) :
    SeqStopsK Fence.wide n Try.prog 44 #[.pointer (some ⟨Bx, 0, none⟩)] enc (Kp G) (fun xs => xs = []) (fun _ => False) 0 w := fun lp J Jx W hW hJ hJx hY h0 => by
  have hcW : W.cell? ⟨Bx, 0, none⟩ = some (.slice a 0 c) := (hW.cell (p := ⟨Bx, 0, none⟩) (block_lt_of_cell hc)).trans hc
  have H0 := hid_of h0
  clear hJ hJx hY
  refine callsIn_of_wp Try.func44 rfl trivial ?_ rfl
  simp only [Try.ntmps44, List.size_toArray, List.length_cons, List.length_nil, Nat.reduceAdd, Nat.reduceSub, Array.replicate_succ, Array.replicate_zero, List.push_toArray, List.append_toArray, List.nil_append, List.cons_append]
  gi_wp2_with fail
  gi_loopw [7] (fun si wr => si = .int .i64 0 ∧ wr = W) (fun si wr => 0)
  case atStart => exact ⟨rfl, rfl⟩
  case round =>
    obtain ⟨rfl, rfl⟩ := hrel
    gi_wp2
    go_end0
    exact ⟨⟨_, rfl⟩, .inl ⟨[], rfl, H0.out⟩⟩
end Go.Proofs.Ytiaggddpoddbcaa.IterN
