/- The document's own double part. -/
import Derived.Test.YtfkilbhhpipjbaaGreatDoorRefHex
namespace Go.Proofs.YtfkilbhhpipjbaaGreatDoor.StepHex
open Go.RowKit
open Go.Proofs.YtfkilbhhpipjbaaGreatDoor.TextMath
open Go.Proofs.YtfkilbhhpipjbaaGreatDoor.ReqMath
open Go.Proofs.YtfkilbhhpipjbaaGreatDoor.Base
open Go.Proofs.YtfkilbhhpipjbaaGreatDoor.Small
open Go.Proofs.YtfkilbhhpipjbaaGreatDoor.Append
open Go.Proofs.YtfkilbhhpipjbaaGreatDoor.Bulk2
open Go.Proofs.YtfkilbhhpipjbaaGreatDoor.Quoted
open Go.Proofs.YtfkilbhhpipjbaaGreatDoor.RefWrite
open Go.Proofs.YtfkilbhhpipjbaaGreatDoor.SplitC
open Go.Proofs.YtfkilbhhpipjbaaGreatDoor.RefPart
open Go.Proofs.YtfkilbhhpipjbaaGreatDoor.RefHex
set_option linter.unusedVariables false
theorem hex_some {c : UInt8} {x : Nat} (h : hexV c = some x) (w : World) : Calls Tryz.prog 51 #[.int .u8 (c.toNat : Int)] w fun e w' => e = .returned (.int .i64 (x : Int)) ∧ w' = w := by
  have := hex_call c w
  unfold hexI at this
  rw [h] at this
  exact this
theorem hex_none {c : UInt8} (h : hexV c = none) (w : World) : Calls Tryz.prog 51 #[.int .u8 (c.toNat : Int)] w fun e w' => e = .returned (.int .i64 (-1)) ∧ w' = w := by
  have := hex_call c w
  unfold hexI at this
  rw [h] at this
  exact this
section
variable {ops : Array Oper} {o : Oper} {a : Act} {Q : Exit → Act → World → Prop}
set_option maxRecDepth 100000 in
theorem step_hex {EE : Prop} {K : Act → World → Prop} (hg : o.guard = none) (x : Operand) (ho : o.op = .call { callee := .value (.func 51), args := #[x], argTypes := #[5] }) (c : UInt8) (r : Int) (W : World)
    (hc : Calls Tryz.prog 51 #[.int .u8 (c.toNat : Int)] W fun e w' => e = .returned (.int .i64 r) ∧ w' = W) (hx : a.eval x = .int .u8 (c.toNat : Int)) (hK : K (a.put o.dst (.int .i64 r)) W) :
    if Region.wanted o (yielded ops a.tmps) = true then Oper.wp Tryz.prog o a W K Q else EE := by
  have hw : Region.wanted o (yielded ops a.tmps) = true := by simp [Region.wanted, hg]
  rw [if_pos hw]
  unfold Oper.wp execOp
  simp only [ho, resolve, invoke, List.map_toArray, List.map_cons, List.map_nil, hx, Sem.run_bind]
  simp only [show a.eval (Operand.func 51) = Value.func (Fn.func 51) #[] #[] from rfl]
  simp [Deferred.ofValue, callFunc, go_sem, Oper.upon]
  refine hc.mono ?_
  rintro e w' ⟨rfl, rfl⟩
  exact hK
end
end Go.Proofs.YtfkilbhhpipjbaaGreatDoor.StepHex
