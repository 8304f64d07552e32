/- Two bounds that are the same. -/
import Derived.Test.YtighoelipihifaaDoorNeq
namespace Go.Proofs.YtighoelipihifaaDoor.EqB
open Go.RowKit Go.Maps
open Go.Proofs.YtighoelipihifaaDoor.Base

set_option maxRecDepth 100000 in
theorem eqIn (n : Nat) (i : Int) (o : Bool) (c : Int) (s : ByteArray) (w : World) : (Op.equalIn (n + 2) 23 (.agg #[.int .i64 i, .bool o, .int .i64 c, .string s]) (.agg #[.int .i64 i, .bool o, .int .i64 c, .string s])).run Tryd.prog w = .ok true w := by
  have h0 : Tryd.prog.stoodInHeld 23 = false := by kernel_rfl
  have hp : (part 3 #[.int .i64 i, .bool o, .int .i64 c, .string s] 0).run Tryd.prog w = .ok (.int .i64 i) w := by kernel_rfl
  have hq : (part 4 #[.int .i64 i, .bool o, .int .i64 c, .string s] 1).run Tryd.prog w = .ok (.bool o) w := by kernel_rfl
  have hr : (part 3 #[.int .i64 i, .bool o, .int .i64 c, .string s] 2).run Tryd.prog w = .ok (.int .i64 c) w := by kernel_rfl
  have hs : (part 9 #[.int .i64 i, .bool o, .int .i64 c, .string s] 3).run Tryd.prog w = .ok (.string s) w := by kernel_rfl
  have hss : (s == s) = true := by rw [Neq.bts_eq]; simp
  have he : (Op.equalIn (n + 1) 9 (.string s) (.string s)).run Tryd.prog w = .ok true w := by simp [Op.equalIn, run_underlying Tryd.underlying9, hss]
  have hi : ∀ x : Int, (Op.equalIn (n + 1) 3 (.int .i64 x) (.int .i64 x)).run Tryd.prog w = .ok true w := fun x => by simp [Op.equalIn, run_underlying Tryd.underlying3]
  have hb : (Op.equalIn (n + 1) 4 (.bool o) (.bool o)).run Tryd.prog w = .ok true w := by simp [Op.equalIn, run_underlying Tryd.underlying4]
  rw [run_equalIn_struct w (n + 1) 23 _ _ (by simp [Program.fieldsOf, Tryd.underlying23]) h0]
  simp [Program.fieldsOf, Tryd.underlying23, Op.eqFields, hp, hq, hr, hs, he, hi, hb]
theorem eqRun (i : Int) (o : Bool) (c : Int) (s : ByteArray) (w : World) : (binOp .eql 23 (.agg #[.int .i64 i, .bool o, .int .i64 c, .string s]) (.agg #[.int .i64 i, .bool o, .int .i64 c, .string s])).run Tryd.prog w = .ok (.bool true) w := by
  have h : (Op.equal 23 (.agg #[.int .i64 i, .bool o, .int .i64 c, .string s]) (.agg #[.int .i64 i, .bool o, .int .i64 c, .string s])).run Tryd.prog w = .ok true w := eqIn 9998 i o c s w
  simp [binOp, h]
end Go.Proofs.YtighoelipihifaaDoor.EqB
