/- A row that is told, compared with itself. -/
import Derived.Test.YtgmnmcaclpfknaaRowsL
import Derived.DeepKeys
namespace Go.Proofs.Ytgmnmcaclpfknaa.EqS
open Go.RowKit Go.Maps
open Go.Proofs.Ytgmnmcaclpfknaa.Base
abbrev A7 (s : ByteArray) (i : Int) (b c : Bool) (x y z : Int) : Array Value := #[.string s, .int .i64 i, .bool b, .bool c, .int .i64 x, .int .i64 y, .int .i64 z]
set_option maxRecDepth 100000 in
theorem eqIn (n : Nat) (s : ByteArray) (i : Int) (b c : Bool) (x y z : Int) (w : World) : (Op.equalIn (n + 2) 23 (.agg (A7 s i b c x y z)) (.agg (A7 s i b c x y z))).run Try.prog w = .ok true w := by
  have h0 : Try.prog.stoodInHeld 23 = false := by kernel_rfl
  have p0 : (part 9 (A7 s i b c x y z) 0).run Try.prog w = .ok (.string s) w := by kernel_rfl
  have p1 : (part 3 (A7 s i b c x y z) 1).run Try.prog w = .ok (.int .i64 i) w := by kernel_rfl
  have p2 : (part 4 (A7 s i b c x y z) 2).run Try.prog w = .ok (.bool b) w := by kernel_rfl
  have p3 : (part 4 (A7 s i b c x y z) 3).run Try.prog w = .ok (.bool c) w := by kernel_rfl
  have p4 : (part 3 (A7 s i b c x y z) 4).run Try.prog w = .ok (.int .i64 x) w := by kernel_rfl
  have p5 : (part 3 (A7 s i b c x y z) 5).run Try.prog w = .ok (.int .i64 y) w := by kernel_rfl
  have p6 : (part 3 (A7 s i b c x y z) 6).run Try.prog w = .ok (.int .i64 z) w := by kernel_rfl
  have hs : (s == s) = true := by
    cases s
    rename_i a
    show (a == a) = true
    simp
  have he : (Op.equalIn (n + 1) 9 (.string s) (.string s)).run Try.prog w = .ok true w := by simp [Op.equalIn, run_underlying Try.underlying9, hs]
  have hi : ∀ x : Int, (Op.equalIn (n + 1) 3 (.int .i64 x) (.int .i64 x)).run Try.prog w = .ok true w := fun x => by simp [Op.equalIn, run_underlying Try.underlying3]
  have hb : ∀ x : Bool, (Op.equalIn (n + 1) 4 (.bool x) (.bool x)).run Try.prog w = .ok true w := fun x => by simp [Op.equalIn, run_underlying Try.underlying4]
  rw [run_equalIn_struct w (n + 1) 23 _ _ (by simp [Program.fieldsOf, Try.underlying23]) h0]
  simp only [Program.fieldsOf, Try.underlying23]
  simp [Op.eqFields, p0, p1, p2, p3, p4, p5, p6, he, hi, hb]
theorem eqlS (s : ByteArray) (i : Int) (b c : Bool) (x y z : Int) (w : World) : (binOp .eql 23 (.agg #[.string s, .int .i64 i, .bool b, .bool c, .int .i64 x, .int .i64 y, .int .i64 z]) (.agg #[.string s, .int .i64 i, .bool b, .bool c, .int .i64 x, .int .i64 y, .int .i64 z])).run Try.prog w = .ok (.bool true) w := by
  have h2 : (Op.equal 23 (.agg (A7 s i b c x y z)) (.agg (A7 s i b c x y z))).run Try.prog w = .ok true w := eqIn 9998 s i b c x y z w
  simp [binOp, h2]
theorem neqS (s : ByteArray) (i : Int) (b c : Bool) (x y z : Int) (w : World) : (binOp .neq 23 (.agg #[.string s, .int .i64 i, .bool b, .bool c, .int .i64 x, .int .i64 y, .int .i64 z]) (.agg #[.string s, .int .i64 i, .bool b, .bool c, .int .i64 x, .int .i64 y, .int .i64 z])).run Try.prog w = .ok (.bool false) w := by
  have h2 : (Op.equal 23 (.agg (A7 s i b c x y z)) (.agg (A7 s i b c x y z))).run Try.prog w = .ok true w := eqIn 9998 s i b c x y z w
  simp [binOp, h2]
end Go.Proofs.Ytgmnmcaclpfknaa.EqS
