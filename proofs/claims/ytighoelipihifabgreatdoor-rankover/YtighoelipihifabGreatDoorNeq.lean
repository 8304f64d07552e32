/- Two entries compared. -/
import Derived.Test.YtighoelipihifabGreatDoorBase
import Derived.DeepKeys
namespace Go.Proofs.YtighoelipihifabGreatDoor.Neq
open Go.RowKit Go.Maps
open Go.Proofs.YtighoelipihifabGreatDoor.MapMath
open Go.Proofs.YtighoelipihifabGreatDoor.RankMath
open Go.Proofs.YtighoelipihifabGreatDoor.Base

set_option maxRecDepth 100000 in
theorem eqS (n : Nat) (a c : ByteArray) (b d : Int) (w : World) : (Op.equalIn (n + 2) 35 (.agg #[.string a, .int .i64 b]) (.agg #[.string c, .int .i64 d])).run Tryz.prog w = .ok (a == c && b == d) w := by
  have h0 : Tryz.prog.stoodInHeld 35 = false := by kernel_rfl
  have hp : ∀ (x : ByteArray) (y : Int), (part 9 #[.string x, .int .i64 y] 0).run Tryz.prog w = .ok (.string x) w := fun x y => by kernel_rfl
  have hq : ∀ (x : ByteArray) (y : Int), (part 3 #[.string x, .int .i64 y] 1).run Tryz.prog w = .ok (.int .i64 y) w := fun x y => by kernel_rfl
  have he : ∀ x y : ByteArray, (Op.equalIn (n + 1) 9 (.string x) (.string y)).run Tryz.prog w = .ok (x == y) w := fun x y => by simp [Op.equalIn, run_underlying Tryz.underlying9]
  have hi : ∀ x y : Int, (Op.equalIn (n + 1) 3 (.int .i64 x) (.int .i64 y)).run Tryz.prog w = .ok (x == y) w := fun x y => by simp [Op.equalIn, run_underlying Tryz.underlying3]
  rw [run_equalIn_struct w (n + 1) 35 _ _ (by simp [Program.fieldsOf, Tryz.underlying35]) h0]
  simp [Program.fieldsOf, Tryz.underlying35, Op.eqFields, hp, hq, he, hi]
  cases (a == c) <;> by_cases h : b = d <;> simp [h]
theorem bts_eq (x y : ByteArray) : (x == y) = (bs x == bs y) := by
  cases x; cases y
  rename_i a b
  rw [Bool.eq_iff_iff]
  constructor
  · intro h
    have : (ByteArray.mk a) = ByteArray.mk b := by
      have h' : (a == b) = true := h
      rw [eq_of_beq h']
    injection this with this
    simp [bs, this]
  · intro h
    have : a.toList = b.toList := eq_of_beq h
    have e : a = b := by cases a; cases b; simpa using this
    show (a == b) = true
    rw [e]; simp
theorem eq_run (p q : Ent) (w : World) : (Op.equal 35 (.agg #[.string (mk p.1), .int .i64 p.2]) (.agg #[.string (mk q.1), .int .i64 q.2])).run Tryz.prog w = .ok (decide (p = q)) w := by
  have h := eqS 9998 (mk p.1) (mk q.1) p.2 q.2 w
  rw [bts_eq, bs_mk, bs_mk] at h
  have e : (p.1 == q.1 && p.2 == q.2) = decide (p = q) := by cases p; cases q; rw [Bool.eq_iff_iff]; simp
  rw [e] at h
  exact h
theorem neqE (p q : Ent) (w : World) : (binOp .neq 35 (.agg #[.string (mk p.1), .int .i64 p.2]) (.agg #[.string (mk q.1), .int .i64 q.2])).run Tryz.prog w = .ok (.bool (decide (p ≠ q))) w := by
  have h2 := eq_run p q w
  simp [binOp, h2]
theorem eqlE (p q : Ent) (w : World) : (binOp .eql 35 (.agg #[.string (mk p.1), .int .i64 p.2]) (.agg #[.string (mk q.1), .int .i64 q.2])).run Tryz.prog w = .ok (.bool (decide (p = q))) w := by
  have h2 := eq_run p q w
  simp [binOp, h2]
end Go.Proofs.YtighoelipihifabGreatDoor.Neq
