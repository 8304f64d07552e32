/- Two fields, two entries compared. -/
import Derived.Test.YtdcnkdkhanmklabERow
import Derived.Test.YtdcnkdkhanmklabFRow
import Derived.DeepKeys
namespace Go.Proofs.Ytdcnkdkhanmklab.Neq
open Go.RowKit Go.Maps
open Go.Proofs.Ytdcnkdkhanmklab.SetMath
open Go.Proofs.Ytdcnkdkhanmklab.Base

set_option maxRecDepth 100000 in
theorem eqS (n : Nat) (a c : ByteArray) (b d : Int) (w : World) : (Op.equalIn (n + 2) 40 (.agg #[.string a, .int .i64 b]) (.agg #[.string c, .int .i64 d])).run Try.prog w = .ok (a == c && b == d) w := by
  have h0 : Try.prog.stoodInHeld 40 = false := by kernel_rfl
  have hp : ∀ (x : ByteArray) (y : Int), (part 9 #[.string x, .int .i64 y] 0).run Try.prog w = .ok (.string x) w := fun x y => by kernel_rfl
  have hq : ∀ (x : ByteArray) (y : Int), (part 3 #[.string x, .int .i64 y] 1).run Try.prog w = .ok (.int .i64 y) w := fun x y => by kernel_rfl
  have he : ∀ x y : ByteArray, (Op.equalIn (n + 1) 9 (.string x) (.string y)).run Try.prog w = .ok (x == y) w := fun x y => by simp [Op.equalIn, run_underlying Try.underlying9]
  have hi : ∀ x y : Int, (Op.equalIn (n + 1) 3 (.int .i64 x) (.int .i64 y)).run Try.prog w = .ok (x == y) w := fun x y => by simp [Op.equalIn, run_underlying Try.underlying3]
  rw [run_equalIn_struct w (n + 1) 40 _ _ (by simp [Program.fieldsOf, Try.underlying40]) h0]
  simp [Program.fieldsOf, Try.underlying40, Op.eqFields, hp, hq, he, hi]
  cases (a == c) <;> by_cases h : b = d <;> simp [h]
set_option maxRecDepth 100000 in
theorem eqF (n : Nat) (a b c d : ByteArray) (w : World) : (Op.equalIn (n + 2) 38 (.agg #[.string a, .string b]) (.agg #[.string c, .string d])).run Try.prog w = .ok (a == c && b == d) w := by
  have h0 : Try.prog.stoodInHeld 38 = false := by kernel_rfl
  have hp : ∀ x y : ByteArray, (part 9 #[.string x, .string y] 0).run Try.prog w = .ok (.string x) w := fun x y => by kernel_rfl
  have hq : ∀ x y : ByteArray, (part 9 #[.string x, .string y] 1).run Try.prog w = .ok (.string y) w := fun x y => by kernel_rfl
  have he : ∀ x y : ByteArray, (Op.equalIn (n + 1) 9 (.string x) (.string y)).run Try.prog w = .ok (x == y) w := fun x y => by simp [Op.equalIn, run_underlying Try.underlying9]
  rw [run_equalIn_struct w (n + 1) 38 _ _ (by simp [Program.fieldsOf, Try.underlying38]) h0]
  simp [Program.fieldsOf, Try.underlying38, Op.eqFields, hp, hq, he]
  cases (a == c) <;> cases (b == d) <;> rfl
theorem bts_eq (x y : ByteArray) : (x == y) = (bs x == bs y) := by
  cases x; cases y
  rename_i a b
  rw [Bool.eq_iff_iff]
  constructor
  · intro h
    have : (ByteArray.mk a) = ByteArray.mk b := by
      have h' : (a == b) = true := h
      rw [eq_of_beq h']
    injection this with this
    simp [bs, this]
  · intro h
    have : a.toList = b.toList := eq_of_beq h
    have e : a = b := by cases a; cases b; simpa using this
    show (a == b) = true
    rw [e]; simp
theorem neqF (p q : Bs × Bs) (w : World) : (binOp .neq 38 (.agg #[.string (mk p.1), .string (mk p.2)]) (.agg #[.string (mk q.1), .string (mk q.2)])).run Try.prog w = .ok (.bool (decide (p ≠ q))) w := by
  have h := eqF 9998 (mk p.1) (mk p.2) (mk q.1) (mk q.2) w
  rw [bts_eq, bts_eq, bs_mk, bs_mk, bs_mk, bs_mk] at h
  have e : (p.1 == q.1 && p.2 == q.2) = decide (p = q) := by cases p; cases q; rw [Bool.eq_iff_iff]; simp
  rw [e] at h
  have h2 : (Op.equal 38 (.agg #[.string (mk p.1), .string (mk p.2)]) (.agg #[.string (mk q.1), .string (mk q.2)])).run Try.prog w = .ok (decide (p = q)) w := h
  simp [binOp, h2]
theorem eq_run (p q : Bs × Int) (w : World) : (Op.equal 40 (.agg #[.string (mk p.1), .int .i64 p.2]) (.agg #[.string (mk q.1), .int .i64 q.2])).run Try.prog w = .ok (decide (p = q)) w := by
  have h := eqS 9998 (mk p.1) (mk q.1) p.2 q.2 w
  rw [bts_eq, bs_mk, bs_mk] at h
  have e : (p.1 == q.1 && p.2 == q.2) = decide (p = q) := by cases p; cases q; rw [Bool.eq_iff_iff]; simp
  rw [e] at h
  exact h
theorem neqE (p q : Bs × Int) (w : World) : (binOp .neq 40 (.agg #[.string (mk p.1), .int .i64 p.2]) (.agg #[.string (mk q.1), .int .i64 q.2])).run Try.prog w = .ok (.bool (decide (p ≠ q))) w := by
  have h2 := eq_run p q w
  simp [binOp, h2]
end Go.Proofs.Ytdcnkdkhanmklab.Neq
