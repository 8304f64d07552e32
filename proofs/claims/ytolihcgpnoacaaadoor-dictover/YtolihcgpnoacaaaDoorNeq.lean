/- Two fields compared. -/
import Derived.Test.YtolihcgpnoacaaaDoorBase
import Derived.DeepKeys
namespace Go.Proofs.YtolihcgpnoacaaaDoor.Neq
open Go.RowKit Go.Maps
open Go.Proofs.YtolihcgpnoacaaaDoor.DictMath
open Go.Proofs.YtolihcgpnoacaaaDoor.Base

set_option maxRecDepth 100000 in
theorem eq52 (n : Nat) (a b c d : ByteArray) (w : World) : (Op.equalIn (n + 2) 52 (.agg #[.string a, .string b]) (.agg #[.string c, .string d])).run Tryd.prog w = .ok (a == c && b == d) w := by
  have h0 : Tryd.prog.stoodInHeld 52 = false := by kernel_rfl
  have hp : ∀ x y : ByteArray, (part 9 #[.string x, .string y] 0).run Tryd.prog w = .ok (.string x) w := fun x y => by kernel_rfl
  have hq : ∀ x y : ByteArray, (part 9 #[.string x, .string y] 1).run Tryd.prog w = .ok (.string y) w := fun x y => by kernel_rfl
  have he : ∀ x y : ByteArray, (Op.equalIn (n + 1) 9 (.string x) (.string y)).run Tryd.prog w = .ok (x == y) w := fun x y => by simp [Op.equalIn, run_underlying Tryd.underlying9]
  rw [run_equalIn_struct w (n + 1) 52 _ _ (by simp [Program.fieldsOf, Tryd.underlying52]) h0]
  simp [Program.fieldsOf, Tryd.underlying52, Op.eqFields, hp, hq, he]
  cases (a == c) <;> cases (b == d) <;> rfl
theorem bts_eq (x y : ByteArray) : (x == y) = (bs x == bs y) := by
  cases x; cases y
  rename_i a b
  rw [Bool.eq_iff_iff]
  constructor
  · intro h
    have : (ByteArray.mk a) = ByteArray.mk b := by
      have h' : (a == b) = true := h
      rw [eq_of_beq h']
    injection this with this
    simp [bs, this]
  · intro h
    have : a.toList = b.toList := eq_of_beq h
    have e : a = b := by cases a; cases b; simpa using this
    show (a == b) = true
    rw [e]; simp
theorem neq52 (p q : Bs × Bs) (w : World) : (binOp .neq 52 (.agg #[.string (mk p.1), .string (mk p.2)]) (.agg #[.string (mk q.1), .string (mk q.2)])).run Tryd.prog w = .ok (.bool (decide (p ≠ q))) w := by
  have h := eq52 9998 (mk p.1) (mk p.2) (mk q.1) (mk q.2) w
  rw [bts_eq, bts_eq, bs_mk, bs_mk, bs_mk, bs_mk] at h
  have e : (p.1 == q.1 && p.2 == q.2) = decide (p = q) := by cases p; cases q; rw [Bool.eq_iff_iff]; simp
  rw [e] at h
  have h2 : (Op.equal 52 (.agg #[.string (mk p.1), .string (mk p.2)]) (.agg #[.string (mk q.1), .string (mk q.2)])).run Tryd.prog w = .ok (decide (p = q)) w := h
  simp [binOp, h2]
end Go.Proofs.YtolihcgpnoacaaaDoor.Neq
