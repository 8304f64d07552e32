/- strayed. -/
import Derived.Test.YtpnigkjmofhmbabGreatCmpM
namespace Go.Proofs.YtpnigkjmofhmbabGreat.Stray
open Go.RowKit Go.Maps
open Go.Proofs.YtpnigkjmofhmbabGreat.ValueMath
open Go.Proofs.YtpnigkjmofhmbabGreat.Base
open Go.Proofs.YtpnigkjmofhmbabGreat.Vals
open Go.Proofs.YtpnigkjmofhmbabGreat.Check0
set_option linter.unusedVariables false
set_option linter.unusedSimpArgs false
set_option maxHeartbeats 4000000 in
set_option maxRecDepth 100000 in
theorem stray_raw (k : Int) (hk : k = 1 ∨ k = 2 ∨ k = 3 ∨ k = 4 ∨ k = 5) (X : ByteArray) (aa ba ca : Option Addr) (an bn cn ac bc cc : Nat) (bt bl bf br : Bool) (ht : X.toList.isEmpty = !bt) (ha : decide ((0 : Int) < (an : Int)) = bl) (hb : decide ((0 : Int) < (bn : Int)) = bf) (hc : decide ((0 : Int) < (cn : Int)) = br) (ha' : decide (0 < an) = bl) (hb' : decide (0 < bn) = bf) (hc' : decide (0 < cn) = br) (w : World) :
    Calls Tryz.prog 100 #[.agg #[.int .i64 k, .string X, .slice aa an ac, .slice ba bn bc, .slice ca cn cc]] w fun e w' => e = .returned (.bool (strB k bt bl bf br)) ∧ Below w.heap.size w w' := by
  rcases hk with rfl | rfl | rfl | rfl | rfl <;> cases bt <;> cases bl <;> cases bf <;> cases br
  all_goals
    simp only [Bool.not_true, Bool.not_false] at ht
    go_enter Tryz.func100, Tryz.ntmps100
    go_wp2
    go_ret
    exact ⟨rfl, FRow.bnew w _⟩
end Go.Proofs.YtpnigkjmofhmbabGreat.Stray
