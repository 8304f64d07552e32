/- contentOf, strayed, checked, Check. -/
import Derived.Test.YtdcnkdkhanmklabMayM
namespace Go.Proofs.Ytdcnkdkhanmklab.Check0
open Go.RowKit Go.Maps
open Go.Proofs.Ytdcnkdkhanmklab.SetMath
open Go.Proofs.Ytdcnkdkhanmklab.ValueMath
open Go.Proofs.Ytdcnkdkhanmklab.Base
open Go.Proofs.Ytdcnkdkhanmklab.Vals
open Go.Proofs.Ytdcnkdkhanmklab.May
open Go.Proofs.Ytdcnkdkhanmklab.MayR
set_option linter.unusedVariables false
set_option linter.unusedSimpArgs false

structure Wel (x : Vl) : Prop extends Fit x where
  t : x.text.length ≤ 140737488355328
  ls : Sml x.list
  fs : Fok x.fields
  rs : Rok x.ranked
  r24 : x.ranked.length * 24 ≤ 140737488355328
def cv (k : Int) (X a b c : Value) : Value := if k = 1 then .iface 74 X else if k = 2 then .iface 75 a else if k = 3 then .iface 76 b else if k = 4 then .iface 77 a else if k = 5 then .iface 78 c else .nilIface
set_option maxHeartbeats 2000000 in
set_option maxRecDepth 100000 in
theorem content_call (k : Int) (X : ByteArray) (aa ba ca : Option Addr) (an bn cn ac bc cc : Nat) (w : World) :
    Calls Try.prog 23 #[.agg #[.int .i64 k, .string X, .slice aa an ac, .slice ba bn bc, .slice ca cn cc]] w fun e w' => e = .returned (cv k (.string X) (.slice aa an ac) (.slice ba bn bc) (.slice ca cn cc)) ∧ Below w.heap.size w w' := by
  unfold cv
  by_cases h1 : k = 1
  · rw [if_pos h1]
    subst h1
    go_enter Try.func23, Try.ntmps23
    go_wp2
    go_ret
    exact ⟨rfl, FRow.bnew w _⟩
  · rw [if_neg h1]
    have e1 : (k == 1) = false := by simpa using h1
    by_cases h2 : k = 2
    · rw [if_pos h2]
      subst h2
      go_enter Try.func23, Try.ntmps23
      go_wp2
      go_ret
      exact ⟨rfl, FRow.bnew w _⟩
    · rw [if_neg h2]
      have e2 : (k == 2) = false := by simpa using h2
      by_cases h3 : k = 3
      · rw [if_pos h3]
        subst h3
        go_enter Try.func23, Try.ntmps23
        go_wp2
        go_ret
        exact ⟨rfl, FRow.bnew w _⟩
      · rw [if_neg h3]
        have e3 : (k == 3) = false := by simpa using h3
        by_cases h4 : k = 4
        · rw [if_pos h4]
          subst h4
          go_enter Try.func23, Try.ntmps23
          go_wp2
          go_ret
          exact ⟨rfl, FRow.bnew w _⟩
        · rw [if_neg h4]
          have e4 : (k == 4) = false := by simpa using h4
          by_cases h5 : k = 5
          · rw [if_pos h5]
            subst h5
            go_enter Try.func23, Try.ntmps23
            go_wp2
            go_ret
            exact ⟨rfl, FRow.bnew w _⟩
          · rw [if_neg h5]
            have e5 : (k == 5) = false := by simpa using h5
            go_enter Try.func23, Try.ntmps23
            go_wp2
            go_ret
            exact ⟨rfl, FRow.bnew w _⟩
def strB (k : Int) (bt bl bf br : Bool) : Bool := (bt && k != 1) || (bl && k != 2 && k != 4) || (bf && k != 3) || (br && k != 5)
theorem stray_eq (x : Vl) : stray x = strB x.kind (x.text != []) (x.list != []) (x.fields != []) (x.ranked != []) := rfl
theorem nil_len {α : Type} [BEq α] [LawfulBEq α] (l : List α) : (l != []) = decide (0 < l.length) := by cases l <;> simp
end Go.Proofs.Ytdcnkdkhanmklab.Check0
