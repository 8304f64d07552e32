/- Incr of the code and of the document. -/
import Derived.Test.YtpibeabokedpdaaGreatDoorTextMathM
import Derived.Test.YtpibeabokedpdaaGreatDoorRefParseM
import Derived.OwnWalk
namespace Go.Proofs.YtpibeabokedpdaaGreatDoor.BIncr
open Go.RowKit
open Go.Lib (decDigits itoa)
open Go.Proofs.YtpibeabokedpdaaGreatDoor.TextMath
open Go.Proofs.YtpibeabokedpdaaGreatDoor.Print
open Go.Proofs.YtpibeabokedpdaaGreatDoor.RefParse
open Go.Proofs.YtpibeabokedpdaaGreatDoor.RPrint
open Go.Proofs.YtpibeabokedpdaaGreatDoor.Parse
set_option linter.unusedVariables false
set_option linter.unusedSimpArgs false

theorem wrap_up {x : Int} (h0 : 9223372036854775807 < x) (h1 : x ≤ 18446744073709551614) : wrap64 x = x - 18446744073709551616 := by
  simp [wrap64]; omega
theorem wrap_down {x : Int} (h0 : x < -9223372036854775808) (h1 : -18446744073709551616 ≤ x) : wrap64 x = x + 18446744073709551616 := by
  simp [wrap64]; omega
theorem itoa_call (n : Int) (w : World) (h : InI n) (ht : Tab w) :
    Calls Tryz.prog 181 #[.int .i64 n] w fun e w' => e = .returned (.string ⟨(itoa n).toArray⟩) ∧ Below w.heap.size w w' :=
  (Tryz.strconv_Itoa n h.1 h.2 _ ht).mono fun e w' ⟨h1, k, os, h2⟩ => ⟨h1, by rw [h2]; exact below_grow w k os⟩
def T3 (s : ByteArray) (n e : Int) : Ending := .returned (.tuple #[.string s, .int .i64 n, .int .i64 e])
theorem neq_of {s : ByteArray} {v : Int} {b : Bool} (h : (itoa v == s.toList) = b) : (itoa v != s.toList) = !b := by rw [bne, h]
def Told (l : List UInt8) (d : Int) (s : ByteArray) (n e : Int) : Prop :=
  (∃ v, textB v l = true ∧ InI (v + d) ∧ s = ⟨(itoa (v + d)).toArray⟩ ∧ n = v + d ∧ e = 0) ∨
  (∃ v, textB v l = true ∧ ¬ InI (v + d) ∧ s = ByteArray.empty ∧ n = 0 ∧ e = 11) ∨
  ((∀ v, textB v l = false) ∧ s = ByteArray.empty ∧ n = 0 ∧ e = 10)
theorem told_ex (l : List UInt8) (d : Int) : ∃ s n e, Told l d s n e := by
  by_cases h : ∃ m, textB m l = true
  · obtain ⟨m, h⟩ := h
    by_cases q : InI (m + d)
    · exact ⟨_, _, _, .inl ⟨m, h, q, rfl, rfl, rfl⟩⟩
    · exact ⟨_, _, _, .inr (.inl ⟨m, h, q, rfl, rfl, rfl⟩)⟩
  · refine ⟨_, _, _, .inr (.inr ⟨fun m => ?_, rfl, rfl, rfl⟩)⟩
    cases e : textB m l
    · rfl
    · exact absurd ⟨m, e⟩ h
theorem Told.bd {l : List UInt8} {d : Int} {s : ByteArray} {n e : Int} (h : Told l d s n e) : 0 ≤ e ∧ e ≤ 11 ∧ InI n := by
  rcases h with ⟨v, _, h, _, rfl, rfl⟩ | ⟨v, _, _, _, rfl, rfl⟩ | ⟨_, _, rfl, rfl⟩
  · exact ⟨by omega, by omega, h⟩
  · exact ⟨by omega, by omega, by unfold InI; omega⟩
  · exact ⟨by omega, by omega, by unfold InI; omega⟩
theorem atoi_text {v : Int} {l : List UInt8} (h : textB v l = true) : InI v ∧ Lib.atoiAll l = .ok v ∧ itoa v = l := by
  have q := (text_iff _ _).1 h
  refine ⟨q.1, ?_, q.2⟩
  have := atoi_itoa v q.1
  rwa [q.2] at this
end Go.Proofs.YtpibeabokedpdaaGreatDoor.BIncr
