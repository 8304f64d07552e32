/- What is read of a text is one alone. -/
import Derived.Test.YtighoelipihifabGreatDoorTextMath
namespace Go.Proofs.YtighoelipihifabGreatDoor.ParsedM
open Go.Proofs.YtighoelipihifabGreatDoor.TextMath
theorem none_of {l : List UInt8} {n e : Int} (h : Parsed l n e) (hn : ∀ m, textB m l = false) : n = 0 ∧ e = 10 := parsed_unique h (.inr ⟨hn, rfl, rfl⟩)
theorem some_of {l : List UInt8} {n e v : Int} (h : Parsed l n e) (hv : textB v l = true) : n = v ∧ e = 0 := parsed_unique h (.inl ⟨hv, rfl⟩)
end Go.Proofs.YtighoelipihifabGreatDoor.ParsedM
