/- Texts as lists of bytes, for the laws' walks. -/
import Derived.Test.YtaglcpjjekaohaaLawMath
import Derived.Test.YtaglcpjjekaohaaSure
namespace Go.Proofs.Ytaglcpjjekaohaa.Texts
open Go.RowKit
open Go.Proofs.Ytaglcpjjekaohaa.Math
open Go.Proofs.Ytaglcpjjekaohaa.Class
open Go.Proofs.Ytaglcpjjekaohaa.Match
open Go.Proofs.Ytaglcpjjekaohaa.QuoteMath
open Go.Proofs.Ytaglcpjjekaohaa.Quote
open Go.Proofs.Ytaglcpjjekaohaa.LawMath
set_option linter.unusedVariables false

theorem bs_mk (l : List UInt8) : bs ⟨l.toArray⟩ = l := rfl
theorem mk_bs (s : ByteArray) : (⟨(bs s).toArray⟩ : ByteArray) = s := by unfold bs; simp
theorem size_bs (s : ByteArray) : s.size = (bs s).length := (bs_len s).symm
theorem bs_append (a b : ByteArray) : bs (a ++ b) = bs a ++ bs b := by unfold bs; simp
theorem list_bs (s : ByteArray) : s.toList = bs s := Lib.toList_data s
theorem quoted_of (s : ByteArray) (hs : s.size ≤ 4000) : ∃ q : ByteArray, bs q = quote (bs s) ∧ q.size ≤ 8000 ∧ Hid (∀ w, Calls Try.prog 16 #[.string s] w fun e w' => e = .returned (.string q) ∧ Below w.heap.size w w') := by
  refine ⟨⟨(quote (bs s)).toArray⟩, bs_mk _, ?_, fun w => quote_any s w (by omega)⟩
  rw [size_bs, bs_mk]
  have := quote_len (bs s)
  rw [bs_len] at this
  omega
theorem matched (p s : ByteArray) (hp : p.size ≤ 1000000000) (hs : s.size ≤ 1000000000) {T : Bool} (h : M (bs p) (bs s) = T) : Hid (∀ w, Calls Try.prog 10 #[.string p, .string s] w fun e w' => e = .returned (.bool T) ∧ ∃ m, w' = w.drewN m) := by
  intro w
  have := match_any p s w hp hs
  rwa [MM_all, h] at this
end Go.Proofs.Ytaglcpjjekaohaa.Texts
