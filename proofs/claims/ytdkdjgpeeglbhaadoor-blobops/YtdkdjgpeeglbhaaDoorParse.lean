/- What strconv.Atoi tells; the errors and tables that are laid. -/
import Derived.Test.YtdkdjgpeeglbhaaDoorRefBelow
import Derived.Test.YtdkdjgpeeglbhaaDoorLaid
import Derived.Lib.AtoiAllCases
import Derived.Lib.ConvBytes
namespace Go.Proofs.YtdkdjgpeeglbhaaDoor.Parse
open Go.RowKit
open Go.Lib (decDigits itoa)
open Go.Proofs.YtdkdjgpeeglbhaaDoor.TextMath
open Go.Proofs.YtdkdjgpeeglbhaaDoor.Print
open Go.Proofs.YtdkdjgpeeglbhaaDoor.RefParse
set_option linter.unusedVariables false
set_option linter.unusedSimpArgs false

theorem row_below (w : World) (s : ByteArray) : Below w.heap.size w (Lib.bytesWorld w 5 s) := by
  refine ⟨?_, ?_, ?_, ?_, ?_⟩
  · unfold Lib.bytesWorld World.freeze; rfl
  · unfold Lib.bytesWorld World.freeze; rfl
  · unfold Lib.bytesWorld World.freeze; rfl
  · rw [Lib.bytesWorld_size]; omega
  · intro k hk; exact Lib.bytesWorld_at_old w 5 s k hk
theorem atoi_ok (s : ByteArray) (hs : s.size ≤ 140737488351232) (v : Int) (h : Lib.atoiAll s.data.toList = .ok v) (w : World) :
    Calls Tryd.prog 38 #[.string s] w fun e w' => e = .returned (.tuple #[.int .i64 v, .nilIface]) ∧ Below w.heap.size w w' :=
  (Tryd.strconv_Atoi_ok s (by omega) v h w).mono fun e w' ⟨h1, h2⟩ => ⟨h1, by
    rcases h2 with rfl | ⟨t, rfl⟩
    · exact Below.refl _ _
    · exact row_below w t⟩

/-- what the row's list gives: the table, and the two errors -/
structure Has (w : World) : Prop where
  tab : Tab w
  syn : ∃ tp p, w.var? Tryd.prog "strconv.ErrSyntax" = some #[.iface tp p]
  rng : ∃ tp p, w.var? Tryd.prog "strconv.ErrRange" = some #[.iface tp p]
theorem var_lt {w : World} {n : String} {g : Nat} {cs : Array Value} (hg : Tryd.prog.globalNamed n = some g) (h : w.var? Tryd.prog n = some cs) : g < w.heap.size := by
  unfold World.var? at h
  rw [hg] at h
  simp only [Option.bind_some] at h
  rcases Nat.lt_or_ge g w.heap.size with q | q
  · exact q
  · rw [Array.getElem?_eq_none q] at h; simp at h
theorem Has.later {w w' : World} (h : Has w) (hb : Below w.heap.size w w') : Has w' := by
  obtain ⟨h1, ⟨tp, p, h2⟩, ⟨tq, q, h3⟩⟩ := h
  exact ⟨var?_below hb Laid.gPow (var_lt Laid.gPow h1) h1, ⟨tp, p, var?_below hb Laid.gSyn (var_lt Laid.gSyn h2) h2⟩, ⟨tq, q, var?_below hb Laid.gRng (var_lt Laid.gRng h3) h3⟩⟩

theorem parsed_ex (l : List UInt8) : ∃ n e, Parsed l n e := by
  by_cases h : ∃ m, textB m l = true
  · obtain ⟨m, h⟩ := h
    exact ⟨m, 0, .inl ⟨h, rfl⟩⟩
  · refine ⟨0, 10, .inr ⟨fun m => ?_, rfl, rfl⟩⟩
    cases e : textB m l
    · rfl
    · exact absurd ⟨m, e⟩ h
end Go.Proofs.YtdkdjgpeeglbhaaDoor.Parse
