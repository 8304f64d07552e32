/-
  GlobQuotes holds at every two texts: a quoted text is what its pattern alone means, and Plain gives it back. No condition.
-/
import Derived.Test.YtaglcpjjekaohaaTexts
import Derived.WalkKit
import Derived.ProofKit
import Derived.OpenShut
import Derived.ShutString
namespace Go.Proofs.Ytaglcpjjekaohaa.globQuotes
open Go.ChangeShapes Go.WideShapes Go.ChangeAt Go.RowKit
open Go.ChangeMaps (open_string shut_string)
set_option linter.unusedVariables false

open Go.Proofs.Ytaglcpjjekaohaa.Math
open Go.Proofs.Ytaglcpjjekaohaa.Class
open Go.Proofs.Ytaglcpjjekaohaa.Match
open Go.Proofs.Ytaglcpjjekaohaa.QuoteMath
open Go.Proofs.Ytaglcpjjekaohaa.Quote
open Go.Proofs.Ytaglcpjjekaohaa.LawMath
open Go.Proofs.Ytaglcpjjekaohaa.Sure
open Go.Proofs.Ytaglcpjjekaohaa.Texts
theorem own : ownKnob Try.prog.godebug = none := by kernel_rfl

theorem long_walk (a0 a1 : ByteArray) (w0 : a0.size ≤ 9223372036854775807) (w1 : a1.size ≤ 9223372036854775807) (h : 4000 < a0.size ∨ (a0.size ≤ 4000 ∧ 4000 < a1.size)) (w : World) :
    Calls Try.prog 6 #[.string a0, .string a1] w fun e w' => e = .returned (.bool true) ∧ Below w.heap.size w w' := by
  rcases h with h | ⟨h0, h⟩
  all_goals
    go_enter Try.func6, Try.ntmps6
    go_wp2_with fail
    refine (sure_any _).mono ?_
    rintro e v1 ⟨rfl, b1⟩
    go_wp2
    go_ret
    exact ⟨rfl, b1⟩
theorem same_or (a b : ByteArray) : ((a.toList == b.toList) = true ∧ bs b = bs a) ∨ ((a.toList == b.toList) = false ∧ bs b ≠ bs a) := by
  rw [list_bs, list_bs]
  by_cases h : bs b = bs a
  · exact Or.inl ⟨by rw [h]; simp, h⟩
  · exact Or.inr ⟨by rw [beq_eq_false_iff_ne]; exact fun x => h x.symm, h⟩
set_option maxHeartbeats 1000000 in
theorem short_walk (a0 a1 : ByteArray) (h0 : a0.size ≤ 4000) (h1 : a1.size ≤ 4000) (w : World) :
    Calls Try.prog 6 #[.string a0, .string a1] w fun e w' => e = .returned (.bool true) ∧ Below w.heap.size w w' := by
  obtain ⟨q, hq, hqs, HQ⟩ := quoted_of a0 h0
  have HP : Hid (∀ w, Calls Try.prog 14 #[.string q] w fun e w' => e = .returned (.tuple #[.string a0, .bool true]) ∧ Below w.heap.size w w') := by
    intro w
    have := plain_any q w (by omega)
    have e1 : pS (bs q) = a0 := by unfold pS; rw [hq, plain_quote]; exact mk_bs a0
    have e2 : pB (bs q) = true := by unfold pB; rw [hq, plain_quote]; rfl
    rwa [e1, e2] at this
  have H1 := matched q a0 (by omega) (by omega) (T := true) (by rw [hq]; exact (M_quote_only _ _).2 rfl)
  obtain ⟨T, ht, H2⟩ : ∃ T, (a0.toList == a1.toList) = T ∧ Hid (∀ w, Calls Try.prog 10 #[.string q, .string a1] w fun e w' => e = .returned (.bool T) ∧ ∃ m, w' = w.drewN m) := by
    rcases same_or a0 a1 with ⟨h, e⟩ | ⟨h, e⟩
    · exact ⟨true, h, matched q a1 (by omega) (by omega) (by rw [hq]; exact (M_quote_only _ _).2 e)⟩
    · exact ⟨false, h, matched q a1 (by omega) (by omega) (by rw [hq, ← Bool.not_eq_true]; exact fun x => e ((M_quote_only _ _).1 x))⟩
  clear hq
  cases T
  all_goals
    go_enter Try.func6, Try.ntmps6
    go_wp2_with fail
    refine (HQ.out _).mono ?_
    rintro e v1 ⟨rfl, b1⟩
    go_wp2_with fail
    refine (HP.out _).mono ?_
    rintro e v2 ⟨rfl, b2⟩
    go_wp2_with fail
    refine (H1.out _).mono ?_
    rintro e v3 ⟨rfl, m3, rfl⟩
    go_wp2_with fail
    refine (H2.out _).mono ?_
    rintro e v4 ⟨rfl, m4, rfl⟩
    go_wp2_with fail
    refine (sure_any _).mono ?_
    rintro e v5 ⟨rfl, b5⟩
    go_wp2
    go_ret
    exact ⟨rfl, below_go (below_drewN (below_go b1 b2) _) b5⟩
theorem walk (a0 : ByteArray) (a1 : ByteArray) (w0 : a0.size ≤ maxLen) (w1 : a1.size ≤ maxLen) (w : World) :
    Calls Try.prog 6 #[.string a0, .string a1] w fun e w' => e = .returned (.bool true) ∧ Below w.heap.size w w' := by
  unfold maxLen at w0 w1
  by_cases h : 4000 < a0.size ∨ (a0.size ≤ 4000 ∧ 4000 < a1.size)
  · exact long_walk a0 a1 w0 w1 h w
  · exact short_walk a0 a1 (by omega) (by omega) w

/-! ### the row's step -/
set_option maxRecDepth 100000 in
theorem lifted (os : Os) (started : os.Started) (H : Type) (enc : TypeId × Value → H) :
    ReturnsInHanded {} Try.checked os 6 .any (Rows.globQuotesSpec.pre6 enc Try.prog Try.f6 Rows.globQuotesRow.domain false) (Rows.globQuotesSpec.post enc Try.prog Try.f6 false true false false) := by
  refine returnsInHanded_of_change (C := Try.checked) own started (by kernel_rfl) Try.func6
    (ChangeSpec.witness6 (enc := enc) (C := Try.checked) false ⟨#[], #[.string ByteArray.empty, .string ByteArray.empty], []⟩ 8 (by kernel_rfl) (by kernel_rfl) (by kernel_rfl) (by kernel_rfl)) ?_
  intro W base args ds gs before hval0 hW hcnd _
  have hval : ∀ (j : Nat) t v, Try.f6.params[j]? = some t → args[j]? = some v → Value.okWide Try.prog W .any base t v := hval0
  have hW' := hW
  obtain ⟨p, q, hA0, hV, rfl, hfz, hnd⟩ := hW
  have hA : DataW.TrodAll enc Try.prog W 0 (fun _ => true) true Try.f6.params.toList args.toList ds p := hA0
  rw [Try.params6] at hA hval
  obtain ⟨v0, vs0, d0, ds0, p0, q0, hargs, rfl, rfl, h0, r0⟩ := trodAll_cons hA
  obtain ⟨v1, vs1, d1, ds1, p1, q1, rfl, rfl, rfl, h1, r1⟩ := trodAll_cons r0
  obtain ⟨rfl, rfl, rfl⟩ := trodAll_nil r1
  obtain rfl : args = #[v0, v1] := by cases args; simp_all
  obtain ⟨rfl, rfl⟩ := trodVars_none hV
  obtain ⟨a0, rfl, rfl, rfl, w0⟩ := open_string Try.underlying9 (hval 0 9 v0 rfl rfl) h0
  obtain ⟨a1, rfl, rfl, rfl, w1⟩ := open_string Try.underlying9 (hval 1 9 v1 rfl rfl) h1
  clear hA0 hval0
  refine (walk a0 a1 w0 w1 W).mono fun e W' ⟨he, bel⟩ => ?_
  subst he
  exact ⟨_, rfl, _, _, _, [], _, [], hW', trodAll_mk1 (shut_bool Try.underlying4 _), (trodAll_cons_mk (shut_string Try.underlying9 w0) (trodAll_cons_mk (shut_string Try.underlying9 w1) trodAll_mk0)), rfl, bel.frame _, fun h => by cases h⟩

theorem over : Rows.globQuotesRow.holds Try.pinned (OpenSpec.ofChange Rows.globQuotesSpec) :=
  OpenClaim.holds_of_wide 6 Try.f6 rfl rfl rfl rfl rfl rfl rfl ⟨rfl, rfl, rfl, rfl, rfl⟩ rfl rfl rfl rfl rfl (by kernel_rfl) Try.func6 (by kernel_rfl)
    (of_decide_eq_true (by kernel_rfl)) (by unfold Func.isWrapper; first | (rw [if_pos (by decide +kernel)]; kernel_rfl) | (rw [if_neg (by decide +kernel)]; exact ⟨rfl, rfl⟩))
    (fun os started H enc _ => lifted os started H enc)

theorem proved : Rows.GlobQuotesSaid :=
  over
#print axioms proved
end Go.Proofs.Ytaglcpjjekaohaa.globQuotes
namespace Go.Proofs.Ytaglcpjjekaohaa
theorem globQuotes_holds : Rows.GlobQuotesSaid := globQuotes.proved
end Go.Proofs.Ytaglcpjjekaohaa
