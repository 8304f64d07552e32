/-
  GlobStars holds at every pattern and every two texts: a star ahead of a pattern, or behind a quoted text, takes nothing away. No condition.
-/
import Derived.Test.YtaglcpjjekaohabTexts
import Derived.WalkKit
import Derived.ProofKit
import Derived.OpenShut
import Derived.ShutString
namespace Go.Proofs.Ytaglcpjjekaohab.globStars
open Go.ChangeShapes Go.WideShapes Go.ChangeAt Go.RowKit
open Go.ChangeMaps (open_string shut_string)
set_option linter.unusedVariables false

open Go.Proofs.Ytaglcpjjekaohab.Math
open Go.Proofs.Ytaglcpjjekaohab.Class
open Go.Proofs.Ytaglcpjjekaohab.Match
open Go.Proofs.Ytaglcpjjekaohab.QuoteMath
open Go.Proofs.Ytaglcpjjekaohab.Quote
open Go.Proofs.Ytaglcpjjekaohab.LawMath
open Go.Proofs.Ytaglcpjjekaohab.Sure
open Go.Proofs.Ytaglcpjjekaohab.Texts
theorem own : ownKnob Try.prog.godebug = none := by kernel_rfl

theorem long_walk (a0 a1 a2 : ByteArray) (w0 : a0.size ≤ 9223372036854775807) (w1 : a1.size ≤ 9223372036854775807) (w2 : a2.size ≤ 9223372036854775807) (h : 4000 < a0.size ∨ (a0.size ≤ 4000 ∧ 4000 < a1.size) ∨ (a0.size ≤ 4000 ∧ a1.size ≤ 4000 ∧ 4000 < a2.size)) (w : World) :
    Calls Try.prog 3 #[.string a0, .string a1, .string a2] w fun e w' => e = .returned (.bool true) ∧ Below w.heap.size w w' := by
  rcases h with h | ⟨h0, h⟩ | ⟨h0, h1, h⟩
  all_goals
    go_enter Try.func3, Try.ntmps3
    go_wp2_with fail
    refine (sure_any _).mono ?_
    rintro e v1 ⟨rfl, b1⟩
    go_wp2
    go_ret
    exact ⟨rfl, b1⟩
theorem one_star : (ByteArray.mk #[42]).size = 1 := rfl
theorem star_bs (a : ByteArray) : bs ({ data := #[42] } ++ a) = 42 :: bs a := by rw [bs_append]; rfl
set_option maxHeartbeats 1000000 in
theorem short_walk (a0 a1 a2 : ByteArray) (h0 : a0.size ≤ 4000) (h1 : a1.size ≤ 4000) (h2 : a2.size ≤ 4000) (w : World) :
    Calls Try.prog 3 #[.string a0, .string a1, .string a2] w fun e w' => e = .returned (.bool true) ∧ Below w.heap.size w w' := by
  obtain ⟨q, hq, hqs, HQ⟩ := quoted_of a1 h1
  have hs1 := one_star
  have H4 := matched (q ++ { data := #[42] }) (a1 ++ a2) (by rw [ByteArray.size_append]; omega) (by rw [ByteArray.size_append]; omega) (T := true) (by rw [bs_append, bs_append, hq]; exact quote_more _ _)
  have H5 := matched { data := #[42, 42] } a2 (by decide) (by omega) (T := true) (M_all2 _)
  clear hq
  cases hT : M (bs a0) (bs a1) with
  | false =>
    have H1 := matched a0 a1 (by omega) (by omega) hT
    clear hT hs1
    go_enter Try.func3, Try.ntmps3
    go_wp2_with fail
    refine (H1.out _).mono ?_
    rintro e v1 ⟨rfl, m1, rfl⟩
    go_wp2_with fail
    refine (HQ.out _).mono ?_
    rintro e v2 ⟨rfl, b2⟩
    go_wp2_with fail
    refine (H4.out _).mono ?_
    rintro e v3 ⟨rfl, m3, rfl⟩
    go_wp2_with fail
    refine (H5.out _).mono ?_
    rintro e v4 ⟨rfl, m4, rfl⟩
    go_wp2_with fail
    refine (sure_any _).mono ?_
    rintro e v5 ⟨rfl, b5⟩
    go_wp2
    go_ret
    exact ⟨rfl, below_go (below_drewN (below_go (below_drewN (Below.refl _ _) _) b2) _) b5⟩
  | true =>
    have H1 := matched a0 a1 (by omega) (by omega) hT
    have H2 := matched ({ data := #[42] } ++ a0) a1 (by rw [ByteArray.size_append]; omega) (by omega) (T := true) (by rw [star_bs]; exact star_more [] hT)
    have H3 := matched ({ data := #[42] } ++ a0) (a2 ++ a1) (by rw [ByteArray.size_append]; omega) (by rw [ByteArray.size_append]; omega) (T := true) (by rw [star_bs, bs_append]; exact star_more _ hT)
    clear hT hs1
    go_enter Try.func3, Try.ntmps3
    go_wp2_with fail
    refine (H1.out _).mono ?_
    rintro e v1 ⟨rfl, m1, rfl⟩
    go_wp2_with fail
    refine (H2.out _).mono ?_
    rintro e v2 ⟨rfl, m2, rfl⟩
    go_wp2_with fail
    refine (H3.out _).mono ?_
    rintro e v3 ⟨rfl, m3, rfl⟩
    go_wp2_with fail
    refine (HQ.out _).mono ?_
    rintro e v4 ⟨rfl, b4⟩
    go_wp2_with fail
    refine (H4.out _).mono ?_
    rintro e v5 ⟨rfl, m5, rfl⟩
    go_wp2_with fail
    refine (H5.out _).mono ?_
    rintro e v6 ⟨rfl, m6, rfl⟩
    go_wp2_with fail
    refine (sure_any _).mono ?_
    rintro e v7 ⟨rfl, b7⟩
    go_wp2
    go_ret
    exact ⟨rfl, below_go (below_drewN (below_go (below_drewN (Below.refl _ _) _) b4) _) b7⟩
theorem walk (a0 : ByteArray) (a1 : ByteArray) (a2 : ByteArray) (w0 : a0.size ≤ maxLen) (w1 : a1.size ≤ maxLen) (w2 : a2.size ≤ maxLen) (w : World) :
    Calls Try.prog 3 #[.string a0, .string a1, .string a2] w fun e w' => e = .returned (.bool true) ∧ Below w.heap.size w w' := by
  unfold maxLen at w0 w1 w2
  by_cases h : 4000 < a0.size ∨ (a0.size ≤ 4000 ∧ 4000 < a1.size) ∨ (a0.size ≤ 4000 ∧ a1.size ≤ 4000 ∧ 4000 < a2.size)
  · exact long_walk a0 a1 a2 w0 w1 w2 h w
  · exact short_walk a0 a1 a2 (by omega) (by omega) (by omega) w

/-! ### the row's step -/
set_option maxRecDepth 100000 in
theorem lifted (os : Os) (started : os.Started) (H : Type) (enc : TypeId × Value → H) :
    ReturnsInHanded {} Try.checked os 3 .any (Rows.globStarsSpec.pre6 enc Try.prog Try.f3 Rows.globStarsRow.domain false) (Rows.globStarsSpec.post enc Try.prog Try.f3 false true false false) := by
  refine returnsInHanded_of_change (C := Try.checked) own started (by kernel_rfl) Try.func3
    (ChangeSpec.witness6 (enc := enc) (C := Try.checked) false ⟨#[], #[.string ByteArray.empty, .string ByteArray.empty, .string ByteArray.empty], []⟩ 8 (by kernel_rfl) (by kernel_rfl) (by kernel_rfl) (by kernel_rfl)) ?_
  intro W base args ds gs before hval0 hW hcnd _
  have hval : ∀ (j : Nat) t v, Try.f3.params[j]? = some t → args[j]? = some v → Value.okWide Try.prog W .any base t v := hval0
  have hW' := hW
  obtain ⟨p, q, hA0, hV, rfl, hfz, hnd⟩ := hW
  have hA : DataW.TrodAll enc Try.prog W 0 (fun _ => true) true Try.f3.params.toList args.toList ds p := hA0
  rw [Try.params3] at hA hval
  obtain ⟨v0, vs0, d0, ds0, p0, q0, hargs, rfl, rfl, h0, r0⟩ := trodAll_cons hA
  obtain ⟨v1, vs1, d1, ds1, p1, q1, rfl, rfl, rfl, h1, r1⟩ := trodAll_cons r0
  obtain ⟨v2, vs2, d2, ds2, p2, q2, rfl, rfl, rfl, h2, r2⟩ := trodAll_cons r1
  obtain ⟨rfl, rfl, rfl⟩ := trodAll_nil r2
  obtain rfl : args = #[v0, v1, v2] := by cases args; simp_all
  obtain ⟨rfl, rfl⟩ := trodVars_none hV
  obtain ⟨a0, rfl, rfl, rfl, w0⟩ := open_string Try.underlying9 (hval 0 9 v0 rfl rfl) h0
  obtain ⟨a1, rfl, rfl, rfl, w1⟩ := open_string Try.underlying9 (hval 1 9 v1 rfl rfl) h1
  obtain ⟨a2, rfl, rfl, rfl, w2⟩ := open_string Try.underlying9 (hval 2 9 v2 rfl rfl) h2
  clear hA0 hval0
  refine (walk a0 a1 a2 w0 w1 w2 W).mono fun e W' ⟨he, bel⟩ => ?_
  subst he
  exact ⟨_, rfl, _, _, _, [], _, [], hW', trodAll_mk1 (shut_bool Try.underlying4 _), (trodAll_cons_mk (shut_string Try.underlying9 w0) (trodAll_cons_mk (shut_string Try.underlying9 w1) (trodAll_cons_mk (shut_string Try.underlying9 w2) trodAll_mk0))), rfl, bel.frame _, fun h => by cases h⟩

theorem over : Rows.globStarsRow.holds Try.pinned (OpenSpec.ofChange Rows.globStarsSpec) :=
  OpenClaim.holds_of_wide 3 Try.f3 rfl rfl rfl rfl rfl rfl rfl ⟨rfl, rfl, rfl, rfl, rfl⟩ rfl rfl rfl rfl rfl (by kernel_rfl) Try.func3 (by kernel_rfl)
    (of_decide_eq_true (by kernel_rfl)) (by unfold Func.isWrapper; first | (rw [if_pos (by decide +kernel)]; kernel_rfl) | (rw [if_neg (by decide +kernel)]; exact ⟨rfl, rfl⟩))
    (fun os started H enc _ => lifted os started H enc)

theorem proved : Rows.GlobStarsSaid :=
  over
#print axioms proved
end Go.Proofs.Ytaglcpjjekaohab.globStars
namespace Go.Proofs.Ytaglcpjjekaohab
theorem globStars_holds : Rows.GlobStarsSaid := globStars.proved
end Go.Proofs.Ytaglcpjjekaohab
