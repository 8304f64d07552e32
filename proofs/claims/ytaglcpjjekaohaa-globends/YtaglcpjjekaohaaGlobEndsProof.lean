/-
  GlobEnds holds at every three texts: a star between two quoted texts means the texts that begin with the one, end with the other and have room for both. No condition.
-/
import Derived.Test.YtaglcpjjekaohaaTexts
import Derived.WalkKit
import Derived.ProofKit
import Derived.OpenShut
import Derived.ShutString
namespace Go.Proofs.Ytaglcpjjekaohaa.globEnds
open Go.ChangeShapes Go.WideShapes Go.ChangeAt Go.RowKit
open Go.ChangeMaps (open_string shut_string)
set_option linter.unusedVariables false

open Go.Proofs.Ytaglcpjjekaohaa.Math
open Go.Proofs.Ytaglcpjjekaohaa.Class
open Go.Proofs.Ytaglcpjjekaohaa.Match
open Go.Proofs.Ytaglcpjjekaohaa.QuoteMath
open Go.Proofs.Ytaglcpjjekaohaa.Quote
open Go.Proofs.Ytaglcpjjekaohaa.LawMath
open Go.Proofs.Ytaglcpjjekaohaa.Sure
open Go.Proofs.Ytaglcpjjekaohaa.Texts
theorem own : ownKnob Try.prog.godebug = none := by kernel_rfl

theorem long_walk (a0 a1 a2 : ByteArray) (w0 : a0.size ≤ 9223372036854775807) (w1 : a1.size ≤ 9223372036854775807) (w2 : a2.size ≤ 9223372036854775807) (h : 4000 < a0.size ∨ (a0.size ≤ 4000 ∧ 4000 < a1.size) ∨ (a0.size ≤ 4000 ∧ a1.size ≤ 4000 ∧ 4000 < a2.size)) (w : World) :
    Calls Try.prog 7 #[.string a0, .string a1, .string a2] w fun e w' => e = .returned (.bool true) ∧ Below w.heap.size w w' := by
  rcases h with h | ⟨h0, h⟩ | ⟨h0, h1, h⟩
  all_goals
    go_enter Try.func7, Try.ntmps7
    go_wp2_with fail
    refine (sure_any _).mono ?_
    rintro e v1 ⟨rfl, b1⟩
    go_wp2
    go_ret
    exact ⟨rfl, b1⟩
theorem slice_to (s : ByteArray) (n : Nat) (h : n ≤ s.size) : ∃ t : ByteArray, bs t = (bs s).take n ∧ ∀ w, (Instr.slice 9 (.string s) none (some (.int .i64 (n : Int))) none).run Try.prog w = .ok (.string t) w := by
  refine ⟨s.extract 0 n, ?_, fun w => ?_⟩
  · unfold bs; simp [List.extract_eq_take_drop]
  · rw [run_slice_string_to_if (P := Try.prog) (w := w) 9 s .i64 (n : Int) Try.underlying9, if_pos ⟨by omega, by omega⟩]
    rfl
theorem slice_from (s : ByteArray) (n : Nat) (x : Int) (hx : x = (n : Int)) (h : n ≤ s.size) : ∃ t : ByteArray, bs t = (bs s).drop n ∧ ∀ w, (Instr.slice 9 (.string s) (some (.int .i64 x)) none none).run Try.prog w = .ok (.string t) w := by
  subst hx
  refine ⟨s.extract n s.size, ?_, fun w => ?_⟩
  · have h1 : (bs s).length = s.size := bs_len s
    have h2 : bs (s.extract n s.size) = ((bs s).drop n).take (s.size - n) := by unfold bs; simp [List.extract_eq_take_drop]
    rw [h2, List.take_of_length_le (by rw [List.length_drop, h1]; omega)]
  · rw [run_slice_string_from_if (P := Try.prog) (w := w) 9 s .i64 (n : Int) Try.underlying9, if_pos ⟨by omega, by omega⟩]
    rfl
theorem pattern_of (q r : ByteArray) (a b : List UInt8) (hq : bs q = quote a) (hr : bs r = quote b) : bs ((q ++ { data := #[42] }) ++ r) = quote a ++ 42 :: quote b := by
  rw [bs_append, bs_append, hq, hr]
  show (quote a ++ [42]) ++ quote b = _
  simp
theorem ends_of (a b s : ByteArray) : (∃ u, bs s = bs a ++ (u ++ bs b)) ↔ a.size + b.size ≤ s.size ∧ (bs s).take a.size = bs a ∧ (bs s).drop (s.size - b.size) = bs b := by
  rw [ends_iff, bs_len, bs_len, bs_len]
set_option maxHeartbeats 1000000 in
theorem core (a0 a1 a2 q r : ByteArray) (T : Bool) (h0 : a0.size ≤ 4000) (h1 : a1.size ≤ 4000) (h2 : a2.size ≤ 4000) (hqs : q.size ≤ 8000) (hrs : r.size ≤ 8000)
    (HQ : Hid (∀ w, Calls Try.prog 16 #[.string a0] w fun e w' => e = .returned (.string q) ∧ Below w.heap.size w w')) (HR : Hid (∀ w, Calls Try.prog 16 #[.string a1] w fun e w' => e = .returned (.string r) ∧ Below w.heap.size w w'))
    (HM : Hid (∀ w, Calls Try.prog 10 #[.string ((q ++ { data := #[42] }) ++ r), .string a2] w fun e w' => e = .returned (.bool T) ∧ ∃ m, w' = w.drewN m))
    (hT : (T = true ↔ a0.size + a1.size ≤ a2.size ∧ (bs a2).take a0.size = bs a0 ∧ (bs a2).drop (a2.size - a1.size) = bs a1)) (w : World) :
    Calls Try.prog 7 #[.string a0, .string a1, .string a2] w fun e w' => e = .returned (.bool true) ∧ Below w.heap.size w w' := by
  by_cases hle : a0.size + a1.size ≤ a2.size
  · obtain ⟨t, ht, hsl⟩ := slice_to a2 a0.size (by omega)
    obtain ⟨v, hv, hsr⟩ := slice_from a2 (a2.size - a1.size) ((a2.size : Int) - (a1.size : Int)) (by omega) (by omega)
    have hcase : ((t.toList == a0.toList) = false ∧ T = false) ∨ ((t.toList == a0.toList) = true ∧ (v.toList == a1.toList) = false ∧ T = false) ∨ ((t.toList == a0.toList) = true ∧ (v.toList == a1.toList) = true ∧ T = true) := by
      rw [list_bs, list_bs, list_bs, list_bs, ht, hv]
      by_cases c1 : (bs a2).take a0.size = bs a0
      · by_cases c2 : (bs a2).drop (a2.size - a1.size) = bs a1
        · exact Or.inr (Or.inr ⟨by rw [c1]; simp, by rw [c2]; simp, hT.2 ⟨hle, c1, c2⟩⟩)
        · exact Or.inr (Or.inl ⟨by rw [c1]; simp, by rw [beq_eq_false_iff_ne]; exact c2, by rw [← Bool.not_eq_true]; exact fun x => c2 (hT.1 x).2.2⟩)
      · exact Or.inl ⟨by rw [beq_eq_false_iff_ne]; exact c1, by rw [← Bool.not_eq_true]; exact fun x => c1 (hT.1 x).2.1⟩
    clear hT ht hv
    rcases hcase with ⟨c1, rfl⟩ | ⟨c1, c2, rfl⟩ | ⟨c1, c2, rfl⟩
    all_goals
      go_enter Try.func7, Try.ntmps7
      go_wp2_with fail
      refine (HQ.out _).mono ?_
      rintro e v1 ⟨rfl, b1⟩
      go_wp2_with fail
      refine (HR.out _).mono ?_
      rintro e v2 ⟨rfl, b2⟩
      go_wp2_with fail
      refine (HM.out _).mono ?_
      rintro e v3 ⟨rfl, m3, rfl⟩
      go_wp2_with fail
      refine (sure_any _).mono ?_
      rintro e v5 ⟨rfl, b5⟩
      go_wp2
      go_ret
      exact ⟨rfl, below_go (below_drewN (below_go b1 b2) _) b5⟩
  · have hF : T = false := by rw [← Bool.not_eq_true]; exact fun x => hle (hT.1 x).1
    clear hT
    subst hF
    go_enter Try.func7, Try.ntmps7
    go_wp2_with fail
    refine (HQ.out _).mono ?_
    rintro e v1 ⟨rfl, b1⟩
    go_wp2_with fail
    refine (HR.out _).mono ?_
    rintro e v2 ⟨rfl, b2⟩
    go_wp2_with fail
    refine (HM.out _).mono ?_
    rintro e v3 ⟨rfl, m3, rfl⟩
    go_wp2_with fail
    refine (sure_any _).mono ?_
    rintro e v5 ⟨rfl, b5⟩
    go_wp2
    go_ret
    exact ⟨rfl, below_go (below_drewN (below_go b1 b2) _) b5⟩
theorem short_walk (a0 a1 a2 : ByteArray) (h0 : a0.size ≤ 4000) (h1 : a1.size ≤ 4000) (h2 : a2.size ≤ 4000) (w : World) :
    Calls Try.prog 7 #[.string a0, .string a1, .string a2] w fun e w' => e = .returned (.bool true) ∧ Below w.heap.size w w' := by
  obtain ⟨q, hq, hqs, HQ⟩ := quoted_of a0 h0
  obtain ⟨r, hr, hrs, HR⟩ := quoted_of a1 h1
  have hp := pattern_of q r _ _ hq hr
  refine core a0 a1 a2 q r _ h0 h1 h2 hqs hrs HQ HR (matched _ a2 (by rw [ByteArray.size_append, ByteArray.size_append]; have : (ByteArray.mk #[42]).size = 1 := rfl; omega) (by omega) rfl) ?_ w
  rw [hp, M_ends, ends_of]
theorem walk (a0 : ByteArray) (a1 : ByteArray) (a2 : ByteArray) (w0 : a0.size ≤ maxLen) (w1 : a1.size ≤ maxLen) (w2 : a2.size ≤ maxLen) (w : World) :
    Calls Try.prog 7 #[.string a0, .string a1, .string a2] w fun e w' => e = .returned (.bool true) ∧ Below w.heap.size w w' := by
  unfold maxLen at w0 w1 w2
  by_cases h : 4000 < a0.size ∨ (a0.size ≤ 4000 ∧ 4000 < a1.size) ∨ (a0.size ≤ 4000 ∧ a1.size ≤ 4000 ∧ 4000 < a2.size)
  · exact long_walk a0 a1 a2 w0 w1 w2 h w
  · exact short_walk a0 a1 a2 (by omega) (by omega) (by omega) w

/-! ### the row's step -/
set_option maxRecDepth 100000 in
theorem lifted (os : Os) (started : os.Started) (H : Type) (enc : TypeId × Value → H) :
    ReturnsInHanded {} Try.checked os 7 .any (Rows.globEndsSpec.pre6 enc Try.prog Try.f7 Rows.globEndsRow.domain false) (Rows.globEndsSpec.post enc Try.prog Try.f7 false true false false) := by
  refine returnsInHanded_of_change (C := Try.checked) own started (by kernel_rfl) Try.func7
    (ChangeSpec.witness6 (enc := enc) (C := Try.checked) false ⟨#[], #[.string ByteArray.empty, .string ByteArray.empty, .string ByteArray.empty], []⟩ 8 (by kernel_rfl) (by kernel_rfl) (by kernel_rfl) (by kernel_rfl)) ?_
  intro W base args ds gs before hval0 hW hcnd _
  have hval : ∀ (j : Nat) t v, Try.f7.params[j]? = some t → args[j]? = some v → Value.okWide Try.prog W .any base t v := hval0
  have hW' := hW
  obtain ⟨p, q, hA0, hV, rfl, hfz, hnd⟩ := hW
  have hA : DataW.TrodAll enc Try.prog W 0 (fun _ => true) true Try.f7.params.toList args.toList ds p := hA0
  rw [Try.params7] at hA hval
  obtain ⟨v0, vs0, d0, ds0, p0, q0, hargs, rfl, rfl, h0, r0⟩ := trodAll_cons hA
  obtain ⟨v1, vs1, d1, ds1, p1, q1, rfl, rfl, rfl, h1, r1⟩ := trodAll_cons r0
  obtain ⟨v2, vs2, d2, ds2, p2, q2, rfl, rfl, rfl, h2, r2⟩ := trodAll_cons r1
  obtain ⟨rfl, rfl, rfl⟩ := trodAll_nil r2
  obtain rfl : args = #[v0, v1, v2] := by cases args; simp_all
  obtain ⟨rfl, rfl⟩ := trodVars_none hV
  obtain ⟨a0, rfl, rfl, rfl, w0⟩ := open_string Try.underlying9 (hval 0 9 v0 rfl rfl) h0
  obtain ⟨a1, rfl, rfl, rfl, w1⟩ := open_string Try.underlying9 (hval 1 9 v1 rfl rfl) h1
  obtain ⟨a2, rfl, rfl, rfl, w2⟩ := open_string Try.underlying9 (hval 2 9 v2 rfl rfl) h2
  clear hA0 hval0
  refine (walk a0 a1 a2 w0 w1 w2 W).mono fun e W' ⟨he, bel⟩ => ?_
  subst he
  exact ⟨_, rfl, _, _, _, [], _, [], hW', trodAll_mk1 (shut_bool Try.underlying4 _), (trodAll_cons_mk (shut_string Try.underlying9 w0) (trodAll_cons_mk (shut_string Try.underlying9 w1) (trodAll_cons_mk (shut_string Try.underlying9 w2) trodAll_mk0))), rfl, bel.frame _, fun h => by cases h⟩

theorem over : Rows.globEndsRow.holds Try.pinned (OpenSpec.ofChange Rows.globEndsSpec) :=
  OpenClaim.holds_of_wide 7 Try.f7 rfl rfl rfl rfl rfl rfl rfl ⟨rfl, rfl, rfl, rfl, rfl⟩ rfl rfl rfl rfl rfl (by kernel_rfl) Try.func7 (by kernel_rfl)
    (of_decide_eq_true (by kernel_rfl)) (by unfold Func.isWrapper; first | (rw [if_pos (by decide +kernel)]; kernel_rfl) | (rw [if_neg (by decide +kernel)]; exact ⟨rfl, rfl⟩))
    (fun os started H enc _ => lifted os started H enc)

theorem proved : Rows.GlobEndsSaid :=
  over
#print axioms proved
end Go.Proofs.Ytaglcpjjekaohaa.globEnds
namespace Go.Proofs.Ytaglcpjjekaohaa
theorem globEnds_holds : Rows.GlobEndsSaid := globEnds.proved
end Go.Proofs.Ytaglcpjjekaohaa
