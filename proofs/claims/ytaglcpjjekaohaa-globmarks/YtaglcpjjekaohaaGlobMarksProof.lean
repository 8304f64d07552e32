/-
  GlobMarks holds at every number and every text: so many question marks mean the texts of so many bytes, and with a star behind them those of no fewer. No condition.
-/
import Derived.Test.YtaglcpjjekaohaaTexts
import Derived.WalkKit
import Derived.ProofKit
import Derived.OpenShut
import Derived.ShutString
namespace Go.Proofs.Ytaglcpjjekaohaa.globMarks
open Go.ChangeShapes Go.WideShapes Go.ChangeAt Go.RowKit
open Go.ChangeMaps (open_string shut_string)
set_option linter.unusedVariables false

open Go.Proofs.Ytaglcpjjekaohaa.Math
open Go.Proofs.Ytaglcpjjekaohaa.Class
open Go.Proofs.Ytaglcpjjekaohaa.Match
open Go.Proofs.Ytaglcpjjekaohaa.Builder
open Go.Proofs.Ytaglcpjjekaohaa.QuoteMath
open Go.Proofs.Ytaglcpjjekaohaa.Quote
open Go.Proofs.Ytaglcpjjekaohaa.LawMath
open Go.Proofs.Ytaglcpjjekaohaa.Sure
open Go.Proofs.Ytaglcpjjekaohaa.Texts
theorem own : ownKnob Try.prog.godebug = none := by kernel_rfl

theorem long_walk (n : Int) (a1 : ByteArray) (w1 : a1.size ≤ 9223372036854775807) (h : 4000 < a1.size) (w : World) :
    Calls Try.prog 8 #[.int .i64 n, .string a1] w fun e w' => e = .returned (.bool true) ∧ Below w.heap.size w w' := by
  go_enter Try.func8, Try.ntmps8
  go_wp2_with fail
  refine (sure_any _).mono ?_
  rintro e v1 ⟨rfl, b1⟩
  go_wp2
  go_ret
  exact ⟨rfl, b1⟩
theorem told_by (P s : ByteArray) (n : Nat) (T1 T2 : Bool) (hP : bs P = List.replicate n 63) (h : P.size ≤ 1000) (hs : s.size ≤ 4000) (e1 : decide (s.size = n) = T1) (e2 : decide (n ≤ s.size) = T2) :
    Hid (∀ w, Calls Try.prog 10 #[.string P, .string s] w fun e w' => e = .returned (.bool T1) ∧ ∃ m, w' = w.drewN m) ∧ Hid (∀ w, Calls Try.prog 10 #[.string (P ++ { data := #[42] }), .string s] w fun e w' => e = .returned (.bool T2) ∧ ∃ m, w' = w.drewN m) := by
  refine ⟨matched P s (by omega) (by omega) ?_, matched _ s (by rw [ByteArray.size_append]; have : (ByteArray.mk #[42]).size = 1 := rfl; omega) (by omega) ?_⟩
  · rw [hP, marks_only, bs_len]; exact e1
  · have : bs (P ++ { data := #[42] }) = List.replicate n 63 ++ [42] := by rw [bs_append, hP]; rfl
    rw [this, marks_star, bs_len]; exact e2
/-- The three ways: as many bytes as marks, more, fewer. -/
theorem told (P s : ByteArray) (n : Nat) (hP : bs P = List.replicate n 63) (h : P.size ≤ 1000) (hs : s.size ≤ 4000) :
    (((s.size : Int) == (n : Int)) = true ∧ n ≤ s.size ∧ Hid (∀ w, Calls Try.prog 10 #[.string P, .string s] w fun e w' => e = .returned (.bool true) ∧ ∃ m, w' = w.drewN m) ∧ Hid (∀ w, Calls Try.prog 10 #[.string (P ++ { data := #[42] }), .string s] w fun e w' => e = .returned (.bool true) ∧ ∃ m, w' = w.drewN m)) ∨
    (((s.size : Int) == (n : Int)) = false ∧ n ≤ s.size ∧ Hid (∀ w, Calls Try.prog 10 #[.string P, .string s] w fun e w' => e = .returned (.bool false) ∧ ∃ m, w' = w.drewN m) ∧ Hid (∀ w, Calls Try.prog 10 #[.string (P ++ { data := #[42] }), .string s] w fun e w' => e = .returned (.bool true) ∧ ∃ m, w' = w.drewN m)) ∨
    (((s.size : Int) == (n : Int)) = false ∧ ¬ n ≤ s.size ∧ Hid (∀ w, Calls Try.prog 10 #[.string P, .string s] w fun e w' => e = .returned (.bool false) ∧ ∃ m, w' = w.drewN m) ∧ Hid (∀ w, Calls Try.prog 10 #[.string (P ++ { data := #[42] }), .string s] w fun e w' => e = .returned (.bool false) ∧ ∃ m, w' = w.drewN m)) := by
  by_cases c1 : s.size = n
  · exact Or.inl ⟨by rw [c1]; simp, by omega, told_by P s n true true hP h hs (by simp; exact c1) (by simp; omega)⟩
  · by_cases c2 : n ≤ s.size
    · exact Or.inr (Or.inl ⟨by rw [beq_eq_false_iff_ne]; omega, c2, told_by P s n false true hP h hs (by simp; exact c1) (by simp; omega)⟩)
    · exact Or.inr (Or.inr ⟨by rw [beq_eq_false_iff_ne]; omega, c2, told_by P s n false false hP h hs (by simp; exact c1) (by simp; omega)⟩)
theorem conv_own {w : World} {base n : Nat} {v : Value} (m : Nat) (h : w.ownsRow base 5 1 v n (List.replicate n (.int .u8 63))) : (convert 29 9 v).run Try.prog (w.drewN m) = .ok (.string ⟨(List.replicate n 63).toArray⟩) (w.drewN m) := by
  rcases h.2 with ⟨e, hn⟩ | ⟨g, cap, cur, e, _⟩
  · subst e; subst hn
    exact run_convert_bytes_nil (w.drewN m) 29 5 Try.underlying29 Try.underlying5 0 0 9 Try.underlying9
  · subst e
    have := run_convert_bytes_back (P := Try.prog) (w.drewN m) 29 9 5 ⟨g, 0, none⟩ cap (List.replicate n 63) Try.underlying29 Try.underlying5 Try.underlying9 (fun j hj => by
      have e : (⟨g, 0, none⟩ : Addr).add j = ⟨g, j, none⟩ := by
        by_cases h0 : j = 0
        · subst h0; rfl
        · simp [Addr.add, h0]
      rw [e]
      rw [List.length_replicate] at hj
      have hc := h.cellAt j (by omega)
      rw [List.getElem?_replicate, if_pos hj] at hc
      simpa using hc)
    rwa [List.length_replicate] at this
theorem step_mark {w wr w1 : World} {k : Nat} {v v' : Value} {c : Value} (hown : wr.ownsRow w.heap.size 5 1 v k (List.replicate k (.int .u8 63))) (hnx : Below w.heap.size w wr)
    (hown' : w1.ownsRow w.heap.size 5 1 v' (k + 1) (List.replicate k (.int .u8 63) ++ [Value.int .u8 63])) (hgrow : (wr.alloc (.cells #[c] 5)).grownBy w1 v.ownBlock) :
    w1.ownsRow w.heap.size 5 1 v' (k + 1) (List.replicate (k + 1) (.int .u8 63)) ∧ Below w.heap.size w w1 := by
  have hs := hnx.size
  refine ⟨?_, (hnx.alloc hs _).grown hgrow (by simp; omega) (fun j hj => (hown.lt j hj).1)⟩
  rw [List.replicate_succ']; exact hown'
set_option maxRecDepth 100000 in
set_option maxHeartbeats 1000000 in
theorem short_walk (n : Int) (N : Nat) (hn0 : -9223372036854775808 ≤ n) (hn1 : n ≤ 9223372036854775807) (hN : max 0 (min n 1000) = (N : Int)) (hn : N ≤ 1000) (a1 : ByteArray) (h1 : a1.size ≤ 4000) (w : World) :
    Calls Try.prog 8 #[.int .i64 n, .string a1] w fun e w' => e = .returned (.bool true) ∧ Below w.heap.size w w' := by
  obtain ⟨i0, hi0, hz0, hz1, hz2⟩ := info_parts info5
  obtain ⟨P, hP⟩ : ∃ P : ByteArray, (⟨(List.replicate N 63).toArray⟩ : ByteArray) = P := ⟨_, rfl⟩
  have hPb : bs P = List.replicate N 63 := by rw [← hP]; rfl
  have hPs : P.size ≤ 1000 := by rw [size_bs, hPb, List.length_replicate]; omega
  have hcase := told P a1 N hPb hPs h1
  clear hPb
  go_enter Try.func8, Try.ntmps8
  go_wp2
  go_loopg [5, 6] N (fun g v i wx => ∃ k : Nat, k ≤ N ∧ N ≤ k + g ∧ i = .int .i64 k ∧ Hid (wx.ownsRow w.heap.size 5 1 v k (List.replicate k (.int .u8 63))) ∧ Hid (Below w.heap.size w wx))
  case atStart => exact ⟨0, by omega, by omega, rfl, World.ownsRow_nil _ _ _ _, Below.refl _ _⟩
  case round =>
    obtain ⟨k, hk, hg, rfl, HO, HW⟩ := hrel
    have hsz := HW.out.size
    by_cases hlt : k < N
    · obtain ⟨g', rfl⟩ : ∃ g', gk = g' + 1 := ⟨gk - 1, by omega⟩
      go_wp2_with (at_builtin; refine wpList_append_own _ rfl _ _ 29 rfl w.heap.size 5 i0 (.int .u8 0) 1 1 Try.underlying29 hi0 hz0 hz1 hz2 rfl (by decide) _ _ _ rfl (HO.out.alloc _) ⟨wr.heap.size, 0, none⟩ 1 1 [.int .u8 63] rfl rfl ?c1 ?c2 ?c3 ?c4 ?c5 ?_)
      case c1 =>
        intro j z hj
        match j, hj with
        | 0, hj => simp at hj; subst hj; simp [Addr.add]
      case c2 => intro z hz; simp at hz; subst hz; rfl
      case c3 => unfold maxLen; omega
      case c4 => omega
      case c5 => simp; omega
      intro v' w1 hown' hgrow _
      have R := hid_of (step_mark HO.out HW.out hown' hgrow)
      clear hown' hgrow HO HW
      go_wp2
      go_roundg g'
      case measure => omega
      case rel => exact ⟨k + 1, by omega, by omega, rfl, R.out.1, R.out.2⟩
    · have hkN : k = N := by omega
      have hcv := fun m => conv_own m HO.out
      rw [hkN, hP] at hcv
      have hc0 := hcv 0
      rw [World.drewN_zero] at hc0
      have HW' := hid_of HW.out
      clear HO HW hkN hP
      rcases hcase with ⟨t1, t2, H1, H2⟩ | ⟨t1, t2, H1, H2⟩ | ⟨t1, t2, H1, H2⟩
      all_goals
        go_wp2_with fail
        refine (H1.out _).mono ?_
        rintro e v1 ⟨rfl, m1, rfl⟩
        go_wp2_with fail
        refine (H2.out _).mono ?_
        rintro e v2 ⟨rfl, m2, rfl⟩
        go_wp2_with fail
        refine (sure_any _).mono ?_
        rintro e v3 ⟨rfl, b3⟩
        go_wp2
        go_ret
        exact ⟨rfl, below_go (below_drewN HW'.out _) b3⟩
theorem walk (a0 : Int) (a1 : ByteArray) (w0 : (Lit.int .i64 a0).wf = true) (w1 : a1.size ≤ maxLen) (w : World) :
    Calls Try.prog 8 #[.int .i64 a0, .string a1] w fun e w' => e = .returned (.bool true) ∧ Below w.heap.size w w' := by
  unfold maxLen at w1
  have hb : -9223372036854775808 ≤ a0 ∧ a0 ≤ 9223372036854775807 := by
    simp only [Lit.wf, IntKind.min, IntKind.max, IntKind.signed, IntKind.bits, Bool.and_eq_true] at w0
    simp at w0; omega
  by_cases h : 4000 < a1.size
  · exact long_walk a0 a1 w1 h w
  · obtain ⟨N, hN⟩ := Int.eq_ofNat_of_zero_le (show 0 ≤ max 0 (min a0 1000) by omega)
    exact short_walk a0 N hb.1 hb.2 hN (by omega) a1 (by omega) w

/-! ### the row's step -/
set_option maxRecDepth 100000 in
theorem lifted (os : Os) (started : os.Started) (H : Type) (enc : TypeId × Value → H) :
    ReturnsInHanded {} Try.checked os 8 .any (Rows.globMarksSpec.pre6 enc Try.prog Try.f8 Rows.globMarksRow.domain false) (Rows.globMarksSpec.post enc Try.prog Try.f8 false true false false) := by
  refine returnsInHanded_of_change (C := Try.checked) own started (by kernel_rfl) Try.func8
    (ChangeSpec.witness6 (enc := enc) (C := Try.checked) false ⟨#[], #[.int .i64 0, .string ByteArray.empty], []⟩ 8 (by kernel_rfl) (by kernel_rfl) (by kernel_rfl) (by kernel_rfl)) ?_
  intro W base args ds gs before hval0 hW hcnd _
  have hval : ∀ (j : Nat) t v, Try.f8.params[j]? = some t → args[j]? = some v → Value.okWide Try.prog W .any base t v := hval0
  have hW' := hW
  obtain ⟨p, q, hA0, hV, rfl, hfz, hnd⟩ := hW
  have hA : DataW.TrodAll enc Try.prog W 0 (fun _ => true) true Try.f8.params.toList args.toList ds p := hA0
  rw [Try.params8] at hA hval
  obtain ⟨v0, vs0, d0, ds0, p0, q0, hargs, rfl, rfl, h0, r0⟩ := trodAll_cons hA
  obtain ⟨v1, vs1, d1, ds1, p1, q1, rfl, rfl, rfl, h1, r1⟩ := trodAll_cons r0
  obtain ⟨rfl, rfl, rfl⟩ := trodAll_nil r1
  obtain rfl : args = #[v0, v1] := by cases args; simp_all
  obtain ⟨rfl, rfl⟩ := trodVars_none hV
  obtain ⟨a0, rfl, rfl, rfl, w0⟩ := open_int Try.underlying3 (hval 0 3 v0 rfl rfl) h0
  obtain ⟨a1, rfl, rfl, rfl, w1⟩ := open_string Try.underlying9 (hval 1 9 v1 rfl rfl) h1
  clear hA0 hval0
  refine (walk a0 a1 w0 w1 W).mono fun e W' ⟨he, bel⟩ => ?_
  subst he
  exact ⟨_, rfl, _, _, _, [], _, [], hW', trodAll_mk1 (shut_bool Try.underlying4 _), (trodAll_cons_mk (shut_int Try.underlying3 w0) (trodAll_cons_mk (shut_string Try.underlying9 w1) trodAll_mk0)), rfl, bel.frame _, fun h => by cases h⟩

theorem over : Rows.globMarksRow.holds Try.pinned (OpenSpec.ofChange Rows.globMarksSpec) :=
  OpenClaim.holds_of_wide 8 Try.f8 rfl rfl rfl rfl rfl rfl rfl ⟨rfl, rfl, rfl, rfl, rfl⟩ rfl rfl rfl rfl rfl (by kernel_rfl) Try.func8 (by kernel_rfl)
    (of_decide_eq_true (by kernel_rfl)) (by unfold Func.isWrapper; first | (rw [if_pos (by decide +kernel)]; kernel_rfl) | (rw [if_neg (by decide +kernel)]; exact ⟨rfl, rfl⟩))
    (fun os started H enc _ => lifted os started H enc)

theorem proved : Rows.GlobMarksSaid :=
  over
#print axioms proved
end Go.Proofs.Ytaglcpjjekaohaa.globMarks
namespace Go.Proofs.Ytaglcpjjekaohaa
theorem globMarks_holds : Rows.GlobMarksSaid := globMarks.proved
end Go.Proofs.Ytaglcpjjekaohaa
