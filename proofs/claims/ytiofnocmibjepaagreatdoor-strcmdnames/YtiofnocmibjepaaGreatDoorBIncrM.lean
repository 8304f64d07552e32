/- Incr of the code and of the document. -/
import Derived.Test.YtiofnocmibjepaaGreatDoorParseM
import Derived.OwnWalk
namespace Go.Proofs.YtiofnocmibjepaaGreatDoor.BIncr
open Go.RowKit
open Go.Lib (decDigits itoa)
open Go.Proofs.YtiofnocmibjepaaGreatDoor.TextMath
open Go.Proofs.YtiofnocmibjepaaGreatDoor.Print
open Go.Proofs.YtiofnocmibjepaaGreatDoor.RefParse
open Go.Proofs.YtiofnocmibjepaaGreatDoor.RPrint
open Go.Proofs.YtiofnocmibjepaaGreatDoor.Parse
set_option linter.unusedVariables false
set_option linter.unusedSimpArgs false

theorem wrap_up {x : Int} (h0 : 9223372036854775807 < x) (h1 : x ≤ 18446744073709551614) : wrap64 x = x - 18446744073709551616 := by
  simp [wrap64]; omega
theorem wrap_down {x : Int} (h0 : x < -9223372036854775808) (h1 : -18446744073709551616 ≤ x) : wrap64 x = x + 18446744073709551616 := by
  simp [wrap64]; omega
theorem itoa_call (n : Int) (w : World) (h : InI n) (ht : Tab w) :
    Calls Tryz.prog 165 #[.int .i64 n] w fun e w' => e = .returned (.string ⟨(itoa n).toArray⟩) ∧ Below w.heap.size w w' :=
  (Tryz.strconv_Itoa n h.1 h.2 _ ht).mono fun e w' ⟨h1, k, os, h2⟩ => ⟨h1, by rw [h2]; exact below_grow w k os⟩
def T3 (s : ByteArray) (n e : Int) : Ending := .returned (.tuple #[.string s, .int .i64 n, .int .i64 e])
theorem neq_of {s : ByteArray} {v : Int} {b : Bool} (h : (itoa v == s.toList) = b) : (itoa v != s.toList) = !b := by rw [bne, h]
set_option maxHeartbeats 1000000 in
theorem incr_none (s : ByteArray) (by' : Int) (w : World) (hs : s.size ≤ 140737488351232) (h : ∀ v, Lib.atoiAll s.data.toList ≠ .ok v) (hh : Has w) :
    Calls Tryz.prog 135 #[.string s, .int .i64 by'] w fun e w' => e = T3 ByteArray.empty 0 10 ∧ Below w.heap.size w w' := by
  obtain ⟨tp, p, h2⟩ := hh.syn
  obtain ⟨tq, q, h3⟩ := hh.rng
  have HA := hid_of (Tryz.strconv_Atoi_no s (by omega) h tp tq p q w h2 h3)
  clear h2 h3 hh h
  go_enter Tryz.func135, Tryz.ntmps135
  go_wp2_with fail
  refine HA.out.mono ?_
  rintro e w1 ⟨n, N, rfl, b1⟩
  go_wp2
  go_ret3
  exact ⟨rfl, b1⟩
set_option maxHeartbeats 1000000 in
theorem incr_other (s : ByteArray) (v by' : Int) (w : World) (hs : s.size ≤ 140737488351232) (h : Lib.atoiAll s.data.toList = .ok v) (hv : itoa v ≠ s.data.toList) (hh : Has w) :
    Calls Tryz.prog 135 #[.string s, .int .i64 by'] w fun e w' => e = T3 ByteArray.empty 0 10 ∧ Below w.heap.size w w' := by
  have hb := Lib.atoiAll_bounds h
  have H := hid_of h
  have HH := hid_of hh
  have hcmp : (itoa v == s.toList) = false := by rw [Lib.toList_data, beq_eq_false_iff_ne]; exact hv
  have HB := hid_of hb
  clear h hh hv hb
  go_enter Tryz.func135, Tryz.ntmps135
  go_wp2_with fail
  refine (atoi_ok s hs v H.out _).mono ?_
  rintro e w1 ⟨rfl, b1⟩
  go_wp2_with fail
  refine (itoa_call v _ HB.out (HH.out.later b1).tab).mono ?_
  rintro e w2 ⟨rfl, b2⟩
  go_wp2
  go_ret3
  exact ⟨rfl, bel b1 b2 (Nat.le_refl _)⟩
set_option maxHeartbeats 1000000 in
theorem incr_over (s : ByteArray) (v d : Int) (w : World) (hs : s.size ≤ 140737488351232) (h : Lib.atoiAll s.data.toList = .ok v) (hv : itoa v = s.data.toList) (hd : InI d) (ho : ¬ InI (v + d)) (hh : Has w) :
    Calls Tryz.prog 135 #[.string s, .int .i64 d] w fun e w' => e = T3 ByteArray.empty 0 11 ∧ Below w.heap.size w w' := by
  have hb := Lib.atoiAll_bounds h
  have H := hid_of h
  have HH := hid_of hh
  have hcmp : (itoa v == s.toList) = true := by rw [Lib.toList_data, beq_iff_eq]; exact hv
  have HB := hid_of hb
  obtain ⟨v0, v1⟩ := hb
  obtain ⟨d0, d1⟩ := hd
  unfold InI at ho
  rcases (show 9223372036854775807 < v + d ∨ v + d < -9223372036854775808 by omega) with q | q
  · have hw := wrap_up q (by omega)
    have g1 : 0 < d := by omega
    have g2 : v + d - 18446744073709551616 < v := by omega
    clear h hh hv ho
    go_enter Tryz.func135, Tryz.ntmps135
    go_wp2_with fail
    refine (atoi_ok s hs v H.out _).mono ?_
    rintro e w1 ⟨rfl, b1⟩
    go_wp2_with fail
    refine (itoa_call v _ HB.out (HH.out.later b1).tab).mono ?_
    rintro e w2 ⟨rfl, b2⟩
    go_wp2
    go_ret3
    exact ⟨rfl, bel b1 b2 (Nat.le_refl _)⟩
  · have hw := wrap_down q (by omega)
    have g1 : d < 0 := by omega
    have g2 : v < v + d + 18446744073709551616 := by omega
    clear h hh hv ho
    go_enter Tryz.func135, Tryz.ntmps135
    go_wp2_with fail
    refine (atoi_ok s hs v H.out _).mono ?_
    rintro e w1 ⟨rfl, b1⟩
    go_wp2_with fail
    refine (itoa_call v _ HB.out (HH.out.later b1).tab).mono ?_
    rintro e w2 ⟨rfl, b2⟩
    go_wp2
    go_ret3
    exact ⟨rfl, bel b1 b2 (Nat.le_refl _)⟩
set_option maxHeartbeats 1000000 in
set_option maxRecDepth 100000 in
theorem incr_yes (s : ByteArray) (v d : Int) (w : World) (hs : s.size ≤ 140737488351232) (h : Lib.atoiAll s.data.toList = .ok v) (hv : itoa v = s.data.toList) (hd : InI d) (ho : InI (v + d)) (hh : Has w) :
    Calls Tryz.prog 135 #[.string s, .int .i64 d] w fun e w' => e = T3 ⟨(itoa (v + d)).toArray⟩ (v + d) 0 ∧ Below w.heap.size w w' := by
  have hb := Lib.atoiAll_bounds h
  have H := hid_of h
  have HH := hid_of hh
  have hcmp : (itoa v == s.toList) = true := by rw [Lib.toList_data, beq_iff_eq]; exact hv
  have HB := hid_of hb
  have HO := hid_of ho
  obtain ⟨v0, v1⟩ := hb
  obtain ⟨d0, d1⟩ := hd
  obtain ⟨o0, o1⟩ := ho
  clear h hh hv
  rcases (show 0 < d ∨ d < 0 ∨ (d ≤ 0 ∧ 0 ≤ d) by omega) with q | q | ⟨q, q'⟩
  all_goals
    go_enter Tryz.func135, Tryz.ntmps135
    go_wp2_with fail
    refine (atoi_ok s hs v H.out _).mono ?_
    rintro e w1 ⟨rfl, b1⟩
    go_wp2_with fail
    refine (itoa_call v _ HB.out (HH.out.later b1).tab).mono ?_
    rintro e w2 ⟨rfl, b2⟩
    have b12 := bel b1 b2 (Nat.le_refl _)
    go_wp2_with fail
    refine (itoa_call (v + d) _ HO.out (HH.out.later b12).tab).mono ?_
    rintro e w3 ⟨rfl, b3⟩
    go_wp2
    go_ret3
    exact ⟨rfl, bel b12 b3 (Nat.le_refl _)⟩
/-! ### the document's -/
def Told (l : List UInt8) (d : Int) (s : ByteArray) (n e : Int) : Prop :=
  (∃ v, textB v l = true ∧ InI (v + d) ∧ s = ⟨(itoa (v + d)).toArray⟩ ∧ n = v + d ∧ e = 0) ∨
  (∃ v, textB v l = true ∧ ¬ InI (v + d) ∧ s = ByteArray.empty ∧ n = 0 ∧ e = 11) ∨
  ((∀ v, textB v l = false) ∧ s = ByteArray.empty ∧ n = 0 ∧ e = 10)
theorem told_ex (l : List UInt8) (d : Int) : ∃ s n e, Told l d s n e := by
  by_cases h : ∃ m, textB m l = true
  · obtain ⟨m, h⟩ := h
    by_cases q : InI (m + d)
    · exact ⟨_, _, _, .inl ⟨m, h, q, rfl, rfl, rfl⟩⟩
    · exact ⟨_, _, _, .inr (.inl ⟨m, h, q, rfl, rfl, rfl⟩)⟩
  · refine ⟨_, _, _, .inr (.inr ⟨fun m => ?_, rfl, rfl, rfl⟩)⟩
    cases e : textB m l
    · rfl
    · exact absurd ⟨m, e⟩ h
theorem Told.bd {l : List UInt8} {d : Int} {s : ByteArray} {n e : Int} (h : Told l d s n e) : 0 ≤ e ∧ e ≤ 11 ∧ InI n := by
  rcases h with ⟨v, _, h, _, rfl, rfl⟩ | ⟨v, _, _, _, rfl, rfl⟩ | ⟨_, _, rfl, rfl⟩
  · exact ⟨by omega, by omega, h⟩
  · exact ⟨by omega, by omega, by unfold InI; omega⟩
  · exact ⟨by omega, by omega, by unfold InI; omega⟩
theorem atoi_text {v : Int} {l : List UInt8} (h : textB v l = true) : InI v ∧ Lib.atoiAll l = .ok v ∧ itoa v = l := by
  have q := (text_iff _ _).1 h
  refine ⟨q.1, ?_, q.2⟩
  have := atoi_itoa v q.1
  rwa [q.2] at this
theorem incr_call (s : ByteArray) (d : Int) (r : ByteArray) (n e : Int) (w : World) (hs : s.size ≤ 140737488351232) (hd : InI d) (ht : Told s.data.toList d r n e) (hh : Has w) :
    Calls Tryz.prog 135 #[.string s, .int .i64 d] w fun x w' => x = T3 r n e ∧ Below w.heap.size w w' := by
  rcases ht with ⟨v, h, q, rfl, rfl, rfl⟩ | ⟨v, h, q, rfl, rfl, rfl⟩ | ⟨h, rfl, rfl, rfl⟩
  · obtain ⟨_, h1, h2⟩ := atoi_text h
    exact incr_yes s v d w hs h1 h2 hd q hh
  · obtain ⟨_, h1, h2⟩ := atoi_text h
    exact incr_over s v d w hs h1 h2 hd q hh
  · by_cases g : ∃ v, Lib.atoiAll s.data.toList = .ok v
    · obtain ⟨v, hv⟩ := g
      refine incr_other s v d w hs hv (fun hi => ?_) hh
      have := h v
      rw [(text_iff v _).2 ⟨Lib.atoiAll_bounds hv, hi⟩] at this
      cases this
    · exact incr_none s d w hs (fun v q => g ⟨v, q⟩) hh
end Go.Proofs.YtiofnocmibjepaaGreatDoor.BIncr
