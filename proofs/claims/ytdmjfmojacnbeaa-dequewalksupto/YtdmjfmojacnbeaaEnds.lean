/- DequeEnds, walked. -/
import Derived.Test.YtdmjfmojacnbeaaAwake
import Derived.Test.YtdmjfmojacnbeaaFront
namespace Go.Proofs.Ytdmjfmojacnbeaa.Ends
open Go.RowKit
open Go.Proofs.Ytdmjfmojacnbeaa.Base
open Go.Proofs.Ytdmjfmojacnbeaa.Held
open Go.Proofs.Ytdmjfmojacnbeaa.Lay
open Go.Proofs.Ytdmjfmojacnbeaa.Free
open Go.Proofs.Ytdmjfmojacnbeaa.Push
open Go.Proofs.Ytdmjfmojacnbeaa.Front
open Go.Proofs.Ytdmjfmojacnbeaa.Keep
open Go.Proofs.Ytdmjfmojacnbeaa.Pop
open Go.Proofs.Ytdmjfmojacnbeaa.Same
open Go.Proofs.Ytdmjfmojacnbeaa.Awake
set_option linter.unusedVariables false
set_option linter.unusedSimpArgs false
theorem clamp_in {x : Int} {n k : Nat} (hx : x = k) (h : k ≤ n) : clamp x n = k := by unfold clamp; rw [if_neg (by omega), if_neg (by omega)]; omega
theorem clamp_over {x : Int} {n : Nat} (h : (n : Int) ≤ x) : clamp x n = n := by unfold clamp; rw [if_neg (by omega)]; split <;> omega
theorem clamp_none (x : Int) : clamp x 0 = 0 := by have := clamp_le x 0; omega
/-- a list that came in, later -/
theorem SL.later {B : Nat} {w w' : World} {v : Value} {l : List El} (h : SL (fun k => k < B) w v l) (b : Below B w w') : SL (fun k => ¬ B ≤ k) w' v l := (h.keep fun k _ hk => b.block k hk).mono fun k _ hk e => by omega
set_option maxHeartbeats 4000000 in
set_option maxRecDepth 100000 in
theorem ends_call {w : World} {u v : Value} {l m : List El} (h : SL (fun k => k < w.heap.size) w u l) (h' : SL (fun k => k < w.heap.size) w v m) (hb : l.length + m.length ≤ 1048576) :
    Calls Try.prog 5 #[u, v] w fun e w' => e = .returned (.bool true) ∧ Below w.heap.size w w' := by
  obtain ⟨B, hB⟩ : ∃ B, B = w.heap.size := ⟨_, rfl⟩
  rw [← hB] at h h' ⊢
  have HB := hid_of hB
  have HO := hid_of (of_call h (by omega))
  have HU := hid_of (fun (W : World) (b : Below B w W) => SL.later h b)
  have HV := hid_of (fun (W : World) (b : Below B w W) => SL.later h' b)
  obtain ⟨a1, c1, rfl, hc1, _⟩ := h
  obtain ⟨a2, c2, rfl, hc2, _⟩ := h'
  have b1 : l.length ≤ 1048576 := by omega
  have b2 : m.length ≤ 1048576 := by omega
  clear hB hc1 hc2
  go_enter Try.func5, Try.ntmps5
  go_wp2_with fail
  refine HO.out.mono ?_
  rintro e w1 ⟨b, rfl, q1, k1⟩
  have E1 : Hid (At B b l w w1) := At.of (w1 := w) q1 (Below.refl _ _) k1 (by rw [HB.out]; exact Nat.le_refl _)
  have HA := hid_of (awake_call w1)
  clear q1 k1
  go_wp2_with fail
  refine HA.out.mono ?_
  rintro e w2 ⟨rfl, k2⟩
  have E2 := hid_of (E1.out.read k2)
  have HP := hid_of (pushFront_call E2.out.ud (HV.out _ E2.out.bl) (by omega))
  clear k2
  go_wp2_with fail
  refine HP.out.mono ?_
  rintro e w3 ⟨rfl, q3, f3⟩
  have E3 := hid_of (E2.out.turn q3 f3)
  have HPop := hid_of (popFront_call E3.out.ud (m.length : Int) (by simp; omega))
  rw [clamp_in (k := m.length) rfl (by simp), show (m.reverse ++ l).take m.length = m.reverse from List.take_left' (by simp), show (m.reverse ++ l).drop m.length = l from List.drop_left' (by simp)] at HPop
  clear q3 f3
  go_wp2_with fail
  refine HPop.out.mono ?_
  rintro e w4 ⟨v4, rfl, n4, q4, f4⟩
  have E4 := hid_of (E3.out.turn q4 f4)
  have HT := hid_of (turned_call (HV.out _ E4.out.bl) (by omega))
  have N4 := hid_of n4
  clear q4 f4 n4
  go_wp2_with fail
  refine HT.out.mono ?_
  rintro e w5 ⟨v5, rfl, n5, k5⟩
  have E5 := hid_of (E4.out.read k5)
  have HS := hid_of (same_call (N4.out.sl.below k5) n5.sl rfl (by simp; omega))
  clear n5 k5
  go_wp2_with fail
  refine HS.out.mono ?_
  rintro e w6 ⟨rfl, m6, rfl⟩
  have E6 := hid_of (E5.out.drewN m6)
  have HLi := hid_of (list_call E6.out.ud (by omega))
  go_wp2_with fail
  refine HLi.out.mono ?_
  rintro e w7 ⟨v7, rfl, n7, k7⟩
  have E7 := hid_of (E6.out.read k7)
  have HS7 := hid_of (same_call n7.sl (HU.out _ E7.out.bl) rfl (by omega))
  clear n7 k7
  go_wp2_with fail
  refine HS7.out.mono ?_
  rintro e w8 ⟨rfl, m8, rfl⟩
  have E8 := hid_of (E7.out.drewN m8)
  have HPB := hid_of (pushBack_call E8.out.ud (HV.out _ E8.out.bl) (by omega))
  go_wp2_with fail
  refine HPB.out.mono ?_
  rintro e w9 ⟨rfl, q9, f9⟩
  have E9 := hid_of (E8.out.turn q9 f9)
  have HPopB := hid_of (popBack_call E9.out.ud (m.length : Int) (by simp; omega))
  rw [clamp_in (k := m.length) rfl (by simp), show (l ++ m).length - m.length = l.length by simp, show (l ++ m).drop l.length = m from List.drop_left' rfl, show (l ++ m).take l.length = l from List.take_left' rfl] at HPopB
  clear q9 f9
  go_wp2_with fail
  refine HPopB.out.mono ?_
  rintro e w10 ⟨v10, rfl, n10, q10, f10⟩
  have E10 := hid_of (E9.out.turn q10 f10)
  have HT10 := hid_of (turned_call (HV.out _ E10.out.bl) (by omega))
  have N10 := hid_of n10
  clear q10 f10 n10
  go_wp2_with fail
  refine HT10.out.mono ?_
  rintro e w11 ⟨v11, rfl, n11, k11⟩
  have E11 := hid_of (E10.out.read k11)
  have HS11 := hid_of (same_call (N10.out.sl.below k11) n11.sl rfl (by simp; omega))
  clear n11 k11
  go_wp2_with fail
  refine HS11.out.mono ?_
  rintro e w12 ⟨rfl, m12, rfl⟩
  have E12 := hid_of (E11.out.drewN m12)
  have HLi12 := hid_of (list_call E12.out.ud (by omega))
  go_wp2_with fail
  refine HLi12.out.mono ?_
  rintro e w13 ⟨v13, rfl, n13, k13⟩
  have E13 := hid_of (E12.out.read k13)
  have HS13 := hid_of (same_call n13.sl (HU.out _ E13.out.bl) rfl (by omega))
  clear n13 k13
  go_wp2_with fail
  refine HS13.out.mono ?_
  rintro e w14 ⟨rfl, m14, rfl⟩
  have E14 := hid_of (E13.out.drewN m14)
  have HPB14 := hid_of (pushBack_call E14.out.ud (HV.out _ E14.out.bl) (by omega))
  go_wp2_with fail
  refine HPB14.out.mono ?_
  rintro e w15 ⟨rfl, q15, f15⟩
  have E15 := hid_of (E14.out.turn q15 f15)
  have HPop15 := hid_of (popFront_call E15.out.ud (l.length : Int) (by simp; omega))
  rw [clamp_in (k := l.length) rfl (by simp), show (l ++ m).take l.length = l from List.take_left' rfl, show (l ++ m).drop l.length = m from List.drop_left' rfl] at HPop15
  clear q15 f15
  go_wp2_with fail
  refine HPop15.out.mono ?_
  rintro e w16 ⟨v16, rfl, n16, q16, f16⟩
  have E16 := hid_of (E15.out.turn q16 f16)
  have HS16 := hid_of (same_call n16.sl (HU.out _ E16.out.bl) rfl (by omega))
  clear q16 f16 n16
  go_wp2_with fail
  refine HS16.out.mono ?_
  rintro e w17 ⟨rfl, m17, rfl⟩
  have E17 := hid_of (E16.out.drewN m17)
  have HPop17 := hid_of (popFront_call E17.out.ud 1099511627776 (by omega))
  rw [clamp_over (by omega), List.take_of_length_le (Nat.le_refl _), List.drop_eq_nil_of_le (Nat.le_refl _)] at HPop17
  go_wp2_with fail
  refine HPop17.out.mono ?_
  rintro e w18 ⟨v18, rfl, n18, q18, f18⟩
  have E18 := hid_of (E17.out.turn q18 f18)
  have HS18 := hid_of (same_call n18.sl (HV.out _ E18.out.bl) rfl (by omega))
  clear q18 f18 n18
  go_wp2_with fail
  refine HS18.out.mono ?_
  rintro e w19 ⟨rfl, m19, rfl⟩
  have E19 := hid_of (E18.out.drewN m19)
  have HL19 := hid_of (len_call E19.out.ud)
  go_wp2_with fail
  refine HL19.out.mono ?_
  rintro e w20 ⟨rfl, m20, rfl⟩
  have E20 := hid_of (E18.out.drewN (m19 + m20))
  have HP20 := hid_of (popBack_call E20.out.ud 3 (by simp))
  rw [show ([] : List El).length = 0 from rfl, clamp_none] at HP20
  go_wp2_with fail
  refine HP20.out.mono ?_
  rintro e w21 ⟨v21, rfl, n21, q21, f21⟩
  obtain ⟨a21, c21, rfl, _, _⟩ := NR.shape n21
  have E21 := hid_of (E20.out.turn q21 f21)
  have HP21 := hid_of (popFront_call E21.out.ud (-3) (by simp))
  simp only [List.take_nil, List.drop_nil, List.reverse_nil, List.length_nil, clamp_none] at HP21
  simp only [List.take_nil, List.drop_nil, List.reverse_nil, List.length_nil]
  clear q21 f21 n21
  go_wp2_with fail
  refine HP21.out.mono ?_
  rintro e w22 ⟨v22, rfl, n22, q22, f22⟩
  obtain ⟨a22, c22, rfl, _, _⟩ := NR.shape n22
  have E22 := hid_of (E21.out.turn q22 f22)
  simp only [List.take_nil, List.drop_nil, List.reverse_nil, List.length_nil]
  clear q22 f22 n22
  go_wp2_with fail
  go_ret
  exact ⟨rfl, E22.out.bl⟩
end Go.Proofs.Ytdmjfmojacnbeaa.Ends
