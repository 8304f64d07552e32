/- Splice and SetBit of the document. -/
import Derived.Test.YtdkdjgpeeglbhaaDoorSplice
import Derived.Test.YtdkdjgpeeglbhaaDoorLonger
namespace Go.Proofs.YtdkdjgpeeglbhaaDoor.RefSplice
open Go.RowKit
open Go.Proofs.YtdkdjgpeeglbhaaDoor.BlobMath
open Go.Proofs.YtdkdjgpeeglbhaaDoor.Span
open Go.Proofs.YtdkdjgpeeglbhaaDoor.Bits
open Go.Proofs.YtdkdjgpeeglbhaaDoor.Reads
open Go.Proofs.YtdkdjgpeeglbhaaDoor.Mem
open Go.Proofs.YtdkdjgpeeglbhaaDoor.Splice
open Go.Proofs.YtdkdjgpeeglbhaaDoor.Longer
set_option linter.unusedVariables false
set_option linter.unusedSimpArgs false

theorem rsplice_neg (s t : ByteArray) (a : Int) (w : World) (h : a < 0) :
    Calls Tryd.prog 13 #[.string s, .int .i64 a, .string t] w fun e w' => e = .returned (.tuple #[.string ByteArray.empty, .int .i64 1]) ∧ w' = w := by
  go_enter Tryd.func13, Tryd.ntmps13
  go_wp2
  go_ret2
  exact ⟨rfl, rfl⟩
theorem rsplice_nil (s : ByteArray) (a : Int) (w : World) (h : 0 ≤ a) :
    Calls Tryd.prog 13 #[.string s, .int .i64 a, .string ByteArray.empty] w fun e w' => e = .returned (.tuple #[.string s, .int .i64 0]) ∧ w' = w := by
  go_enter Tryd.func13, Tryd.ntmps13
  go_wp2
  go_ret2
  exact ⟨rfl, rfl⟩
set_option maxRecDepth 100000 in
theorem rsplice_long (s t : ByteArray) (a : Int) (w : World) (hi : InI a) (ht : t.size ≤ 140737488351232) (ne : t.toList.isEmpty = false) (h : 0 ≤ a) (hl : 1048576 - (t.size : Int) < a) :
    Calls Tryd.prog 13 #[.string s, .int .i64 a, .string t] w fun e w' => e = .returned (.tuple #[.string ByteArray.empty, .int .i64 81]) ∧ w' = w := by
  obtain ⟨i0, i1⟩ := hi
  rcases (show 1048576 < a ∨ a ≤ 1048576 by omega) with q | q
  · go_enter Tryd.func13, Tryd.ntmps13
    go_wp2
    go_ret2
    exact ⟨rfl, rfl⟩
  · have q2 : 1048576 - a < (t.size : Int) := by omega
    go_enter Tryd.func13, Tryd.ntmps13
    go_wp2
    go_ret2
    exact ⟨rfl, rfl⟩
theorem take_len (t : List UInt8) (i : Nat) (h : i ≤ t.length) : (t.take i).length = i := by simp; omega
theorem at8_take (t : List UInt8) (i k : Nat) (h : k < i) : at8 (t.take i) k = at8 t k := by
  unfold at8; simp only [List.getD]; rw [List.getElem?_take_of_lt h]
theorem lay_step (l : List UInt8) (a : Nat) (t : List UInt8) (i : Nat) (hi : i < t.length) (h : a + t.length ≤ l.length) :
    (lay l a (t.take i)).set (a + i) (UInt8.ofNat (at8 t i)) = lay l a (t.take (i + 1)) := by
  have e1 := take_len t i (by omega)
  have e2 := take_len t (i + 1) (by omega)
  refine ext8 (by rw [List.length_set, lay_len (by omega), lay_len (by omega)]) fun k hk => ?_
  rw [List.length_set, lay_len (by omega)] at hk
  rw [at8_set (by rw [lay_len (by omega)]; omega), lay_at (by omega), lay_at (by omega), e1, e2, UInt8.toNat_ofNat', Nat.mod_eq_of_lt (at8_lt t i)]
  by_cases q : k = a + i
  · subst q
    rw [if_pos rfl, if_pos ⟨by omega, by omega⟩, Nat.add_sub_cancel_left, at8_take _ _ _ (by omega)]
  · rw [if_neg q]
    by_cases r : a ≤ k ∧ k < a + i
    · rw [if_pos r, if_pos ⟨by omega, by omega⟩, at8_take _ _ _ (by omega), at8_take _ _ _ (by omega)]
    · rw [if_neg r, if_neg (by omega)]
set_option maxHeartbeats 1000000 in
set_option maxRecDepth 100000 in
theorem rsplice_ok (s t : ByteArray) (a : Nat) (w : World) (hs : s.size ≤ 140737488351232) (ne : t.toList.isEmpty = false) (h0 : 0 < t.size) (hl : a + t.size ≤ 1048576) :
    Calls Tryd.prog 13 #[.string s, .int .i64 (a : Int), .string t] w fun e w' => e = .returned (.tuple #[.string (mkB (over (txt s) a (txt t))), .int .i64 0]) ∧ Below w.heap.size w w' := by
  obtain ⟨n, HN⟩ : ∃ n, Hid (n = a + t.size) := ⟨_, hid_of rfl⟩
  have hn : n ≤ 1048576 := by rw [HN.out]; exact hl
  have hi : (a : Int) + (t.size : Int) = (n : Int) := by rw [HN.out]; simp
  have H1 := hid_of (fun w => longer_call s n w hs hn)
  have HT := hid_of (show (txt t).length = t.size by simp [txt])
  have HS := hid_of (show (txt s).length = s.size by simp [txt])
  obtain ⟨N, HM⟩ : ∃ N, Hid (N = max s.size n) := ⟨_, hid_of rfl⟩
  rw [← HM.out] at H1
  have hnN : n ≤ N := by rw [HM.out]; omega
  have hle : (t.size : Int) ≤ 1048576 - (a : Int) := by omega
  go_enter Tryd.func13, Tryd.ntmps13
  go_wp2_with fail
  refine (H1.out _).mono ?_
  rintro e w1 ⟨g, cap, rfl, r1, hg, hg2, b1⟩
  have HLn := hid_of (show (pad (txt s) n).length = N by rw [pad_len, HS.out, HM.out])
  have HE := hid_of (show lay (pad (txt s) n) a (txt t) = over (txt s) a (txt t) by unfold lay over; rw [HT.out, ← HN.out])
  generalize pad (txt s) n = P0 at *
  have R1 := hid_of r1
  have B1 := hid_of b1
  have HTL := hid_of (show a + (txt t).length ≤ P0.length by rw [HT.out, HLn.out, ← HN.out]; exact hnN)
  clear r1 b1 hi
  go_wp2_with fail
  go_loopw [9] (fun x wr => ∃ i : Nat, i ≤ t.size ∧ x = .int .i64 (i : Int) ∧ Hid (BRow wr g (lay P0 a ((txt t).take i))) ∧ Hid (Below w.heap.size w wr)) (fun x _ => t.size - (intOf x).toNat)
  case atStart => exact ⟨0, Nat.zero_le _, rfl, by rw [show lay P0 a ((txt t).take 0) = P0 by simp [lay]]; exact R1, B1⟩
  case round =>
    obtain ⟨i, hit, rfl, HR, HB⟩ := hrel
    have HLL := hid_of (show (lay P0 a ((txt t).take i)).length = N by rw [lay_len (by rw [take_len _ _ (by rw [HT.out]; exact hit)]; have := HTL.out; rw [HT.out] at this; omega), HLn.out])
    by_cases hlt : i < t.size
    · have hk : a + i < N := by have := HN.out; omega
      have hc := HR.out.cell (a + i) (by rw [HLL.out]; exact hk)
      have hz := HR.out.frozen (a + i) (by rw [HLL.out]; exact hk)
      have R2 := HR.out.set (a + i) (by rw [HLL.out]; exact hk) t[i].toNat t[i].toNat_lt
      rw [Bits.byte_at hlt] at R2
      rw [show at8 t.data.toList i = at8 (txt t) i from rfl, lay_step P0 a (txt t) i (by rw [HT.out]; exact hlt) HTL.out] at R2
      rw [show at8 (txt t) i = t[i].toNat from (Bits.byte_at hlt).symm] at R2
      have HR2 := hid_of R2
      have HB2 := hid_of (HB.out.setCell (p := ⟨g, a + i, none⟩) hg (.int .u8 (t[i].toNat : Int)))
      clear R2
      go_wp2
      exact ⟨⟨i + 1, hlt, by go_num, HR2, HB2⟩, by simp [intOf]; omega⟩
    · have hconv := HR.out.conv N cap (by rw [HLL.out])
      have HE2 := hid_of (show lay P0 a ((txt t).take i) = over (txt s) a (txt t) by rw [List.take_of_length_le (by rw [HT.out]; omega), HE.out])
      go_wp2
      go_ret2
      exact ⟨ret_si (by rw [HE2.out]), HB.out⟩

/-! ### a bit set -/
theorem rsetbit_no (s : ByteArray) (a b : Int) (w : World) (h : ¬ inB a) :
    Calls Tryd.prog 17 #[.string s, .int .i64 a, .int .i64 b] w fun e w' => e = .returned (.tuple #[.string ByteArray.empty, .int .i64 0, .int .i64 80]) ∧ w' = w := by
  unfold inB at h
  rcases (show a < 0 ∨ 8388608 ≤ a by omega) with h | h
  all_goals
    go_enter Tryd.func17, Tryd.ntmps17
    go_wp2
    go_ret3
    exact ⟨rfl, rfl⟩
theorem rsetbit_bad (s : ByteArray) (a b : Int) (w : World) (h0 : (b == 0) = false) (h1 : (b == 1) = false) :
    Calls Tryd.prog 17 #[.string s, .int .i64 a, .int .i64 b] w fun e w' => e = .returned (.tuple #[.string ByteArray.empty, .int .i64 0, .int .i64 80]) ∧ w' = w := by
  have n0 : (b != 0) = true := by rw [bne, h0]; rfl
  have n1 : (b != 1) = true := by rw [bne, h1]; rfl
  rcases (show a < 0 ∨ 8388608 ≤ a ∨ (0 ≤ a ∧ a < 8388608) by omega) with h | h | ⟨h, h'⟩
  all_goals
    go_enter Tryd.func17, Tryd.ntmps17
    go_wp2
    go_ret3
    exact ⟨rfl, rfl⟩
def clrN (c j : Nat) : Nat := c &&& (255 - 2 ^ (7 - j))
def setR (c j v : Nat) : Nat := if v = 1 then clrN c j ||| 2 ^ (7 - j) else clrN c j
theorem setR_eq {c j v : Nat} (hc : c < 256) (hj : j < 8) (hv : v < 2) : setR c j v = setN c j v ∧ clrN c j < 256 ∧ setR c j v < 256 ∧ 2 ^ (7 - j) < 256 := by
  have : ∀ c, c < 256 → ∀ j, j < 8 → ∀ v, v < 2 → setR c j v = setN c j v ∧ clrN c j < 256 ∧ setR c j v < 256 ∧ 2 ^ (7 - j) < 256 := by decide +kernel
  exact this c hc j hj v hv
theorem pow_cast {j : Nat} (h : 2 ^ (7 - j) < 256) : ((2 : Int) ^ (7 - j) % 256) = ((2 ^ (7 - j) : Nat) : Int) := by
  have : ((2 : Int) ^ (7 - j)) = ((2 ^ (7 - j) : Nat) : Int) := by simp
  rw [this]
  generalize (2 ^ (7 - j) : Nat) = p at h ⊢
  omega
set_option maxHeartbeats 1000000 in
set_option maxRecDepth 100000 in
theorem rsetbit_one (s : ByteArray) (a : Nat) (A x : Int) (w : World) (HA : Hid (A = (a : Int))) (hs : s.size ≤ 140737488351232) (ha0 : 0 ≤ A) (ha1 : A < 8388608) (n0 : (x != 0) = true) (n1 : (x != 1) = false) (n2 : (x == 1) = true) :
    Calls Tryd.prog 17 #[.string s, .int .i64 A, .int .i64 x] w fun e w' => e = .returned (.tuple #[.string (mkB (setS (txt s) a 1)), .int .i64 (bitAt (txt s) a : Nat), .int .i64 0]) ∧ Below w.heap.size w w' := by
  obtain ⟨k, HK⟩ : ∃ k, Hid (k = a / 8) := ⟨_, hid_of rfl⟩
  have hk : A / 8 = (k : Int) := by rw [HA.out, HK.out]; simp
  have hk1 : k < 1048576 := by have := HA.out; rw [HK.out]; omega
  have H3 := hid_of (fun w => longer_call s (k + 1) w hs (by omega))
  rw [show ((k + 1 : Nat) : Int) = (k : Int) + 1 by omega] at H3
  have H1 := hid_of (fun w => rbit_call s a w hs (by have := HA.out; omega))
  rw [← HA.out] at H1
  obtain ⟨N, HN⟩ : ∃ N, Hid (N = max s.size (k + 1)) := ⟨_, hid_of rfl⟩
  rw [← HN.out] at H3
  have hkN : k < N := by rw [HN.out]; omega
  obtain ⟨b, HB⟩ : ∃ b, Hid (b = bitAt s.data.toList a) := ⟨_, hid_of rfl⟩
  rw [← HB.out] at H1
  rw [show bitAt (txt s) a = b from HB.out.symm]
  have HS := hid_of (show (txt s).length = s.size by simp [txt])
  obtain ⟨j, HJ⟩ : ∃ j, Hid (j = a % 8) := ⟨_, hid_of rfl⟩
  have hj : A % 8 = (j : Int) := by rw [HA.out, HJ.out]; simp
  have hj8 : j < 8 := by rw [HJ.out]; omega
  go_enter Tryd.func17, Tryd.ntmps17
  go_wp2_with fail
  refine (H3.out _).mono ?_
  rintro e w3 ⟨g, cap, rfl, r3, hg, hg2, b3⟩
  have hlen : (pad (txt s) (k + 1)).length = N := by rw [pad_len, HS.out, HN.out]
  have hc := r3.cell k (by omega)
  rw [pad_at] at hc
  have hz := r3.frozen k (by omega)
  obtain ⟨c, HC⟩ : ∃ c, Hid (c = at8 (txt s) k) := ⟨_, hid_of rfl⟩
  rw [← HC.out] at hc
  have hc8 : c < 256 := by rw [HC.out]; exact at8_lt _ _
  have hq := setR_eq (v := 1) hc8 hj8 (by omega)
  have HX1 := hid_of (show bits .andNot .u8 (c : Int) (2 ^ (7 - j) % 256) = ((clrN c j : Nat) : Int) by rw [pow_cast hq.2.2.2]; exact u8_andNot_nat _ _ hc8 hq.2.2.2)
  have HX2 := hid_of (show bits .or .u8 ((clrN c j : Nat) : Int) (2 ^ (7 - j) % 256) = ((setR c j 1 : Nat) : Int) by rw [pow_cast hq.2.2.2]; exact u8_or_nat _ _ hq.2.1 hq.2.2.2)
  have r4 := (r3.set k (by omega) (clrN c j) hq.2.1).set k (by rw [List.length_set]; omega) (setR c j 1) hq.2.2.1
  rw [List.set_set] at r4
  have b4 := (b3.setCell (p := ⟨g, k, none⟩) hg (.int .u8 ((clrN c j : Nat) : Int))).setCell (p := ⟨g, k, none⟩) hg (.int .u8 ((setR c j 1 : Nat) : Int))
  have HE := hid_of (show (pad (txt s) (k + 1)).set k (UInt8.ofNat (setR c j 1)) = setS (txt s) a 1 by
    unfold setS; rw [← HK.out, ← HJ.out, ← HC.out, ← hq.1])
  have HL := hid_of (show ((pad (txt s) (k + 1)).set k (UInt8.ofNat (setR c j 1))).length = N by rw [List.length_set, hlen])
  have R4 := hid_of r4
  have B4 := hid_of b4
  clear r3 b3 hlen r4 b4 hq
  go_wp2_with fail
  rw [HX1.out, HX2.out]
  generalize (w3.setCell ⟨g, k, none⟩ (Value.int IntKind.u8 ((clrN c j : Nat) : Int))).setCell ⟨g, k, none⟩ (Value.int IntKind.u8 ((setR c j 1 : Nat) : Int)) = W at *
  have HCV : ∀ n, (convert 54 9 (.slice (some ⟨g, 0, none⟩) N cap)).run Tryd.prog (W.drewN n) = _ := fun n => (R4.out.drewN n).conv N cap HL.out.symm
  have hcv0 : (convert 54 9 (.slice (some ⟨g, 0, none⟩) N cap)).run Tryd.prog W = _ := R4.out.conv N cap HL.out.symm
  clear hc hz HX1 HX2
  go_quiet ((go_at_call 32; exact Calls.quiet_of_same (H1.out _)))
  go_wp2
  go_ret3
  exact ⟨ret_sii (by rw [HE.out]), bel B4.out (below_drewN _ _) (Nat.le_refl _)⟩
set_option maxHeartbeats 1000000 in
set_option maxRecDepth 100000 in
theorem rsetbit_zero (s : ByteArray) (a : Nat) (A x : Int) (w : World) (HA : Hid (A = (a : Int))) (hs : s.size ≤ 140737488351232) (ha0 : 0 ≤ A) (ha1 : A < 8388608) (n0 : (x != 0) = false) (n2 : (x == 1) = false) :
    Calls Tryd.prog 17 #[.string s, .int .i64 A, .int .i64 x] w fun e w' => e = .returned (.tuple #[.string (mkB (setS (txt s) a 0)), .int .i64 (bitAt (txt s) a : Nat), .int .i64 0]) ∧ Below w.heap.size w w' := by
  obtain ⟨k, HK⟩ : ∃ k, Hid (k = a / 8) := ⟨_, hid_of rfl⟩
  have hk : A / 8 = (k : Int) := by rw [HA.out, HK.out]; simp
  have hk1 : k < 1048576 := by have := HA.out; rw [HK.out]; omega
  have H3 := hid_of (fun w => longer_call s (k + 1) w hs (by omega))
  rw [show ((k + 1 : Nat) : Int) = (k : Int) + 1 by omega] at H3
  have H1 := hid_of (fun w => rbit_call s a w hs (by have := HA.out; omega))
  rw [← HA.out] at H1
  obtain ⟨N, HN⟩ : ∃ N, Hid (N = max s.size (k + 1)) := ⟨_, hid_of rfl⟩
  rw [← HN.out] at H3
  have hkN : k < N := by rw [HN.out]; omega
  obtain ⟨b, HB⟩ : ∃ b, Hid (b = bitAt s.data.toList a) := ⟨_, hid_of rfl⟩
  rw [← HB.out] at H1
  rw [show bitAt (txt s) a = b from HB.out.symm]
  have HS := hid_of (show (txt s).length = s.size by simp [txt])
  obtain ⟨j, HJ⟩ : ∃ j, Hid (j = a % 8) := ⟨_, hid_of rfl⟩
  have hj : A % 8 = (j : Int) := by rw [HA.out, HJ.out]; simp
  have hj8 : j < 8 := by rw [HJ.out]; omega
  go_enter Tryd.func17, Tryd.ntmps17
  go_wp2_with fail
  refine (H3.out _).mono ?_
  rintro e w3 ⟨g, cap, rfl, r3, hg, hg2, b3⟩
  have hlen : (pad (txt s) (k + 1)).length = N := by rw [pad_len, HS.out, HN.out]
  have hc := r3.cell k (by omega)
  rw [pad_at] at hc
  have hz := r3.frozen k (by omega)
  obtain ⟨c, HC⟩ : ∃ c, Hid (c = at8 (txt s) k) := ⟨_, hid_of rfl⟩
  rw [← HC.out] at hc
  have hc8 : c < 256 := by rw [HC.out]; exact at8_lt _ _
  have hq := setR_eq (v := 0) hc8 hj8 (by omega)
  have HX1 := hid_of (show bits .andNot .u8 (c : Int) (2 ^ (7 - j) % 256) = ((clrN c j : Nat) : Int) by rw [pow_cast hq.2.2.2]; exact u8_andNot_nat _ _ hc8 hq.2.2.2)
  have r4 := r3.set k (by omega) (clrN c j) hq.2.1
  have b4 := b3.setCell (p := ⟨g, k, none⟩) hg (.int .u8 ((clrN c j : Nat) : Int))
  have HE := hid_of (show (pad (txt s) (k + 1)).set k (UInt8.ofNat (clrN c j)) = setS (txt s) a 0 by
    unfold setS; rw [← HK.out, ← HJ.out, ← HC.out, ← hq.1]; rfl)
  have HL := hid_of (show ((pad (txt s) (k + 1)).set k (UInt8.ofNat (clrN c j))).length = N by rw [List.length_set, hlen])
  have R4 := hid_of r4
  have B4 := hid_of b4
  clear r3 b3 hlen r4 b4 hq
  go_wp2_with fail
  rw [HX1.out]
  generalize w3.setCell ⟨g, k, none⟩ (Value.int IntKind.u8 ((clrN c j : Nat) : Int)) = W at *
  have HCV : ∀ n, (convert 54 9 (.slice (some ⟨g, 0, none⟩) N cap)).run Tryd.prog (W.drewN n) = _ := fun n => (R4.out.drewN n).conv N cap HL.out.symm
  have hcv0 : (convert 54 9 (.slice (some ⟨g, 0, none⟩) N cap)).run Tryd.prog W = _ := R4.out.conv N cap HL.out.symm
  clear hc hz HX1
  go_quiet ((go_at_call 32; exact Calls.quiet_of_same (H1.out _)))
  go_wp2
  go_ret3
  exact ⟨ret_sii (by rw [HE.out]), bel B4.out (below_drewN _ _) (Nat.le_refl _)⟩
theorem rsetbit_yes (s : ByteArray) (a v : Nat) (w : World) (hs : s.size ≤ 140737488351232) (ha : a < 8388608) (hv : v < 2) :
    Calls Tryd.prog 17 #[.string s, .int .i64 (a : Int), .int .i64 (v : Int)] w fun e w' => e = .returned (.tuple #[.string (mkB (setS (txt s) a v)), .int .i64 (bitAt (txt s) a : Nat), .int .i64 0]) ∧ Below w.heap.size w w' := by
  rcases (show v = 0 ∨ v = 1 by omega) with rfl | rfl
  · exact rsetbit_zero s a a 0 w (hid_of rfl) hs (by omega) (by omega) rfl rfl
  · exact rsetbit_one s a a 1 w (hid_of rfl) hs (by omega) (by omega) rfl rfl rfl
end Go.Proofs.YtdkdjgpeeglbhaaDoor.RefSplice
