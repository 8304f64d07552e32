/- What only reads: Range, Bit, Count and First of the code and of the document. -/
import Derived.Test.YtdkdjgpeeglbhaaDoorBits
import Derived.Test.YtdkdjgpeeglbhaaDoorShelf
import Derived.BigQuiet
import Derived.Laws.BitsAllLaws
namespace Go.Proofs.YtdkdjgpeeglbhaaDoor.Reads
open Go.RowKit
open Go.Proofs.YtdkdjgpeeglbhaaDoor.BlobMath
open Go.Proofs.YtdkdjgpeeglbhaaDoor.Span
open Go.Proofs.YtdkdjgpeeglbhaaDoor.Bits
set_option linter.unusedVariables false
set_option linter.unusedSimpArgs false

theorem clone_call (s : ByteArray) (hs : s.size ≤ 281474976710656) (w : World) : Calls Tryd.prog 27 #[.string s] w fun e w' => e = .returned (.string s) ∧ Below w.heap.size w w' := by
  have H1 := hid_of (fun w => Tryd.stringslite_Clone s w hs)
  go_enter Tryd.func27, Tryd.ntmps27
  go_wp2_with fail
  refine (H1.out _).mono ?_
  rintro e w1 ⟨rfl, b1⟩
  go_wp2_with fail
  go_ret
  exact ⟨rfl, b1⟩
/-- a piece of a text -/
theorem cut_run (s : ByteArray) (a b : Nat) (x y : Int) (hx : x = a) (hy : y = b) (hab : a ≤ b) (hb : b ≤ s.size) (w : World) :
    (Instr.slice 9 (.string s) (some (.int .i64 x)) (some (.int .i64 y)) none).run Tryd.prog w = .ok (.string (s.extract a b)) w := by
  subst hx hy
  rw [run_slice_string (P := Tryd.prog) (w := w) 9 s .i64 .i64 a b Tryd.underlying9 (by omega) (by omega) (by omega)]
  simp
theorem cut_size (s : ByteArray) (a b : Nat) : (s.extract a b).size ≤ s.size := by simp; omega
theorem range_call (s : ByteArray) (f t : Int) (w : World) (hs : s.size ≤ 140737488351232) (hf : InI f) (ht : InI t) :
    Calls Tryd.prog 9 #[.string s, .int .i64 f, .int .i64 t] w fun e w' => e = .returned (.string (s.extract (spA s.size f t) (spB s.size f t))) ∧ Below w.heap.size w w' := by
  have H1 := hid_of (fun w => span_call s.size f t w hs hf ht)
  obtain ⟨h1, h2⟩ := sp_le s.size f t
  generalize spA s.size f t = A at *
  generalize spB s.size f t = B at *
  have hsl := cut_run s A B A B rfl rfl h1 h2
  have H2 := hid_of (fun w => clone_call (s.extract A B) (by have := cut_size s A B; omega) w)
  clear h1 h2 hf ht
  generalize s.extract A B = X at *
  go_enter Tryd.func9, Tryd.ntmps9
  go_wp2_with fail
  refine (H1.out _).mono ?_
  rintro e w1 ⟨rfl, rfl⟩
  go_wp2_with fail
  refine (H2.out _).mono ?_
  rintro e w2 ⟨rfl, b2⟩
  go_wp2_with fail
  go_ret
  exact ⟨rfl, b2⟩
theorem cut_none (s : ByteArray) (a : Nat) : s.extract a a = s.extract 0 0 := by
  apply ByteArray.ext
  simp
theorem rrange_call (s : ByteArray) (f t : Int) (w : World) (hs : s.size ≤ 140737488351232) (hf : InI f) (ht : InI t) :
    Calls Tryd.prog 10 #[.string s, .int .i64 f, .int .i64 t] w fun e w' => e = .returned (.string (s.extract (spA s.size f t) (spB s.size f t))) ∧ w' = w := by
  have H1 := hid_of (fun w => places_call s.size f t w hs hf ht)
  have hp := pl_same s.size f t
  obtain ⟨h1, h2⟩ := sp_le s.size f t
  obtain ⟨a, b, ha, hb, hab, hbn, hE⟩ : ∃ a b : Nat, plA s.size f t = a ∧ plB s.size f t + 1 = b ∧ a ≤ b ∧ b ≤ s.size ∧ s.extract (spA s.size f t) (spB s.size f t) = s.extract a b := by
    rcases hp with ⟨p1, p2⟩ | ⟨p1, p2, p3⟩
    · exact ⟨_, _, p1, p2, h1, h2, rfl⟩
    · exact ⟨0, 0, p1, p2, Nat.le_refl _, Nat.zero_le _, by rw [p3]; exact cut_none _ _⟩
  have hsl := cut_run s a b (plA s.size f t) (plB s.size f t + 1) ha hb hab hbn
  rw [hE]
  generalize s.extract a b = X at *
  generalize plA s.size f t = A at *
  generalize plB s.size f t = B at *
  have hB : -1 ≤ B ∧ B ≤ 140737488351232 := by omega
  obtain ⟨hB0, hB1⟩ := hB
  clear hE hp h1 h2 ha hb hab hbn hf ht
  go_enter Tryd.func10, Tryd.ntmps10
  go_wp2_with fail
  refine (H1.out _).mono ?_
  rintro e w1 ⟨rfl, rfl⟩
  go_wp2
  go_ret
  exact ⟨rfl, rfl⟩

/-! ### a bit -/
theorem ret_ii2 {a b c : Int} (h1 : a = b) : Ending.returned (.tuple #[.int .i64 a, .int .i64 c]) = .returned (.tuple #[.int .i64 b, .int .i64 c]) := by rw [h1]
theorem below_drewN (w : World) (n : Nat) : Below w.heap.size w (w.drewN n) := ⟨rfl, rfl, rfl, Nat.le_refl _, fun _ _ => rfl⟩
theorem index_at (s : ByteArray) (j : Nat) (h : j < s.size) (x : Int) (hx : x = (j : Int)) (w : World) : (Instr.index 9 (.string s) (.int .i64 x)).run Tryd.prog w = .ok (.int .u8 s[j].toNat) w := by
  subst hx
  simp [Instr.index, run_underlying Tryd.underlying9, go_sem, h]
def inB (a : Int) : Prop := 0 ≤ a ∧ a < 8388608
theorem bit_no (s : ByteArray) (a : Int) (w : World) (h : ¬ inB a) :
    Calls Tryd.prog 14 #[.string s, .int .i64 a] w fun e w' => e = .returned (.tuple #[.int .i64 0, .int .i64 80]) ∧ w' = w := by
  unfold inB at h
  rcases (show a < 0 ∨ 8388608 ≤ a by omega) with h | h
  all_goals
    go_enter Tryd.func14, Tryd.ntmps14
    go_wp2
    go_ret2
    exact ⟨rfl, rfl⟩
theorem rbit_no (s : ByteArray) (a : Int) (w : World) (h : ¬ inB a) :
    Calls Tryd.prog 15 #[.string s, .int .i64 a] w fun e w' => e = .returned (.tuple #[.int .i64 0, .int .i64 80]) ∧ w' = w := by
  unfold inB at h
  rcases (show a < 0 ∨ 8388608 ≤ a by omega) with h | h
  all_goals
    go_enter Tryd.func15, Tryd.ntmps15
    go_wp2
    go_ret2
    exact ⟨rfl, rfl⟩
theorem rbit_yes (s : ByteArray) (a : Nat) (w : World) (hs : s.size ≤ 140737488351232) (h : a < 8388608) :
    Calls Tryd.prog 15 #[.string s, .int .i64 (a : Int)] w fun e w' => e = .returned (.tuple #[.int .i64 (bitAt s.data.toList a : Nat), .int .i64 0]) ∧ w' = w := by
  have H1 := hid_of (fun w => rbit_call s a w hs (by omega))
  go_enter Tryd.func15, Tryd.ntmps15
  go_wp2_with fail
  refine (H1.out _).mono ?_
  rintro e w1 ⟨rfl, rfl⟩
  go_wp2
  go_ret2
  exact ⟨rfl, rfl⟩
theorem bit_eq8 (c : Nat) (hc : c < 256) (a : Nat) : wrap64 (bits BinOp.and IntKind.u8 ((c : Int) / 2 ^ (7 - a % 8)) 1) = ((bitB c (a % 8) : Nat) : Int) := by
  rw [cast_shr, and_one8 (shr_lt hc _), wrap_byte (by have := shr_lt hc (7 - a % 8); omega)]; rfl
theorem bit_yes (s : ByteArray) (a : Nat) (w : World) (hs : s.size ≤ 140737488351232) (ha : a < 8388608) :
    Calls Tryd.prog 14 #[.string s, .int .i64 (a : Int)] w fun e w' => e = .returned (.tuple #[.int .i64 (bitAt s.data.toList a : Nat), .int .i64 0]) ∧ Below w.heap.size w w' := by
  by_cases h : a / 8 < s.size
  · have H1 := hid_of (fun w => lower_call a w (by omega))
    have hx := index_at s (a / 8) h ((a : Int) / 8) (by omega)
    have hk : a % 8 ≤ 7 := by omega
    go_enter Tryd.func14, Tryd.ntmps14
    go_wp2_with fail
    go_quiet ((go_at_call 31; exact Calls.quiet_of_same (H1.out _)))
    go_wp2_with fail
    go_ret2
    exact ⟨ret_ii2 (by rw [byte_at h]; exact bit_eq8 _ (at8_lt _ _) a), below_drewN _ _⟩
  · have HE := hid_of (bitAt_out (l := s.data.toList) (i := a) (by simpa using h))
    go_enter Tryd.func14, Tryd.ntmps14
    go_wp2
    go_ret2
    exact ⟨ret_ii2 (by rw [HE.out]; rfl), Below.refl _ _⟩

/-! ### counting -/
theorem val_i {a b : Int} (h : a = b) : Value.int .i64 a = .int .i64 b := by rw [h]
theorem hid_nat {a b : Nat} (h : Hid (a = b)) : a = b := h
theorem count_call (s : ByteArray) (f t : Int) (w : World) (hs : s.size ≤ 140737488351232) (hf : InI f) (ht : InI t) :
    Calls Tryd.prog 20 #[.string s, .int .i64 f, .int .i64 t] w fun e w' => e = .returned (.int .i64 (sumPc s.data.toList (spA s.size f t) (spB s.size f t - spA s.size f t) : Nat)) ∧ w' = w := by
  have H1 := hid_of (fun w => span_call s.size f t w hs hf ht)
  obtain ⟨h1, h2⟩ := sp_le s.size f t
  generalize spA s.size f t = A at *
  generalize spB s.size f t = B at *
  obtain ⟨S, HS⟩ : ∃ S, Hid (S = sumPc s.data.toList A (B - A)) := ⟨_, rfl⟩
  rw [← HS.out]
  clear hf ht
  go_enter Tryd.func20, Tryd.ntmps20
  go_wp2_with fail
  refine (H1.out _).mono ?_
  rintro e w1 ⟨rfl, rfl⟩
  go_wp2_with fail
  go_loop [9, 10] (fun x i => ∃ k n : Nat, A + k ≤ B ∧ i = .int .i64 ((A + k : Nat) : Int) ∧ x = .int .i64 (n : Int) ∧ n ≤ 8 * k ∧ Hid (n = sumPc s.data.toList A k)) (fun _ i => B - (intOf i).toNat)
  case atStart => exact ⟨0, 0, h1, rfl, rfl, Nat.zero_le _, rfl⟩
  case round =>
    obtain ⟨k, n, hk, rfl, rfl, hn, HN⟩ := hrel
    obtain ⟨j, HJ⟩ : ∃ j, Hid (j = A + k) := ⟨_, rfl⟩
    rw [← HJ.out] at hk ⊢
    have hj : j ≤ B := hk
    by_cases hlt : j < B
    · have hjs : j < s.size := by omega
      have HQ := hid_of (fun w => ones_call s[j].toNat w s[j].toNat_lt)
      obtain ⟨q, HQq⟩ : ∃ q, Hid (q = pc s[j].toNat) := ⟨_, hid_of rfl⟩
      rw [← HQq.out] at HQ
      have hq : q ≤ 8 := by rw [HQq.out]; exact pc_le _
      have HN2 := hid_of (show n + q = sumPc s.data.toList A (k + 1) by rw [sumPc, HN.out, HQq.out, byte_at hjs, HJ.out])
      have hkb : k ≤ 140737488351232 := by rw [HJ.out] at hjs; omega
      go_wp2_with (go_at_call 35; refine (HQ.out _).mono ?_; rintro e w2 ⟨rfl, rfl⟩)
      exact ⟨⟨k + 1, n + q, by have := HJ.out; omega, val_i (by have := HJ.out; omega), rfl, by omega, HN2⟩, by simp [intOf]; omega⟩
    · have hE := hid_of (show n = S by rw [HS.out, HN.out, show B - A = k by have := HJ.out; omega])
      go_wp2
      go_ret
      exact ⟨ret_i (by rw [hE.out]), rfl⟩
/-- the document's places, as numbers -/
theorem places_nat (n : Nat) (f t : Int) : ∃ a b : Nat, plA n f t = a ∧ plB n f t = (b : Int) - 1 ∧ a ≤ b ∧ b ≤ n ∧ ((a = spA n f t ∧ b = spB n f t) ∨ (a = 0 ∧ b = 0 ∧ spA n f t = spB n f t)) := by
  obtain ⟨h1, h2⟩ := sp_le n f t
  rcases pl_same n f t with ⟨p1, p2⟩ | ⟨p1, p2, p3⟩
  · exact ⟨_, _, p1, by omega, h1, h2, .inl ⟨rfl, rfl⟩⟩
  · exact ⟨0, 0, p1, by omega, Nat.le_refl _, Nat.zero_le _, .inr ⟨rfl, rfl, p3⟩⟩
theorem rcount_call (s : ByteArray) (f t : Int) (w : World) (hs : s.size ≤ 140737488351232) (hf : InI f) (ht : InI t) :
    Calls Tryd.prog 21 #[.string s, .int .i64 f, .int .i64 t] w fun e w' => e = .returned (.int .i64 (sumPc s.data.toList (spA s.size f t) (spB s.size f t - spA s.size f t) : Nat)) ∧ w' = w := by
  have H1 := hid_of (fun w => places_call s.size f t w hs hf ht)
  obtain ⟨a, b, ha, hb, hab, hbn, hE⟩ := places_nat s.size f t
  rw [ha, hb] at H1
  obtain ⟨S, HS⟩ : ∃ S, Hid (S = sumBits s.data.toList (8 * a) (8 * (b - a))) := ⟨_, hid_of rfl⟩
  have HR := hid_of (show sumPc s.data.toList (spA s.size f t) (spB s.size f t - spA s.size f t) = S by
    rw [HS.out, sum_eq]
    rcases hE with ⟨rfl, rfl⟩ | ⟨rfl, rfl, h⟩
    · rfl
    · rw [h, Nat.sub_self]; rfl)
  rw [HR.out]
  clear hE HR ha hb hf ht
  go_enter Tryd.func21, Tryd.ntmps21
  go_wp2_with fail
  refine (H1.out _).mono ?_
  rintro e w1 ⟨rfl, rfl⟩
  go_wp2_with fail
  go_loop [9, 10] (fun x i => ∃ k n : Nat, 8 * a + k ≤ 8 * b ∧ i = .int .i64 ((8 * a + k : Nat) : Int) ∧ x = .int .i64 (n : Int) ∧ n ≤ k ∧ Hid (n = sumBits s.data.toList (8 * a) k)) (fun _ i => 8 * b - (intOf i).toNat)
  case atStart => exact ⟨0, 0, by omega, rfl, rfl, Nat.zero_le _, rfl⟩
  case round =>
    obtain ⟨k, n, hk, rfl, rfl, hn, HN⟩ := hrel
    obtain ⟨j, HJ⟩ : ∃ j, Hid (j = 8 * a + k) := ⟨_, hid_of rfl⟩
    rw [← HJ.out] at hk ⊢
    have hkb : k ≤ 8 * 140737488351232 := by rw [HJ.out] at hk; omega
    by_cases hlt : j < 8 * b
    · have HQ := hid_of (fun w => rbit_call s j w hs (by omega))
      obtain ⟨q, HQq⟩ : ∃ q, Hid (q = bitAt s.data.toList j) := ⟨_, hid_of rfl⟩
      rw [← HQq.out] at HQ
      have hq : q < 2 := by rw [HQq.out]; exact bitAt_lt _ _
      have HN2 := hid_of (show n + q = sumBits s.data.toList (8 * a) (k + 1) by rw [sumBits, HN.out, HQq.out, HJ.out])
      go_wp2_with (go_at_call 32; refine (HQ.out _).mono ?_; rintro e w2 ⟨rfl, rfl⟩)
      exact ⟨⟨k + 1, n + q, by have := HJ.out; omega, val_i (by have := HJ.out; omega), rfl, by omega, HN2⟩, by simp [intOf]; omega⟩
    · have hE := hid_of (show n = S by rw [HS.out, HN.out, show 8 * (b - a) = k by have := HJ.out; omega])
      go_wp2
      go_ret
      exact ⟨ret_i (by rw [hE.out]), rfl⟩

/-! ### the first one -/
theorem first_no (s : ByteArray) (v f t : Int) (w : World) (h0 : (v == 0) = false) (h1 : (v == 1) = false) :
    Calls Tryd.prog 18 #[.string s, .int .i64 v, .int .i64 f, .int .i64 t] w fun e w' => e = .returned (.tuple #[.int .i64 0, .int .i64 80]) ∧ w' = w := by
  have H1 := hid_of (fun w => isbit_call v w)
  rw [h0, h1] at H1
  go_enter Tryd.func18, Tryd.ntmps18
  go_wp2_with fail
  refine (H1.out _).mono ?_
  rintro e w1 ⟨rfl, rfl⟩
  go_wp2
  go_ret2
  exact ⟨rfl, rfl⟩
theorem rfirst_no (s : ByteArray) (v f t : Int) (w : World) (h0 : (v == 0) = false) (h1 : (v == 1) = false) :
    Calls Tryd.prog 19 #[.string s, .int .i64 v, .int .i64 f, .int .i64 t] w fun e w' => e = .returned (.tuple #[.int .i64 0, .int .i64 80]) ∧ w' = w := by
  have n0 : (v != 0) = true := by rw [bne, h0]; rfl
  have n1 : (v != 1) = true := by rw [bne, h1]; rfl
  go_enter Tryd.func19, Tryd.ntmps19
  go_wp2
  go_ret2
  exact ⟨rfl, rfl⟩
theorem byte_is {x c : Nat} (h : ((x : Int) == (c : Int)) = true) : x = c := by have := beq_iff_eq.1 h; omega
theorem xor_c (c d : Nat) (hc : c < 256) (hd : d < 256) (w : World) : Calls Tryd.prog 34 #[.int .u8 (bits .xor .u8 (c : Int) (d : Int))] w fun e w' => e = .returned (.int .i64 (lz (c ^^^ d) : Nat)) ∧ w' = w := by
  rw [u8_xor_nat c d hc hd]
  exact lz_call _ w (Nat.xor_lt_two_pow (n := 8) hc hd)
theorem first_0 (s : ByteArray) (f t : Int) (w : World) (r : Int) (hs : s.size ≤ 140737488351232) (hf : InI f) (ht : InI t) (hr : FirstIs s.data.toList 0 (8 * spA s.size f t) (8 * spB s.size f t) r) :
    Calls Tryd.prog 18 #[.string s, .int .i64 0, .int .i64 f, .int .i64 t] w fun e w' => e = .returned (.tuple #[.int .i64 r, .int .i64 0]) ∧ w' = w := by
  have H1 := hid_of (fun w => span_call s.size f t w hs hf ht)
  have H0 := hid_of (fun w => isbit_call 0 w)
  have HR := hid_of hr
  obtain ⟨h1, h2⟩ := sp_le s.size f t
  generalize spA s.size f t = A at *
  generalize spB s.size f t = B at *
  clear hf ht hr
  go_enter Tryd.func18, Tryd.ntmps18
  go_wp2_with fail
  refine (H0.out _).mono ?_
  rintro e w0 ⟨rfl, rfl⟩
  go_wp2_with fail
  refine (H1.out _).mono ?_
  rintro e w1 ⟨rfl, rfl⟩
  go_wp2_with fail
  go_loop [13] (fun i => ∃ j : Nat, A ≤ j ∧ j ≤ B ∧ i = .int .i64 (j : Int) ∧ Hid (NoBit s.data.toList 0 (8 * A) (8 * j))) (fun i => B - (intOf i).toNat)
  case atStart => exact ⟨A, Nat.le_refl _, h1, rfl, NoBit.zero _ _ _⟩
  case round =>
    obtain ⟨j, hA, hB, rfl, HN⟩ := hrel
    by_cases hlt : j < B
    · have hjs : j < s.size := by omega
      have HC := hid_of (byte_at hjs)
      have HX := hid_of (fun w => xor_c s[j].toNat 255 s[j].toNat_lt (by omega) w)
      obtain ⟨q, HQ⟩ : ∃ q, Hid (q = lz (s[j].toNat ^^^ 255)) := ⟨_, hid_of rfl⟩
      rw [← HQ.out] at HX
      have hq : q ≤ 8 := by rw [HQ.out]; exact lz_le _
      cases hc : ((s[j].toNat : Int) == 255)
      · have HE := hid_of (show ((8 * j + q : Nat) : Int) = r by
          have hne : at8 s.data.toList j ≠ 255 * (1 - 0) := by
            rw [← HC.out]; intro h; rw [h] at hc; simp at hc
          have := HN.out.hit (v := 0) (by omega) hA hlt hne
          rw [HQ.out, HC.out]
          exact this.unique HR.out)
        go_wp2_with (go_at_call 34; refine (HX.out _).mono ?_; rintro e w2 ⟨rfl, rfl⟩)
        go_ret2
        exact ⟨ret_ii2 (by rw [← HE.out]; omega), rfl⟩
      · have HN2 := hid_of (HN.out.byte (v := 0) (by omega) (by rw [← HC.out]; exact byte_is hc))
        go_wp2_with fail
        exact ⟨⟨j + 1, by omega, by omega, by go_num, HN2⟩, by simp [intOf]; omega⟩
    · have HE := hid_of (HN.out.none.unique (by rw [show j = B by omega]; exact HR.out))
      go_wp2
      go_ret2
      exact ⟨ret_ii2 HE.out, rfl⟩
theorem rfirst_0 (s : ByteArray) (f t : Int) (w : World) (r : Int) (hs : s.size ≤ 140737488351232) (hf : InI f) (ht : InI t) (hr : FirstIs s.data.toList 0 (8 * spA s.size f t) (8 * spB s.size f t) r) :
    Calls Tryd.prog 19 #[.string s, .int .i64 0, .int .i64 f, .int .i64 t] w fun e w' => e = .returned (.tuple #[.int .i64 r, .int .i64 0]) ∧ w' = w := by
  have H1 := hid_of (fun w => places_call s.size f t w hs hf ht)
  obtain ⟨a, b, ha, hb, hab, hbn, hE⟩ := places_nat s.size f t
  rw [ha, hb] at H1
  have HR := hid_of (show FirstIs s.data.toList 0 (8 * a) (8 * b) r by
    rcases hE with ⟨rfl, rfl⟩ | ⟨rfl, rfl, h⟩
    · exact hr
    · rw [h] at hr
      rcases hr with ⟨rfl, _⟩ | ⟨k, _, q1, q2, _⟩
      · exact .inl ⟨rfl, fun i _ h => by omega⟩
      · omega)
  clear hE ha hb hf ht hr
  go_enter Tryd.func19, Tryd.ntmps19
  go_wp2_with fail
  refine (H1.out _).mono ?_
  rintro e w1 ⟨rfl, rfl⟩
  go_wp2_with fail
  go_loop [12] (fun i => ∃ j : Nat, 8 * a ≤ j ∧ j ≤ 8 * b ∧ i = .int .i64 (j : Int) ∧ Hid (NoBit s.data.toList 0 (8 * a) j)) (fun i => 8 * b - (intOf i).toNat)
  case atStart => exact ⟨8 * a, Nat.le_refl _, by omega, by go_num, NoBit.zero _ _ _⟩
  case round =>
    obtain ⟨j, hA, hB, rfl, HN⟩ := hrel
    by_cases hlt : j < 8 * b
    · have HX := hid_of (fun w => rbit_call s j w hs (by omega))
      obtain ⟨q, HQ⟩ : ∃ q, Hid (q = bitAt s.data.toList j) := ⟨_, hid_of rfl⟩
      rw [← HQ.out] at HX
      have hq : q < 2 := by rw [HQ.out]; exact bitAt_lt _ _
      rcases (show q = 0 ∨ q = 1 by omega) with rfl | rfl
      · have HE := hid_of ((HN.out.found hA hlt HQ.out.symm).unique HR.out)
        go_wp2_with (go_at_call 32; refine (HX.out _).mono ?_; rintro e w2 ⟨rfl, rfl⟩)
        go_ret2
        exact ⟨ret_ii2 HE.out, rfl⟩
      · have HN2 := hid_of (HN.out.next (show bitAt s.data.toList j ≠ 0 by rw [← HQ.out]; omega))
        go_wp2_with (go_at_call 32; refine (HX.out _).mono ?_; rintro e w2 ⟨rfl, rfl⟩)
        exact ⟨⟨j + 1, by omega, by omega, by go_num, HN2⟩, by simp [intOf]; omega⟩
    · have HE := hid_of (HN.out.none.unique (by rw [show j = 8 * b by omega]; exact HR.out))
      go_wp2
      go_ret2
      exact ⟨ret_ii2 HE.out, rfl⟩
theorem first_1 (s : ByteArray) (f t : Int) (w : World) (r : Int) (hs : s.size ≤ 140737488351232) (hf : InI f) (ht : InI t) (hr : FirstIs s.data.toList 1 (8 * spA s.size f t) (8 * spB s.size f t) r) :
    Calls Tryd.prog 18 #[.string s, .int .i64 1, .int .i64 f, .int .i64 t] w fun e w' => e = .returned (.tuple #[.int .i64 r, .int .i64 0]) ∧ w' = w := by
  have H1 := hid_of (fun w => span_call s.size f t w hs hf ht)
  have H0 := hid_of (fun w => isbit_call 1 w)
  have HR := hid_of hr
  obtain ⟨h1, h2⟩ := sp_le s.size f t
  generalize spA s.size f t = A at *
  generalize spB s.size f t = B at *
  clear hf ht hr
  go_enter Tryd.func18, Tryd.ntmps18
  go_wp2_with fail
  refine (H0.out _).mono ?_
  rintro e w0 ⟨rfl, rfl⟩
  go_wp2_with fail
  refine (H1.out _).mono ?_
  rintro e w1 ⟨rfl, rfl⟩
  go_wp2_with fail
  go_loop [13] (fun i => ∃ j : Nat, A ≤ j ∧ j ≤ B ∧ i = .int .i64 (j : Int) ∧ Hid (NoBit s.data.toList 1 (8 * A) (8 * j))) (fun i => B - (intOf i).toNat)
  case atStart => exact ⟨A, Nat.le_refl _, h1, rfl, NoBit.zero _ _ _⟩
  case round =>
    obtain ⟨j, hA, hB, rfl, HN⟩ := hrel
    by_cases hlt : j < B
    · have hjs : j < s.size := by omega
      have HC := hid_of (byte_at hjs)
      have HX := hid_of (fun w => xor_c s[j].toNat 0 s[j].toNat_lt (by omega) w)
      obtain ⟨q, HQ⟩ : ∃ q, Hid (q = lz (s[j].toNat ^^^ 0)) := ⟨_, hid_of rfl⟩
      rw [← HQ.out] at HX
      have hq : q ≤ 8 := by rw [HQ.out]; exact lz_le _
      cases hc : ((s[j].toNat : Int) == 0)
      · have HE := hid_of (show ((8 * j + q : Nat) : Int) = r by
          have hne : at8 s.data.toList j ≠ 255 * (1 - 1) := by
            rw [← HC.out]; intro h; rw [h] at hc; simp at hc
          have := HN.out.hit (v := 1) (by omega) hA hlt hne
          rw [HQ.out, HC.out]
          exact this.unique HR.out)
        go_wp2_with (go_at_call 34; refine (HX.out _).mono ?_; rintro e w2 ⟨rfl, rfl⟩)
        go_ret2
        exact ⟨ret_ii2 (by rw [← HE.out]; omega), rfl⟩
      · have HN2 := hid_of (HN.out.byte (v := 1) (by omega) (by rw [← HC.out]; exact byte_is hc))
        go_wp2_with fail
        exact ⟨⟨j + 1, by omega, by omega, by go_num, HN2⟩, by simp [intOf]; omega⟩
    · have HE := hid_of (HN.out.none.unique (by rw [show j = B by omega]; exact HR.out))
      go_wp2
      go_ret2
      exact ⟨ret_ii2 HE.out, rfl⟩
theorem rfirst_1 (s : ByteArray) (f t : Int) (w : World) (r : Int) (hs : s.size ≤ 140737488351232) (hf : InI f) (ht : InI t) (hr : FirstIs s.data.toList 1 (8 * spA s.size f t) (8 * spB s.size f t) r) :
    Calls Tryd.prog 19 #[.string s, .int .i64 1, .int .i64 f, .int .i64 t] w fun e w' => e = .returned (.tuple #[.int .i64 r, .int .i64 0]) ∧ w' = w := by
  have H1 := hid_of (fun w => places_call s.size f t w hs hf ht)
  obtain ⟨a, b, ha, hb, hab, hbn, hE⟩ := places_nat s.size f t
  rw [ha, hb] at H1
  have HR := hid_of (show FirstIs s.data.toList 1 (8 * a) (8 * b) r by
    rcases hE with ⟨rfl, rfl⟩ | ⟨rfl, rfl, h⟩
    · exact hr
    · rw [h] at hr
      rcases hr with ⟨rfl, _⟩ | ⟨k, _, q1, q2, _⟩
      · exact .inl ⟨rfl, fun i _ h => by omega⟩
      · omega)
  clear hE ha hb hf ht hr
  go_enter Tryd.func19, Tryd.ntmps19
  go_wp2_with fail
  refine (H1.out _).mono ?_
  rintro e w1 ⟨rfl, rfl⟩
  go_wp2_with fail
  go_loop [12] (fun i => ∃ j : Nat, 8 * a ≤ j ∧ j ≤ 8 * b ∧ i = .int .i64 (j : Int) ∧ Hid (NoBit s.data.toList 1 (8 * a) j)) (fun i => 8 * b - (intOf i).toNat)
  case atStart => exact ⟨8 * a, Nat.le_refl _, by omega, by go_num, NoBit.zero _ _ _⟩
  case round =>
    obtain ⟨j, hA, hB, rfl, HN⟩ := hrel
    by_cases hlt : j < 8 * b
    · have HX := hid_of (fun w => rbit_call s j w hs (by omega))
      obtain ⟨q, HQ⟩ : ∃ q, Hid (q = bitAt s.data.toList j) := ⟨_, hid_of rfl⟩
      rw [← HQ.out] at HX
      have hq : q < 2 := by rw [HQ.out]; exact bitAt_lt _ _
      rcases (show q = 0 ∨ q = 1 by omega) with rfl | rfl
      · have HN2 := hid_of (HN.out.next (show bitAt s.data.toList j ≠ 1 by rw [← HQ.out]; omega))
        go_wp2_with (go_at_call 32; refine (HX.out _).mono ?_; rintro e w2 ⟨rfl, rfl⟩)
        exact ⟨⟨j + 1, by omega, by omega, by go_num, HN2⟩, by simp [intOf]; omega⟩
      · have HE := hid_of ((HN.out.found hA hlt HQ.out.symm).unique HR.out)
        go_wp2_with (go_at_call 32; refine (HX.out _).mono ?_; rintro e w2 ⟨rfl, rfl⟩)
        go_ret2
        exact ⟨ret_ii2 HE.out, rfl⟩
    · have HE := hid_of (HN.out.none.unique (by rw [show j = 8 * b by omega]; exact HR.out))
      go_wp2
      go_ret2
      exact ⟨ret_ii2 HE.out, rfl⟩
end Go.Proofs.YtdkdjgpeeglbhaaDoor.Reads
