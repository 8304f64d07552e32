/- Bits of bytes: the tables of math/bits, lower, isBit. -/
import Derived.Test.YtdkdjgpeeglbhaaDoorSpan
namespace Go.Proofs.YtdkdjgpeeglbhaaDoor.Bits
open Go.RowKit
open Go.Proofs.YtdkdjgpeeglbhaaDoor.BlobMath
open Go.Proofs.YtdkdjgpeeglbhaaDoor.Span
set_option linter.unusedVariables false
set_option linter.unusedSimpArgs false

theorem ball (P : ∀ x : Nat, ((x : Int) < 256) → Prop) (h : ∀ (x : Nat) (hx : x < 256), P x (Int.ofNat_lt.2 hx)) : ∀ x hx, P x hx := fun x hx => h x (by omega)
set_option maxRecDepth 100000 in
theorem ones_call (x : Nat) (w : World) (hx : x < 256) :
    Calls Tryd.prog 35 #[.int .u8 (x : Int)] w fun e w' => e = .returned (.int .i64 (pc x : Nat)) ∧ w' = w := by
  go_enter Tryd.func35, Tryd.ntmps35
  go_wp2
  go_ret
  refine ⟨ret_i ?_, rfl⟩
  rename_i hq
  revert hq
  clear hx w
  revert x
  apply ball
  decide +kernel
set_option maxRecDepth 100000 in
theorem len8_call (x : Nat) (w : World) (hx : x < 256) :
    Calls Tryd.prog 45 #[.int .u8 (x : Int)] w fun e w' => e = .returned (.int .i64 ((8 - lz x : Nat) : Int)) ∧ w' = w := by
  go_enter Tryd.func45, Tryd.ntmps45
  go_wp2
  go_ret
  refine ⟨ret_i ?_, rfl⟩
  rename_i hq
  revert hq
  clear hx w
  revert x
  apply ball
  decide +kernel
theorem lz_le (x : Nat) : lz x ≤ 8 := by unfold lz; (repeat' split) <;> omega
theorem lz_call (x : Nat) (w : World) (hx : x < 256) :
    Calls Tryd.prog 34 #[.int .u8 (x : Int)] w fun e w' => e = .returned (.int .i64 (lz x : Nat)) ∧ w' = w := by
  have H1 := hid_of (fun w => len8_call x w hx)
  obtain ⟨L, HL⟩ : ∃ L, Hid (L = 8 - lz x) := ⟨_, rfl⟩
  have hL : L ≤ 8 := by rw [HL.out]; omega
  rw [← HL.out] at H1
  go_enter Tryd.func34, Tryd.ntmps34
  go_wp2_with fail
  refine (H1.out _).mono ?_
  rintro e w1 ⟨rfl, rfl⟩
  go_wp2
  go_ret
  exact ⟨ret_i (by have := lz_le x; rw [HL.out]; omega), rfl⟩
theorem lower_call (a : Nat) (w : World) (ha : a ≤ 8388608) :
    Calls Tryd.prog 31 #[.int .i64 (a : Int)] w fun e w' => e = .returned (.int .i64 ((7 - a % 8 : Nat) : Int)) ∧ w' = w := by
  go_enter Tryd.func31, Tryd.ntmps31
  go_wp2
  go_ret
  exact ⟨ret_i (by omega), rfl⟩
theorem isbit_call (b : Int) (w : World) :
    Calls Tryd.prog 33 #[.int .i64 b] w fun e w' => e = .returned (.bool (b == 0 || b == 1)) ∧ w' = w := by
  cases h0 : (b == 0) <;> cases h1 : (b == 1)
  all_goals
    go_enter Tryd.func33, Tryd.ntmps33
    go_wp2
    go_ret
    exact ⟨rfl, rfl⟩
theorem byte_at {s : ByteArray} {k : Nat} (h : k < s.size) : s[k].toNat = at8 s.data.toList k := by
  rw [at8_in (l := s.data.toList) (by simpa using h)]; rfl
theorem and_one {x : Nat} (h : x < 256) : bits BinOp.and IntKind.i64 (x : Int) 1 = ((x % 2 : Nat) : Int) := by
  revert h; revert x; decide +kernel
theorem and_one8 {x : Nat} (h : x < 256) : bits BinOp.and IntKind.u8 (x : Int) 1 = ((x % 2 : Nat) : Int) := by
  revert h; revert x; decide +kernel
theorem shr_lt {c : Nat} (hc : c < 256) (k : Nat) : c / 2 ^ k < 256 := Nat.lt_of_le_of_lt (Nat.div_le_self _ _) hc
theorem cast_shr (c k : Nat) : (c : Int) / 2 ^ k = ((c / 2 ^ k : Nat) : Int) := by simp
theorem wrap_byte {x : Nat} (h : x < 256) : wrap64 (x : Int) = (x : Int) := by simp [wrap64, IntKind.wrap, IntKind.signed, IntKind.bits]; omega
theorem bit_eq (c : Nat) (hc : c < 256) (a : Nat) : bits BinOp.and IntKind.i64 (wrap64 ((c : Int) / 2 ^ (7 - a % 8))) 1 = ((bitB c (a % 8) : Nat) : Int) := by
  rw [cast_shr, wrap_byte (shr_lt hc _), and_one (shr_lt hc _)]; rfl
theorem rbit_call (s : ByteArray) (a : Nat) (w : World) (hs : s.size ≤ 140737488351232) (ha : a ≤ 9007199254740992) :
    Calls Tryd.prog 32 #[.string s, .int .i64 (a : Int)] w fun e w' => e = .returned (.int .i64 (bitAt s.data.toList a : Nat)) ∧ w' = w := by
  by_cases h : a / 8 < s.size
  · go_enter Tryd.func32, Tryd.ntmps32
    go_wp2
    go_ret
    refine ⟨ret_i ?_, rfl⟩
    rw [byte_at h]
    exact bit_eq _ (at8_lt _ _) a
  · go_enter Tryd.func32, Tryd.ntmps32
    go_wp2
    go_ret
    exact ⟨ret_i (by rw [bitAt_out (by simpa using h)]; rfl), rfl⟩
end Go.Proofs.YtdkdjgpeeglbhaaDoor.Bits
