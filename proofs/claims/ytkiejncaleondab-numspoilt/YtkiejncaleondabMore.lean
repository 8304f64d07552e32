/- The contracts of num.More and num.Crc: the sum that the document's own loop over bits gives; old memory stands. -/
import Derived.Test.YtkiejncaleondabCrc
namespace Go.Proofs.Ytkiejncaleondab.More
open Go.RowKit
open Go.Proofs.Ytkiejncaleondab.CrcMath
open Go.Proofs.Ytkiejncaleondab.Crc
set_option linter.unusedVariables false

theorem row_read (w1 : World) : ∀ j, j < 256 → ((w1.alloc (.cells (tabK 0) 32)).setRow w1.heap.size (tabK 256)).cell? ⟨w1.heap.size, j, none⟩ = some (.int .u32 (shN 8 j : Nat)) := by
  intro j hj
  rw [cell_of_row _ w1.heap.size j (tabK 256) 32 (0, 0) (setRow_heap _ _ _ _ _ _ (heap_alloc_new w1 _)), tabK_get 256 j hj, if_pos hj]
theorem row_below {w w1 : World} (hb : Below w.heap.size w w1) : Below w.heap.size w ((w1.alloc (.cells (tabK 0) 32)).setRow w1.heap.size (tabK 256)) :=
  below_row (hb.alloc hb.size _) hb.size _

theorem xor8 {y c : Nat} (hc : c < 256) : bits .xor .u8 ((y : Int) % 256) (c : Int) = (((y % 256) ^^^ c : Nat) : Int) := by
  have := u8_xor_nat (y % 256) c (by omega) hc
  rw [← this]; simp
theorem xor32 {y z : Nat} (hy : y < 4294967296) (hz : z < 4294967296) : bits .xor .u32 ((y : Int) / 256) (z : Int) = (((y / 256) ^^^ z : Nat) : Int) := by
  have := u32_xor_nat (y / 256) z (by omega) hz
  rw [← this]; simp
/-- what one byte does: the table's place j, and the next sum -/
theorem byte_step {r y k : Nat} {s : ByteArray} (h : k < s.size) (hy : y < 4294967296) (HY : Hid (y = foldN (4294967295 ^^^ r) (s.data.toList.take k))) :
    ∃ j : Nat, Hid (j = (y % 256) ^^^ s[k].toNat) ∧ j < 256 ∧ bits .xor .u8 ((y : Int) % 256) (s[k].toNat : Int) = (j : Int) ∧
      Hid (bits .xor .u32 ((y : Int) / 256) (shN 8 j : Nat) = ((foldN (4294967295 ^^^ r) (s.data.toList.take (k + 1)) : Nat) : Int)) := by
  have hc := s[k].toNat_lt
  have hl : (y % 256) ^^^ s[k].toNat < 2 ^ 8 := Nat.xor_lt_two_pow (by omega) hc
  refine ⟨_, hid_of rfl, hl, xor8 hc, ?_⟩
  show _ = _
  rw [xor32 hy (shN_lt 8 (by omega)), ← fold_next h HY, ← step_table]; rfl
set_option maxRecDepth 100000 in
set_option maxHeartbeats 1000000 in
theorem more_any (r : Nat) (s : ByteArray) (w : World) (hr : r < 4294967296) (hs : s.size ≤ maxLen) :
    Calls Try.prog 6 #[.int .u32 r, .string s] w fun e w' => e = .returned (.int .u32 (crcN r s.data.toList : Nat)) ∧ Below w.heap.size w w' := by
  unfold maxLen at hs
  have hz := zero32
  have HC := hid_of (comp hr)
  go_enter Try.func6, Try.ntmps6
  go_wp2_with fail
  refine (steps_any _).mono ?_
  rintro e w1 ⟨rfl, hb1⟩
  go_wp2_with (refine wpList_store_row rfl 32 _ _ rfl w1.heap.size (tabK 256) rfl rfl 32 (tabK 0) (heap_alloc_new w1 _) (size32 256) (by rw [tabK_size, tabK_size]) (tabK_one 256) ?_)
  have hrow := row_read w1
  have hB := row_below hb1
  generalize (w1.alloc (.cells (tabK 0) 32)).setRow w1.heap.size (tabK 256) = W at *
  generalize w1.heap.size = g at *
  clear hb1 hz
  have HR := hid_of hrow
  clear hrow
  go_loop [6, 13] (fun x i => ∃ k y : Nat, k ≤ s.size ∧ y < 4294967296 ∧ i = .int .i64 k ∧ x = .int .u32 y ∧ Hid (y = foldN (4294967295 ^^^ r) (s.data.toList.take k))) (fun _ i => s.size - (intOf i).toNat)
  case atStart => exact ⟨0, 4294967295 ^^^ r, Nat.zero_le _, xor_lt (by omega) hr, rfl, val_u HC.out, hid_of rfl⟩
  case round =>
    obtain ⟨k, y, hk, hy, rfl, rfl, HY⟩ := hrel
    by_cases hlt : k < s.size
    · obtain ⟨j, hj, hj8, hx, HE⟩ := byte_step hlt hy HY
      have hc := HR.out j hj8
      go_wp2
      exact ⟨⟨k + 1, _, hlt, foldN_lt _ (xor_lt (by omega) hr), by go_num, val_u HE.out, hid_of rfl⟩, by simp [intOf]; omega⟩
    · have HK := hid_of (take_all s k (by omega))
      have HC2 := hid_of (comp hy)
      go_wp2
      go_ret
      exact ⟨ret_u (by rw [HC2.out, HY.out, HK.out, crcN_eq]), hB⟩

set_option maxHeartbeats 400000 in
theorem crc_any (s : ByteArray) (w : World) (hs : s.size ≤ maxLen) :
    Calls Try.prog 8 #[.string s] w fun e w' => e = .returned (.int .u32 (crcN 0 s.data.toList : Nat)) ∧ Below w.heap.size w w' := by
  have HR : ∀ w, Calls Try.prog 6 #[.int .u32 0, .string s] w fun e w' => e = .returned (.int .u32 (crcN 0 s.data.toList : Nat)) ∧ Below w.heap.size w w' := fun w => more_any 0 s w (by omega) hs
  have HR' := hid_of HR
  clear HR
  go_enter Try.func8, Try.ntmps8
  go_wp2_with fail
  refine (HR'.out _).mono ?_
  rintro e w' ⟨rfl, hb⟩
  go_wp2
  go_ret
  exact ⟨rfl, hb⟩
end Go.Proofs.Ytkiejncaleondab.More
