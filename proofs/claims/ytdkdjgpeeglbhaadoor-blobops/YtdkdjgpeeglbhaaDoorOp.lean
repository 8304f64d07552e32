/- Op of the code: lengths, join. -/
import Derived.Test.YtdkdjgpeeglbhaaDoorMem
import Derived.Deep.LoopGhost
namespace Go.Proofs.YtdkdjgpeeglbhaaDoor.Opp
open Go.RowKit
open Go.Proofs.YtdkdjgpeeglbhaaDoor.BlobMath
open Go.Proofs.YtdkdjgpeeglbhaaDoor.Span
open Go.Proofs.YtdkdjgpeeglbhaaDoor.Bits
open Go.Proofs.YtdkdjgpeeglbhaaDoor.Reads
open Go.Proofs.YtdkdjgpeeglbhaaDoor.Mem
set_option linter.unusedVariables false
set_option linter.unusedSimpArgs false

theorem txt_len (s : ByteArray) : (txt s).length = s.size := by simp [txt]
theorem txt_at {s : ByteArray} {k : Nat} (h : k < s.size) : s[k].toNat = at8 (txt s) k := Bits.byte_at h
theorem and8 {a b : Nat} (ha : a < 256) (hb : b < 256) : bits .and .u8 (a : Int) (b : Int) = ((opN 1 a b : Nat) : Int) := u8_and_nat a b ha hb
theorem or8 {a b : Nat} (ha : a < 256) (hb : b < 256) : bits .or .u8 (a : Int) (b : Int) = ((opN 2 a b : Nat) : Int) := u8_or_nat a b ha hb
theorem xor8 {a b : Nat} (ha : a < 256) (hb : b < 256) : bits .xor .u8 (a : Int) (b : Int) = ((opN 3 a b : Nat) : Int) := u8_xor_nat a b ha hb
set_option maxHeartbeats 1000000 in
set_option maxRecDepth 100000 in
theorem join_1 (g N : Nat) (l : List UInt8) (t : ByteArray) (w : World) (hl : l.length = N) (hN : N ≤ 140737488351232) (ht : t.size ≤ N) (h : BRow w g l) :
    Calls Tryd.prog 37 #[.int .i64 1, .slice (some ⟨g, 0, none⟩) N N, .string t] w fun e w' => e = .returned (.tuple #[]) ∧ BRow w' g (joinN 1 l (txt t) t.size) ∧ (∀ B, B ≤ g → Below B w w') := by
  have HR := hid_of h
  have HL := hid_of hl
  clear h hl
  go_enter Tryd.func37, Tryd.ntmps37
  go_wp2_with fail
  go_loopw [9] (fun x wr => ∃ i : Nat, i ≤ t.size ∧ x = .int .i64 (i : Int) ∧ Hid (BRow wr g (joinN 1 l (txt t) i) ∧ (∀ B, B ≤ g → Below B w wr))) (fun x _ => t.size - (intOf x).toNat)
  case atStart => exact ⟨0, Nat.zero_le _, rfl, HR.out, fun B _ => Below.refl _ _⟩
  case round =>
    obtain ⟨i, hi, rfl, HI⟩ := hrel
    by_cases hlt : i < t.size
    · have hx := index_at t i hlt (i : Int) rfl
      have hiN : i < N := by omega
      have e1 : (0 : Int) ≤ (i : Int) := by omega
      have e2 : (i : Int) < (N : Int) := by omega
      have HLL := hid_of (show (joinN 1 l (txt t) i).length = N by rw [joinN_len, HL.out])
      have hc := HI.out.1.cell i (by rw [HLL.out]; exact hiN)
      have hz := HI.out.1.frozen i (by rw [HLL.out]; exact hiN)
      obtain ⟨c, HC⟩ : ∃ c, Hid (c = at8 (joinN 1 l (txt t) i) i) := ⟨_, hid_of rfl⟩
      rw [← HC.out] at hc
      have hc8 : c < 256 := by rw [HC.out]; exact at8_lt _ _
      have hx8 := and8 hc8 t[i].toNat_lt
      have R2 := HI.out.1.set i (by rw [HLL.out]; exact hiN) (opN 1 c t[i].toNat) (opN_lt _ hc8 t[i].toNat_lt)
      have HJ := hid_of (show (joinN 1 l (txt t) i).set i (UInt8.ofNat (opN 1 c t[i].toNat)) = joinN 1 l (txt t) (i + 1) by rw [joinN, txt_at hlt, HC.out])
      rw [HJ.out] at R2
      have HI2 := hid_of (And.intro (R2.drewN 1) (fun B (hB : B ≤ g) => ((HI.out.2 B hB).setCell (p := ⟨g, i, none⟩) hB (.int .u8 ((opN 1 c t[i].toNat : Nat) : Int))).drew))
      clear R2 HJ
      go_wp2_with fail
      go_region
      go_wp2
      exact ⟨⟨i + 1, hlt, by go_num, HI2⟩, by simp [intOf]; omega⟩
    · have HE := hid_of (show i = t.size by omega)
      have HI2 := HI.out
      rw [HE.out] at HI2
      have HI3 := hid_of HI2
      clear HI2
      go_wp2
      go_end0
      exact ⟨rfl, HI3.out.1, HI3.out.2⟩
set_option maxHeartbeats 1000000 in
set_option maxRecDepth 100000 in
theorem join_2 (g N : Nat) (l : List UInt8) (t : ByteArray) (w : World) (hl : l.length = N) (hN : N ≤ 140737488351232) (ht : t.size ≤ N) (h : BRow w g l) :
    Calls Tryd.prog 37 #[.int .i64 2, .slice (some ⟨g, 0, none⟩) N N, .string t] w fun e w' => e = .returned (.tuple #[]) ∧ BRow w' g (joinN 2 l (txt t) t.size) ∧ (∀ B, B ≤ g → Below B w w') := by
  have HR := hid_of h
  have HL := hid_of hl
  clear h hl
  go_enter Tryd.func37, Tryd.ntmps37
  go_wp2_with fail
  go_loopw [9] (fun x wr => ∃ i : Nat, i ≤ t.size ∧ x = .int .i64 (i : Int) ∧ Hid (BRow wr g (joinN 2 l (txt t) i) ∧ (∀ B, B ≤ g → Below B w wr))) (fun x _ => t.size - (intOf x).toNat)
  case atStart => exact ⟨0, Nat.zero_le _, rfl, HR.out, fun B _ => Below.refl _ _⟩
  case round =>
    obtain ⟨i, hi, rfl, HI⟩ := hrel
    by_cases hlt : i < t.size
    · have hx := index_at t i hlt (i : Int) rfl
      have hiN : i < N := by omega
      have e1 : (0 : Int) ≤ (i : Int) := by omega
      have e2 : (i : Int) < (N : Int) := by omega
      have HLL := hid_of (show (joinN 2 l (txt t) i).length = N by rw [joinN_len, HL.out])
      have hc := HI.out.1.cell i (by rw [HLL.out]; exact hiN)
      have hz := HI.out.1.frozen i (by rw [HLL.out]; exact hiN)
      obtain ⟨c, HC⟩ : ∃ c, Hid (c = at8 (joinN 2 l (txt t) i) i) := ⟨_, hid_of rfl⟩
      rw [← HC.out] at hc
      have hc8 : c < 256 := by rw [HC.out]; exact at8_lt _ _
      have hx8 := or8 hc8 t[i].toNat_lt
      have R2 := HI.out.1.set i (by rw [HLL.out]; exact hiN) (opN 2 c t[i].toNat) (opN_lt _ hc8 t[i].toNat_lt)
      have HJ := hid_of (show (joinN 2 l (txt t) i).set i (UInt8.ofNat (opN 2 c t[i].toNat)) = joinN 2 l (txt t) (i + 1) by rw [joinN, txt_at hlt, HC.out])
      rw [HJ.out] at R2
      have HI2 := hid_of (And.intro (R2.drewN 1) (fun B (hB : B ≤ g) => ((HI.out.2 B hB).setCell (p := ⟨g, i, none⟩) hB (.int .u8 ((opN 2 c t[i].toNat : Nat) : Int))).drew))
      clear R2 HJ
      go_wp2_with fail
      go_region
      go_wp2
      exact ⟨⟨i + 1, hlt, by go_num, HI2⟩, by simp [intOf]; omega⟩
    · have HE := hid_of (show i = t.size by omega)
      have HI2 := HI.out
      rw [HE.out] at HI2
      have HI3 := hid_of HI2
      clear HI2
      go_wp2
      go_end0
      exact ⟨rfl, HI3.out.1, HI3.out.2⟩
set_option maxHeartbeats 1000000 in
set_option maxRecDepth 100000 in
theorem join_3 (g N : Nat) (l : List UInt8) (t : ByteArray) (w : World) (hl : l.length = N) (hN : N ≤ 140737488351232) (ht : t.size ≤ N) (h : BRow w g l) :
    Calls Tryd.prog 37 #[.int .i64 3, .slice (some ⟨g, 0, none⟩) N N, .string t] w fun e w' => e = .returned (.tuple #[]) ∧ BRow w' g (joinN 3 l (txt t) t.size) ∧ (∀ B, B ≤ g → Below B w w') := by
  have HR := hid_of h
  have HL := hid_of hl
  clear h hl
  go_enter Tryd.func37, Tryd.ntmps37
  go_wp2_with fail
  go_loopw [9] (fun x wr => ∃ i : Nat, i ≤ t.size ∧ x = .int .i64 (i : Int) ∧ Hid (BRow wr g (joinN 3 l (txt t) i) ∧ (∀ B, B ≤ g → Below B w wr))) (fun x _ => t.size - (intOf x).toNat)
  case atStart => exact ⟨0, Nat.zero_le _, rfl, HR.out, fun B _ => Below.refl _ _⟩
  case round =>
    obtain ⟨i, hi, rfl, HI⟩ := hrel
    by_cases hlt : i < t.size
    · have hx := index_at t i hlt (i : Int) rfl
      have hiN : i < N := by omega
      have e1 : (0 : Int) ≤ (i : Int) := by omega
      have e2 : (i : Int) < (N : Int) := by omega
      have HLL := hid_of (show (joinN 3 l (txt t) i).length = N by rw [joinN_len, HL.out])
      have hc := HI.out.1.cell i (by rw [HLL.out]; exact hiN)
      have hz := HI.out.1.frozen i (by rw [HLL.out]; exact hiN)
      obtain ⟨c, HC⟩ : ∃ c, Hid (c = at8 (joinN 3 l (txt t) i) i) := ⟨_, hid_of rfl⟩
      rw [← HC.out] at hc
      have hc8 : c < 256 := by rw [HC.out]; exact at8_lt _ _
      have hx8 := xor8 hc8 t[i].toNat_lt
      have R2 := HI.out.1.set i (by rw [HLL.out]; exact hiN) (opN 3 c t[i].toNat) (opN_lt _ hc8 t[i].toNat_lt)
      have HJ := hid_of (show (joinN 3 l (txt t) i).set i (UInt8.ofNat (opN 3 c t[i].toNat)) = joinN 3 l (txt t) (i + 1) by rw [joinN, txt_at hlt, HC.out])
      rw [HJ.out] at R2
      have HI2 := hid_of (And.intro (R2.drewN 1) (fun B (hB : B ≤ g) => ((HI.out.2 B hB).setCell (p := ⟨g, i, none⟩) hB (.int .u8 ((opN 3 c t[i].toNat : Nat) : Int))).drew))
      clear R2 HJ
      go_wp2_with fail
      go_region
      go_wp2
      exact ⟨⟨i + 1, hlt, by go_num, HI2⟩, by simp [intOf]; omega⟩
    · have HE := hid_of (show i = t.size by omega)
      have HI2 := HI.out
      rw [HE.out] at HI2
      have HI3 := hid_of HI2
      clear HI2
      go_wp2
      go_end0
      exact ⟨rfl, HI3.out.1, HI3.out.2⟩
end Go.Proofs.YtdkdjgpeeglbhaaDoor.Opp
