/- The contracts of num.Print and of the document's own Print: a number's one text; old memory stands. -/
import Derived.Test.YtdmjfmojacnbeaaProg
import Derived.Test.YtdmjfmojacnbeaaTextMath
import Derived.Lib.SlBytesRow
import Derived.WalkKit
import Derived.WalkSmall
import Derived.Below
namespace Go.Proofs.Ytdmjfmojacnbeaa.Print
open Go.RowKit
open Go.Lib (decDigits itoa)
open Go.Proofs.Ytdmjfmojacnbeaa.TextMath
set_option linter.unusedVariables false

theorem hid_of {p : Prop} (h : p) : Hid p := h
theorem bel {B : Nat} {a b c : World} (h : Below B a b) (k : Below b.heap.size b c) (hB : B ≤ a.heap.size) : Below B a c := h.trans (k.mono (Nat.le_trans hB h.size))
theorem ret_s {a b : ByteArray} (h : a = b) : Ending.returned (.string a) = .returned (.string b) := by rw [h]

/-! ### the document's own -/
theorem conv_one (W : World) (d : Int) (h0 : 0 ≤ d) (h1 : d ≤ 255) :
    (convert 83 9 (.slice (some ⟨W.heap.size, 0, none⟩) 1 1)).run Try.prog (W.alloc (.cells #[.int .u8 d] 5)) = .ok (.string ⟨#[UInt8.ofNat d.toNat]⟩) (W.alloc (.cells #[.int .u8 d] 5)) := by
  refine Lib.run_convert_whole (P := Try.prog) (W.alloc (.cells #[.int .u8 d] 5)) 83 5 9 Try.underlying83 Try.underlying5 Try.underlying9 W.heap.size 0 ⟨#[UInt8.ofNat d.toNat]⟩ ?_ 1
  intro i hi
  have hi0 : i = 0 := by
    have : (⟨#[UInt8.ofNat d.toNat]⟩ : ByteArray).size = 1 := rfl
    omega
  subst hi0
  rw [Nat.zero_add, World.cell?_alloc_new]
  have e : ((⟨#[UInt8.ofNat d.toNat]⟩ : ByteArray)[0]) = UInt8.ofNat d.toNat := rfl
  rw [e, UInt8.toNat_ofNat']
  simp
  omega
def rest (v : Nat) : List UInt8 := if v = 0 then [] else decDigits v
theorem rest_step {v : Nat} (h : 0 < v) (l : List UInt8) : rest (v / 10) ++ (UInt8.ofNat (48 + v % 10) :: l) = rest v ++ l := by
  unfold rest
  rw [if_neg (show ¬ v = 0 from by omega)]
  by_cases h1 : v < 10
  · rw [if_pos (by omega), dec_small h1, show v % 10 = v from by omega]; rfl
  · rw [if_neg (by omega), dec_big h1]; simp
theorem app_one (c : UInt8) (l : List UInt8) : ((⟨#[c]⟩ : ByteArray) ++ (⟨l.toArray⟩ : ByteArray)) = ⟨(c :: l).toArray⟩ := by
  apply ByteArray.ext
  simp
theorem wrapu {a : Int} (h1 : -9223372036854775808 ≤ a) (h2 : a < 0) : IntKind.u64.wrap (-IntKind.u64.wrap a) = -a := by
  simp [IntKind.wrap, IntKind.signed, IntKind.bits]; omega

theorem val_u {a b : Int} (h : a = b) : Value.int .u64 a = .int .u64 b := by rw [h]
theorem step_any {y : Int} {l m : List UInt8} (h : 0 < y) (HL : Hid (rest y.toNat ++ l = m)) : Hid (rest (y / 10).toNat ++ (UInt8.ofNat (48 + y % 10).toNat :: l) = m) := by
  show _ = _
  rw [← HL.out, ← rest_step (show 0 < y.toNat from by omega) l, show (y / 10).toNat = y.toNat / 10 from by omega, show (48 + y % 10).toNat = 48 + y.toNat % 10 from by omega]
theorem end_list {y : Int} {l m : List UInt8} (h : y ≤ 0) (HL : Hid (rest y.toNat ++ l = m)) : l = m := by
  rw [← HL.out, show y.toNat = 0 from by omega]; rfl
theorem dec_len {u : Nat} (h : u ≤ 9223372036854775808) : (decDigits u).length ≤ 20 := by
  have := canon_len (canon_dec u) (by rw [val_dec]; exact h)
  omega
theorem len_of {y : Int} {l m : List UInt8} (HL : Hid (rest y.toNat ++ l = m)) (hm : m.length ≤ 20) : l.length ≤ 20 := by
  rw [← HL.out, List.length_append] at hm
  omega
theorem val_s {a b : ByteArray} (h : a = b) : Value.string a = .string b := by rw [h]

set_option maxHeartbeats 1000000 in
theorem rprint_pos (n : Int) (w : World) (h0 : 0 < n) (h1 : n ≤ 9223372036854775807) :
    Calls Try.prog 28 #[.int .i64 n] w fun e w' => e = .returned (.string ⟨(itoa n).toArray⟩) ∧ Below w.heap.size w w' := by
  have t0 : (n == 0) = false := by rw [beq_eq_false_iff_ne]; omega
  have td : decide (n < 0) = false := by simp; omega
  have HN := hid_of (show rest n.toNat ++ [] = itoa n from by
    unfold rest itoa
    rw [if_neg (by omega), if_neg (by omega), List.append_nil])
  have HB := hid_of (show (itoa n).length ≤ 20 from by unfold itoa; rw [if_neg (by omega)]; exact dec_len (by omega))
  go_enter Try.func28, Try.ntmps28
  go_wp2
  go_loopw [3, 4] (fun x t wr => ∃ (y : Int) (l : List UInt8), 0 ≤ y ∧ y ≤ 9223372036854775808 ∧ x = .int .u64 y ∧ t = .string ⟨l.toArray⟩ ∧ Hid (rest y.toNat ++ l = itoa n) ∧ Below w.heap.size w wr) (fun x _ _ => (intOf x).toNat)
  case atStart => exact ⟨n, [], by omega, by omega, rfl, rfl, HN, Below.refl _ _⟩
  case round =>
    obtain ⟨y, l, hy0, hy1, rfl, rfl, HL, hb⟩ := hrel
    have hl := len_of HL HB.out
    by_cases hlt : 0 < y
    · have hc := conv_one wr (48 + y % 10) (by omega) (by omega)
      have HM := step_any hlt HL
      go_wp2
      exact ⟨⟨y / 10, _, by omega, by omega, rfl, val_s (app_one _ _), HM, hb.alloc hb.size _⟩, by simp [intOf]; omega⟩
    · go_wp2
      go_ret
      exact ⟨ret_s (by rw [end_list (by omega) HL]), hb⟩

set_option maxHeartbeats 1000000 in
theorem rprint_neg (n : Int) (w : World) (h0 : n < 0) (h1 : -9223372036854775808 ≤ n) :
    Calls Try.prog 28 #[.int .i64 n] w fun e w' => e = .returned (.string ⟨(itoa n).toArray⟩) ∧ Below w.heap.size w w' := by
  have t0 : (n == 0) = false := by rw [beq_eq_false_iff_ne]; omega
  have td : decide (n < 0) = true := by simp; omega
  have HW := hid_of (wrapu h1 h0)
  have HN := hid_of (show rest (-n).toNat ++ [] = decDigits n.natAbs from by
    unfold rest
    rw [if_neg (by omega), List.append_nil]
    congr 1; omega)
  have HI := hid_of (show itoa n = 45 :: decDigits n.natAbs from by unfold itoa; rw [if_pos h0])
  have HB := hid_of (dec_len (u := n.natAbs) (by omega))
  go_enter Try.func28, Try.ntmps28
  go_wp2
  go_loopw [3, 4] (fun x t wr => ∃ (y : Int) (l : List UInt8), 0 ≤ y ∧ y ≤ 9223372036854775808 ∧ x = .int .u64 y ∧ t = .string ⟨l.toArray⟩ ∧ Hid (rest y.toNat ++ l = decDigits n.natAbs) ∧ Below w.heap.size w wr) (fun x _ _ => (intOf x).toNat)
  case atStart => exact ⟨-n, [], by omega, by omega, val_u HW.out, rfl, HN, Below.refl _ _⟩
  case round =>
    obtain ⟨y, l, hy0, hy1, rfl, rfl, HL, hb⟩ := hrel
    have hl := len_of HL HB.out
    by_cases hlt : 0 < y
    · have hc := conv_one wr (48 + y % 10) (by omega) (by omega)
      have HM := step_any hlt HL
      go_wp2
      exact ⟨⟨y / 10, _, by omega, by omega, rfl, val_s (app_one _ _), HM, hb.alloc hb.size _⟩, by simp [intOf]; omega⟩
    · go_wp2
      go_ret
      exact ⟨ret_s (by rw [HI.out, ← end_list (by omega) HL, app_one]), hb⟩

set_option maxHeartbeats 400000 in
theorem rprint_zero (w : World) :
    Calls Try.prog 28 #[.int .i64 0] w fun e w' => e = .returned (.string ⟨(itoa 0).toArray⟩) ∧ Below w.heap.size w w' := by
  have HI := hid_of (show itoa 0 = [48] from by unfold itoa; rw [if_neg (by omega)]; exact dec_small (by omega))
  go_enter Try.func28, Try.ntmps28
  go_wp2
  go_ret
  exact ⟨ret_s (by rw [HI.out]), Below.refl _ _⟩
theorem rprint_any (n : Int) (w : World) (h : InI n) :
    Calls Try.prog 28 #[.int .i64 n] w fun e w' => e = .returned (.string ⟨(itoa n).toArray⟩) ∧ Below w.heap.size w w' := by
  obtain ⟨h1, h2⟩ := h
  by_cases h0 : 0 < n
  · exact rprint_pos n w h0 h2
  · by_cases h3 : n < 0
    · exact rprint_neg n w h3 h1
    · obtain rfl : n = 0 := by omega
      exact rprint_zero w
end Go.Proofs.Ytdmjfmojacnbeaa.Print
