/- The document's Print. What num.Add, num.Sub and num.Mul come to, as plain functions of integers, and what NumRing and NumSums ask of them: no program is met here. The contracts of num.Add, num.Sub and num.Mul at every two ints: the sum, difference or product and 0 where it is an int, else 0 and 11; the world stands. number, Incr. The fields of a key: call.fields of hashcmd; a dict of them. -/
import Derived.Test.YtcgdnpcegcmboaaGreatDoorTextMathM
import Derived.RowKit
import Derived.Test.YtcgdnpcegcmboaaGreatDoorRows
import Derived.WalkKit
import Derived.Test.YtcgdnpcegcmboaaGreatDoorDiSmallM
import Derived.Test.YtcgdnpcegcmboaaGreatDoorHCmdM
section
namespace Go.Proofs.YtcgdnpcegcmboaaGreatDoor.RPrint
open Go.RowKit
open Go.Lib (decDigits itoa)
open Go.Proofs.YtcgdnpcegcmboaaGreatDoor.TextMath
open Go.Proofs.YtcgdnpcegcmboaaGreatDoor.Print
set_option linter.unusedVariables false
set_option linter.unusedSimpArgs false
/-! ### the document's own -/
theorem conv_one (W : World) (d : Int) (h0 : 0 ≤ d) (h1 : d ≤ 255) :
    (convert 92 9 (.slice (some ⟨W.heap.size, 0, none⟩) 1 1)).run Tryz.prog (W.alloc (.cells #[.int .u8 d] 5)) = .ok (.string ⟨#[UInt8.ofNat d.toNat]⟩) (W.alloc (.cells #[.int .u8 d] 5)) := by
  refine Lib.run_convert_whole (P := Tryz.prog) (W.alloc (.cells #[.int .u8 d] 5)) 92 5 9 Tryz.underlying92 Tryz.underlying5 Tryz.underlying9 W.heap.size 0 ⟨#[UInt8.ofNat d.toNat]⟩ ?_ 1
  intro i hi
  have hi0 : i = 0 := by
    have : (⟨#[UInt8.ofNat d.toNat]⟩ : ByteArray).size = 1 := rfl
    omega
  subst hi0
  rw [Nat.zero_add, World.cell?_alloc_new]
  have e : ((⟨#[UInt8.ofNat d.toNat]⟩ : ByteArray)[0]) = UInt8.ofNat d.toNat := rfl
  rw [e, UInt8.toNat_ofNat']
  simp
  omega
def rest (v : Nat) : List UInt8 := if v = 0 then [] else decDigits v
theorem rest_step {v : Nat} (h : 0 < v) (l : List UInt8) : rest (v / 10) ++ (UInt8.ofNat (48 + v % 10) :: l) = rest v ++ l := by
  unfold rest
  rw [if_neg (show ¬ v = 0 from by omega)]
  by_cases h1 : v < 10
  · rw [if_pos (by omega), dec_small h1, show v % 10 = v from by omega]; rfl
  · rw [if_neg (by omega), dec_big h1]; simp
theorem app_one (c : UInt8) (l : List UInt8) : ((⟨#[c]⟩ : ByteArray) ++ (⟨l.toArray⟩ : ByteArray)) = ⟨(c :: l).toArray⟩ := by
  apply ByteArray.ext
  simp
theorem wrapu {a : Int} (h1 : -9223372036854775808 ≤ a) (h2 : a < 0) : IntKind.u64.wrap (-IntKind.u64.wrap a) = -a := by
  simp [IntKind.wrap, IntKind.signed, IntKind.bits]; omega

theorem val_u {a b : Int} (h : a = b) : Value.int .u64 a = .int .u64 b := by rw [h]
theorem step_any {y : Int} {l m : List UInt8} (h : 0 < y) (HL : Hid (rest y.toNat ++ l = m)) : Hid (rest (y / 10).toNat ++ (UInt8.ofNat (48 + y % 10).toNat :: l) = m) := by
  show _ = _
  rw [← HL.out, ← rest_step (show 0 < y.toNat from by omega) l, show (y / 10).toNat = y.toNat / 10 from by omega, show (48 + y % 10).toNat = 48 + y.toNat % 10 from by omega]
theorem end_list {y : Int} {l m : List UInt8} (h : y ≤ 0) (HL : Hid (rest y.toNat ++ l = m)) : l = m := by
  rw [← HL.out, show y.toNat = 0 from by omega]; rfl
theorem dec_len {u : Nat} (h : u ≤ 9223372036854775808) : (decDigits u).length ≤ 20 := by
  have := canon_len (canon_dec u) (by rw [val_dec]; exact h)
  omega
theorem len_of {y : Int} {l m : List UInt8} (HL : Hid (rest y.toNat ++ l = m)) (hm : m.length ≤ 20) : l.length ≤ 20 := by
  rw [← HL.out, List.length_append] at hm
  omega
theorem val_s {a b : ByteArray} (h : a = b) : Value.string a = .string b := by rw [h]

set_option maxHeartbeats 1000000 in
theorem rprint_pos (n : Int) (w : World) (h0 : 0 < n) (h1 : n ≤ 9223372036854775807) :
    Calls Tryz.prog 26 #[.int .i64 n] w fun e w' => e = .returned (.string ⟨(itoa n).toArray⟩) ∧ Below w.heap.size w w' := by
  have t0 : (n == 0) = false := by rw [beq_eq_false_iff_ne]; omega
  have td : decide (n < 0) = false := by simp; omega
  have HN := hid_of (show rest n.toNat ++ [] = itoa n from by
    unfold rest itoa
    rw [if_neg (by omega), if_neg (by omega), List.append_nil])
  have HB := hid_of (show (itoa n).length ≤ 20 from by unfold itoa; rw [if_neg (by omega)]; exact dec_len (by omega))
  go_enter Tryz.func26, Tryz.ntmps26
  go_wp2
  go_loopw [3, 4] (fun x t wr => ∃ (y : Int) (l : List UInt8), 0 ≤ y ∧ y ≤ 9223372036854775808 ∧ x = .int .u64 y ∧ t = .string ⟨l.toArray⟩ ∧ Hid (rest y.toNat ++ l = itoa n) ∧ Below w.heap.size w wr) (fun x _ _ => (intOf x).toNat)
  case atStart => exact ⟨n, [], by omega, by omega, rfl, rfl, HN, Below.refl _ _⟩
  case round =>
    obtain ⟨y, l, hy0, hy1, rfl, rfl, HL, hb⟩ := hrel
    have hl := len_of HL HB.out
    by_cases hlt : 0 < y
    · have hc := conv_one wr (48 + y % 10) (by omega) (by omega)
      have HM := step_any hlt HL
      go_wp2
      exact ⟨⟨y / 10, _, by omega, by omega, rfl, val_s (app_one _ _), HM, hb.alloc hb.size _⟩, by simp [intOf]; omega⟩
    · go_wp2
      go_ret
      exact ⟨ret_s (by rw [end_list (by omega) HL]), hb⟩

set_option maxHeartbeats 1000000 in
theorem rprint_neg (n : Int) (w : World) (h0 : n < 0) (h1 : -9223372036854775808 ≤ n) :
    Calls Tryz.prog 26 #[.int .i64 n] w fun e w' => e = .returned (.string ⟨(itoa n).toArray⟩) ∧ Below w.heap.size w w' := by
  have t0 : (n == 0) = false := by rw [beq_eq_false_iff_ne]; omega
  have td : decide (n < 0) = true := by simp; omega
  have HW := hid_of (wrapu h1 h0)
  have HN := hid_of (show rest (-n).toNat ++ [] = decDigits n.natAbs from by
    unfold rest
    rw [if_neg (by omega), List.append_nil]
    congr 1; omega)
  have HI := hid_of (show itoa n = 45 :: decDigits n.natAbs from by unfold itoa; rw [if_pos h0])
  have HB := hid_of (dec_len (u := n.natAbs) (by omega))
  go_enter Tryz.func26, Tryz.ntmps26
  go_wp2
  go_loopw [3, 4] (fun x t wr => ∃ (y : Int) (l : List UInt8), 0 ≤ y ∧ y ≤ 9223372036854775808 ∧ x = .int .u64 y ∧ t = .string ⟨l.toArray⟩ ∧ Hid (rest y.toNat ++ l = decDigits n.natAbs) ∧ Below w.heap.size w wr) (fun x _ _ => (intOf x).toNat)
  case atStart => exact ⟨-n, [], by omega, by omega, val_u HW.out, rfl, HN, Below.refl _ _⟩
  case round =>
    obtain ⟨y, l, hy0, hy1, rfl, rfl, HL, hb⟩ := hrel
    have hl := len_of HL HB.out
    by_cases hlt : 0 < y
    · have hc := conv_one wr (48 + y % 10) (by omega) (by omega)
      have HM := step_any hlt HL
      go_wp2
      exact ⟨⟨y / 10, _, by omega, by omega, rfl, val_s (app_one _ _), HM, hb.alloc hb.size _⟩, by simp [intOf]; omega⟩
    · go_wp2
      go_ret
      exact ⟨ret_s (by rw [HI.out, ← end_list (by omega) HL, app_one]), hb⟩

set_option maxHeartbeats 400000 in
theorem rprint_zero (w : World) :
    Calls Tryz.prog 26 #[.int .i64 0] w fun e w' => e = .returned (.string ⟨(itoa 0).toArray⟩) ∧ Below w.heap.size w w' := by
  have HI := hid_of (show itoa 0 = [48] from by unfold itoa; rw [if_neg (by omega)]; exact dec_small (by omega))
  go_enter Tryz.func26, Tryz.ntmps26
  go_wp2
  go_ret
  exact ⟨ret_s (by rw [HI.out]), Below.refl _ _⟩
theorem rprint_any (n : Int) (w : World) (h : InI n) :
    Calls Tryz.prog 26 #[.int .i64 n] w fun e w' => e = .returned (.string ⟨(itoa n).toArray⟩) ∧ Below w.heap.size w w' := by
  obtain ⟨h1, h2⟩ := h
  by_cases h0 : 0 < n
  · exact rprint_pos n w h0 h2
  · by_cases h3 : n < 0
    · exact rprint_neg n w h3 h1
    · obtain rfl : n = 0 := by omega
      exact rprint_zero w
end Go.Proofs.YtcgdnpcegcmboaaGreatDoor.RPrint
end
section
namespace Go.Proofs.YtcgdnpcegcmboaaGreatDoor.DiNumMath
open Go.RowKit (wrap64)

def InI (n : Int) : Prop := -9223372036854775808 ≤ n ∧ n ≤ 9223372036854775807
def fitB (n : Int) : Bool := decide (-9223372036854775808 ≤ n ∧ n ≤ 9223372036854775807)
def outV (n : Int) : Int := if fitB n = true then n else 0
def outE (n : Int) : Int := if fitB n = true then 0 else 11

theorem fitB_iff (n : Int) : fitB n = true ↔ -9223372036854775808 ≤ n ∧ n ≤ 9223372036854775807 := by simp [fitB]
theorem fitB_of {n : Int} (h : InI n) : fitB n = true := (fitB_iff n).2 h
theorem outV_pos {n : Int} (h : fitB n = true) : outV n = n := by simp [outV, h]
theorem outE_pos {n : Int} (h : fitB n = true) : outE n = 0 := by simp [outE, h]
theorem outV_neg {n : Int} (h : fitB n = false) : outV n = 0 := by simp [outV, h]
theorem outE_neg {n : Int} (h : fitB n = false) : outE n = 11 := by simp [outE, h]
theorem outV_in (n : Int) : InI (outV n) := by
  unfold outV InI; split
  · next h => exact (fitB_iff n).1 h
  · omega
theorem outE_bd (n : Int) : 0 ≤ outE n ∧ outE n ≤ 11 := by unfold outE; split <;> omega
theorem fitB_false {n : Int} (h : fitB n = false) : n < -9223372036854775808 ∨ 9223372036854775807 < n := by
  have : ¬ (-9223372036854775808 ≤ n ∧ n ≤ 9223372036854775807) := by rw [← fitB_iff]; simp [h]
  omega

theorem wrap_in {n : Int} (h1 : -9223372036854775808 ≤ n) (h2 : n ≤ 9223372036854775807) : wrap64 n = n := by unfold wrap64; omega
theorem wrap_bd (n : Int) : -9223372036854775808 ≤ wrap64 n ∧ wrap64 n ≤ 9223372036854775807 := by unfold wrap64; omega
theorem wrap_mod (n : Int) : ∃ k : Int, wrap64 n = n + 18446744073709551616 * k := ⟨-((n + 9223372036854775808) / 18446744073709551616), by unfold wrap64; omega⟩

theorem add_wrap_lo {a b : Int} (ha : InI a) (hb : InI b) (hp : 0 < b) (h : 9223372036854775807 < a + b) : wrap64 (a + b) < a := by
  obtain ⟨h1, h2⟩ := ha; obtain ⟨h3, h4⟩ := hb; unfold wrap64; omega
theorem add_wrap_hi {a b : Int} (ha : InI a) (hb : InI b) (hp : b < 0) (h : a + b < -9223372036854775808) : a < wrap64 (a + b) := by
  obtain ⟨h1, h2⟩ := ha; obtain ⟨h3, h4⟩ := hb; unfold wrap64; omega
theorem sub_wrap_hi {a b : Int} (ha : InI a) (hb : InI b) (hp : 0 < b) (h : a - b < -9223372036854775808) : a < wrap64 (a - b) := by
  obtain ⟨h1, h2⟩ := ha; obtain ⟨h3, h4⟩ := hb; unfold wrap64; omega
theorem sub_wrap_lo {a b : Int} (ha : InI a) (hb : InI b) (hp : b < 0) (h : 9223372036854775807 < a - b) : wrap64 (a - b) < a := by
  obtain ⟨h1, h2⟩ := ha; obtain ⟨h3, h4⟩ := hb; unfold wrap64; omega

theorem tdiv_mul_self (a b : Int) (hb : b ≠ 0) : (a * b).tdiv b = a := Int.mul_tdiv_cancel a hb

/-- the quotient of an int by what is neither 0 nor -1 is an int -/
theorem tdiv_bd {p b : Int} (hp : InI p) (h0 : b ≠ 0) (h1 : b ≠ -1) : InI (p.tdiv b) := by
  obtain ⟨hl, hu⟩ := hp
  have hn : (p.tdiv b).natAbs = p.natAbs / b.natAbs := Int.natAbs_tdiv p b
  have hle : p.natAbs / b.natAbs ≤ p.natAbs := Nat.div_le_self _ _
  unfold InI
  by_cases hm : p = -9223372036854775808
  · subst hm
    by_cases hb1 : b = 1
    · subst hb1; simp
    · have h2 : 2 ≤ b.natAbs := by omega
      have : (-9223372036854775808 : Int).natAbs / b.natAbs ≤ 9223372036854775808 / 2 := by
        have e : (-9223372036854775808 : Int).natAbs = 9223372036854775808 := by decide
        rw [e]; exact Nat.div_le_div_left h2 (by omega)
      omega
  · omega

theorem mul_back {a b : Int} (ha : InI a) (h0 : b ≠ 0) (h : fitB (a * b) = true) : (wrap64 ((wrap64 (a * b)).tdiv b) != a) = false := by
  rw [fitB_iff] at h
  rw [wrap_in h.1 h.2, tdiv_mul_self a b h0, wrap_in ha.1 ha.2]; simp

theorem mul_off {a b : Int} (hb : InI b) (h0 : b ≠ 0) (h1 : b ≠ -1) (h : fitB (a * b) = false) : (wrap64 ((wrap64 (a * b)).tdiv b) != a) = true := by
  have h := fitB_false h
  have hp := wrap_bd (a * b)
  have hq := tdiv_bd (b := b) (show InI (wrap64 (a * b)) from hp) h0 h1
  rw [wrap_in hq.1 hq.2, bne_iff_ne]
  intro e
  have hd := Int.mul_tdiv_add_tmod (wrap64 (a * b)) b
  have hr : ((wrap64 (a * b)).tmod b).natAbs < b.natAbs := by
    rw [Int.natAbs_tmod]; exact Nat.mod_lt _ (by omega)
  obtain ⟨k, hk⟩ := wrap_mod (a * b)
  rw [e, Int.mul_comm b a] at hd
  generalize wrap64 (a * b) = p at *
  generalize p.tmod b = r at *
  generalize a * b = m at *
  obtain ⟨b1, b2⟩ := hb
  have hb' : b.natAbs ≤ 9223372036854775808 := by omega
  have hk0 : k = 0 := by omega
  subst hk0
  omega

/-! ### a product's size -/
def sz (a : Int) : Int := if a < 0 then -a else a
theorem sz_neg {a : Int} (h : a < 0) : sz a = -a := by simp [sz, h]
theorem sz_pos {a : Int} (h : 0 ≤ a) : sz a = a := by unfold sz; split <;> omega
theorem sz_eq (a : Int) : sz a = (a.natAbs : Int) := by unfold sz; split <;> omega
theorem sz_mul (a b : Int) : sz a * sz b = sz (a * b) := by rw [sz_eq, sz_eq, sz_eq, Int.natAbs_mul]; simp
theorem div_lt {m a b : Int} (h0 : a ≠ 0) : (m / sz a < sz b) ↔ m < sz (a * b) := by
  have hp : 0 < sz a := by rw [sz_eq]; omega
  rw [Int.ediv_lt_iff_lt_mul hp, Int.mul_comm, sz_mul]
theorem fit_same {a b : Int} (h0 : a ≠ 0) (hs : 0 ≤ a * b) : (9223372036854775807 / sz a < sz b) ↔ fitB (a * b) = false := by
  rw [div_lt h0, sz_pos hs]
  constructor
  · intro h; cases e : fitB (a * b)
    · rfl
    · have := (fitB_iff _).1 e; omega
  · intro h; have := fitB_false h; omega
theorem fit_diff {a b : Int} (h0 : a ≠ 0) (hs : a * b ≤ 0) : (9223372036854775808 / sz a < sz b) ↔ fitB (a * b) = false := by
  have e : sz (a * b) = -(a * b) := by unfold sz; split <;> omega
  rw [div_lt h0, e]
  constructor
  · intro h; cases e : fitB (a * b)
    · rfl
    · have := (fitB_iff _).1 e; omega
  · intro h; have := fitB_false h; omega
theorem diff_sign {a b : Int} (h : (!decide (a < 0) == decide (b < 0)) = true) : a * b ≤ 0 := by
  by_cases ha : a < 0
  · have hb : 0 ≤ b := by simp [ha] at h; omega
    exact Int.mul_nonpos_of_nonpos_of_nonneg (by omega) hb
  · have hb : b < 0 := by simp [ha] at h; omega
    exact Int.mul_nonpos_of_nonneg_of_nonpos (by omega) (by omega)
theorem same_sign {a b : Int} (h : (!decide (a < 0) == decide (b < 0)) = false) : 0 ≤ a * b := by
  by_cases ha : a < 0
  · have hb : b < 0 := by simp [ha] at h; omega
    exact Int.mul_nonneg_of_nonpos_of_nonpos (by omega) (by omega)
  · have hb : 0 ≤ b := by simp [ha] at h; omega
    exact Int.mul_nonneg (by omega) hb
theorem sz_bd {a : Int} (h : InI a) : 0 ≤ sz a ∧ sz a ≤ 9223372036854775808 := by
  obtain ⟨h1, h2⟩ := h; unfold sz; split <;> omega
end Go.Proofs.YtcgdnpcegcmboaaGreatDoor.DiNumMath
end
section
namespace Go.Proofs.YtcgdnpcegcmboaaGreatDoor.DiArith
open Go.RowKit (wrap64)
open Go.Proofs.YtcgdnpcegcmboaaGreatDoor.DiNumMath

theorem ret_two {a b c d : Int} (h1 : a = b) (h2 : c = d) : Ending.returned (.tuple #[.int .i64 a, .int .i64 c]) = .returned (.tuple #[.int .i64 b, .int .i64 d]) := by rw [h1, h2]

set_option maxHeartbeats 400000 in
theorem add_any (a b : Int) (w : World) (ha : InI a) (hb : InI b) :
    Calls Tryz.prog 138 #[.int .i64 a, .int .i64 b] w fun e w' => e = .returned (.tuple #[.int .i64 (outV (a + b)), .int .i64 (outE (a + b))]) ∧ w' = w := by
  obtain ⟨ha1, ha2⟩ := ha
  obtain ⟨hb1, hb2⟩ := hb
  by_cases h : fitB (a + b) = true
  · have hv := outV_pos h
    have he := outE_pos h
    rw [hv, he]
    rw [fitB_iff] at h
    obtain ⟨h1, h2⟩ := h
    clear hv he
    go_enter Tryz.func138, Tryz.ntmps138
    go_wp2
    all_goals
      go_ret2
      exact ⟨rfl, rfl⟩
  · rw [Bool.not_eq_true] at h
    rw [outV_neg h, outE_neg h]
    rcases fitB_false h with h1 | h1
    · have hn : b < 0 := by omega
      have hw := add_wrap_hi ⟨ha1, ha2⟩ ⟨hb1, hb2⟩ hn h1
      clear h
      go_enter Tryz.func138, Tryz.ntmps138
      go_wp2
      all_goals
        go_ret2
        exact ⟨rfl, rfl⟩
    · have hn : 0 < b := by omega
      have hw := add_wrap_lo ⟨ha1, ha2⟩ ⟨hb1, hb2⟩ hn h1
      clear h
      go_enter Tryz.func138, Tryz.ntmps138
      go_wp2
      all_goals
        go_ret2
        exact ⟨rfl, rfl⟩

end Go.Proofs.YtcgdnpcegcmboaaGreatDoor.DiArith
end
section
namespace Go.Proofs.YtcgdnpcegcmboaaGreatDoor.DiIncr
open Go.RowKit Go.Maps Go.Sort
open Go.Lib (itoa)
open Go.Proofs.YtcgdnpcegcmboaaGreatDoor.DiDictMath
open Go.Proofs.YtcgdnpcegcmboaaGreatDoor.DiBase
open Go.Proofs.YtcgdnpcegcmboaaGreatDoor.DiSmall
open Go.Proofs.YtcgdnpcegcmboaaGreatDoor.Parse
set_option linter.unusedVariables false
set_option linter.unusedSimpArgs false

def Pd (l : FL) (k : Bs) (n e : Int) : Prop := match lkp l k with
  | none => n = 0 ∧ e = 0
  | some v => TextMath.Parsed v n e
theorem pd_ex (l : FL) (k : Bs) : ∃ n e, Pd l k n e := by
  unfold Pd
  cases lkp l k with
  | none => exact ⟨0, 0, rfl, rfl⟩
  | some v => exact parsed_ex v
theorem pd_in {l : FL} {k : Bs} {n e : Int} (h : Pd l k n e) : DiNumMath.InI n ∧ (e = 0 ∨ e = 10) := by
  unfold Pd at h
  cases hl : lkp l k with
  | none => rw [hl] at h; obtain ⟨rfl, rfl⟩ := h; exact ⟨by unfold DiNumMath.InI; omega, .inl rfl⟩
  | some v =>
    rw [hl] at h
    rcases h with ⟨h1, rfl⟩ | ⟨_, rfl, rfl⟩
    · exact ⟨((TextMath.text_iff _ _).1 h1).1, .inl rfl⟩
    · exact ⟨by unfold DiNumMath.InI; omega, .inr rfl⟩
def incrS (l : FL) (k : Bs) (n e by' : Int) : FL × Int × Int := if e = 0 then (if DiNumMath.fitB (n + by') = true then (withL l k (itoa (n + by')), n + by', 0) else (l, 0, 11)) else (l, 0, e)
set_option maxHeartbeats 1000000 in
set_option maxRecDepth 100000 in
theorem number_call (b m : Nat) (l : FL) (s : ByteArray) (n e : Int) (w : World) (h : DK b m l w) (hs : s.size ≤ 140737488355328) (hb : ∀ p ∈ l, p.2.length ≤ 140737488351232) (HP : Pd l (bs s) n e) (hh : Has w) :
    Calls Tryz.prog 137 #[ptr b, .string s] w fun x w' => x = .returned (.tuple #[.int .i64 n, .int .i64 e]) ∧ Below w.heap.size w w' := by
  have H1 := hid_of (get_call b m l s w h hs)
  unfold valS ok at H1
  unfold Pd at HP
  cases hl : lkp l (bs s) with
  | none =>
    rw [hl] at H1 HP
    obtain ⟨rfl, rfl⟩ := HP
    simp only [Option.isSome_none, Option.getD_none] at H1
    clear h hh
    go_enter Tryz.func137, Tryz.ntmps137
    go_wp2_with fail
    refine H1.out.mono ?_
    rintro x w1 hw1
    obtain ⟨rfl, b1⟩ := hw1
    go_wp2_with fail
    go_ret2
    exact ⟨rfl, b1⟩
  | some v =>
    rw [hl] at H1 HP
    simp only [Option.isSome_some, Option.getD_some] at H1
    have H2 : Hid (∀ w1, Below w.heap.size w w1 → Calls Tryz.prog 136 #[.string (mk v)] w1 fun x w' => x = .returned (.tuple #[.int .i64 n, .int .i64 e]) ∧ Below w1.heap.size w1 w') := hid_of fun w1 b1 => parse_any (mk v) w1 n e (by rw [mk_size]; exact hb _ (lkp_mem hl)) HP (hh.later b1)
    clear h hh HP hl
    generalize mk v = V at *
    go_enter Tryz.func137, Tryz.ntmps137
    go_wp2_with fail
    refine H1.out.mono ?_
    rintro x w1 hw1
    obtain ⟨rfl, b1⟩ := hw1
    have H3 := hid_of (H2.out w1 b1)
    have B1 := hid_of b1
    clear b1 H2
    go_wp2_with fail
    refine H3.out.mono ?_
    rintro x w2 hw2
    obtain ⟨rfl, b2⟩ := hw2
    go_wp2_with fail
    go_ret2
    exact ⟨rfl, bel B1.out b2 (Nat.le_refl _)⟩
set_option maxRecDepth 100000 in
theorem incr_nil (s : ByteArray) (n : Int) (w : World) : Calls Tryz.prog 102 #[.pointer none, .string s, .int .i64 n] w fun e w' => e = .returned (.tuple #[.int .i64 0, .int .i64 0]) ∧ w' = w := by
  go_enter Tryz.func102, Tryz.ntmps102
  go_wp2
  go_ret2
  exact ⟨rfl, rfl⟩
def IncE (b m : Nat) (l : FL) (k : Bs) (n e by' : Int) (w : World) (x : Ending) (w' : World) : Prop := x = .returned (.tuple #[.int .i64 (incrS l k n e by').2.1, .int .i64 (incrS l k n e by').2.2]) ∧ DK b m (incrS l k n e by').1 w' ∧ Mv m w w'
theorem itoa_len (n : Int) (h : DiNumMath.InI n) : (itoa n).length ≤ 21 := by
  unfold itoa
  split
  · have := RPrint.dec_len (u := n.natAbs) (by unfold DiNumMath.InI at h; omega)
    simp; omega
  · have := RPrint.dec_len (u := n.toNat) (by unfold DiNumMath.InI at h; omega)
    omega
set_option maxHeartbeats 2000000 in
set_option maxRecDepth 100000 in
theorem incr_call (b m : Nat) (l : FL) (s : ByteArray) (n e by' : Int) (w : World) (h : DK b m l w) (hs : s.size ≤ 140737488355328) (hb : ∀ p ∈ l, p.2.length ≤ 140737488351232) (hn : l.length < 140737488355328) (hi : DiNumMath.InI by') (HP : Pd l (bs s) n e) (hh : Has w) :
    Calls Tryz.prog 102 #[ptr b, .string s, .int .i64 by'] w fun x w' => IncE b m l (bs s) n e by' w x w' := by
  have H1 := hid_of (number_call b m l s n e w h hs hb HP hh)
  obtain ⟨hin, he⟩ := pd_in HP
  have HD := hid_of h
  have HM := hid_of (owns_map h.map)
  have HH := hid_of hh
  have HBY := hid_of hi
  have HIN := hid_of hin
  rcases he with rfl | rfl
  · have H2 : Hid (∀ w1, Calls Tryz.prog 138 #[.int .i64 n, .int .i64 by'] w1 fun x w' => x = .returned (.tuple #[.int .i64 (DiNumMath.outV (n + by')), .int .i64 (DiNumMath.outE (n + by'))]) ∧ w' = w1) := hid_of fun w1 => DiArith.add_any n by' w1 hin hi
    cases hf : DiNumMath.fitB (n + by') with
    | true =>
      rw [DiNumMath.outV_pos hf, DiNumMath.outE_pos hf] at H2
      have HI : Hid (incrS l (bs s) n 0 by' = (withL l (bs s) (itoa (n + by')), n + by', 0)) := by show _ = _; unfold incrS; rw [if_pos rfl, if_pos hf]
      have HS := hid_of ((DiNumMath.fitB_iff _).1 hf)
      obtain ⟨S, hS⟩ : ∃ S, S = n + by' := ⟨_, rfl⟩
      rw [← hS] at H2 HI HS
      have H4 : Hid (∀ w1, Below w.heap.size w w1 → Calls Tryz.prog 140 #[.int .i64 S] w1 fun x w' => x = .returned (.string (mk (itoa S))) ∧ Below w1.heap.size w1 w') := hid_of fun w1 b1 => Print.print_any S w1 HS.out (HH.out.later b1).tab
      have H5 : Hid (∀ w1, Below w.heap.size w w1 → Calls Tryz.prog 139 #[ptr b, .string s, .string (mk (itoa S))] w1 fun x w' => x = .returned (.bool (!ok l (bs s))) ∧ DK b m (withL l (bs s) (itoa S)) w' ∧ Mv m w1 w') := hid_of fun w1 b1 => by
        have := set_call b m l s (mk (itoa S)) w1 (HD.out.below b1) hs (by rw [mk_size]; have := itoa_len S HS.out; omega) hn
        rw [bs_mk] at this
        exact this
      clear h hh hb HP hin hi hf hS
      unfold ptr at *
      generalize mk (itoa S) = T at *
      go_enter Tryz.func102, Tryz.ntmps102
      go_wp2_with fail
      refine H1.out.mono ?_
      rintro x w1 hw1
      obtain ⟨rfl, b1⟩ := hw1
      have H2' := hid_of (H2.out w1)
      have H4' := hid_of (H4.out w1 b1)
      have B1 := hid_of b1
      clear b1 H2 H4
      go_wp2_with fail
      refine H2'.out.mono ?_
      rintro x w2 hw2
      obtain ⟨rfl, rfl⟩ := hw2
      go_wp2_with fail
      refine H4'.out.mono ?_
      rintro x w3 hw3
      obtain ⟨rfl, b3⟩ := hw3
      have B3 := hid_of (bel B1.out b3 (Nat.le_refl _))
      have H5' := hid_of (H5.out w3 B3.out)
      clear b3 H5
      go_wp2_with fail
      refine H5'.out.mono ?_
      rintro x w4 hw4
      obtain ⟨rfl, d4, m4⟩ := hw4
      go_wp2_with fail
      go_ret2
      unfold IncE
      rw [HI.out]
      exact ⟨rfl, d4, (Mv.of_below B3.out HM.out).trans m4⟩
    | false =>
      rw [DiNumMath.outV_neg hf, DiNumMath.outE_neg hf] at H2
      have HI : Hid (incrS l (bs s) n 0 by' = (l, 0, 11)) := by show _ = _; unfold incrS; rw [if_pos rfl, if_neg (by rw [hf]; decide)]
      clear h hh hb HP hin hi hf
      unfold ptr at *
      go_enter Tryz.func102, Tryz.ntmps102
      go_wp2_with fail
      refine H1.out.mono ?_
      rintro x w1 hw1
      obtain ⟨rfl, b1⟩ := hw1
      have H2' := hid_of (H2.out w1)
      have B1 := hid_of b1
      clear b1 H2
      go_wp2_with fail
      refine H2'.out.mono ?_
      rintro x w2 hw2
      obtain ⟨rfl, rfl⟩ := hw2
      go_wp2_with fail
      go_ret2
      unfold IncE
      rw [HI.out]
      exact ⟨rfl, HD.out.below B1.out, Mv.of_below B1.out HM.out⟩
  · have HI : Hid (incrS l (bs s) n 10 by' = (l, 0, 10)) := by show _ = _; unfold incrS; rw [if_neg (by decide)]
    clear h hh hb HP hin hi
    unfold ptr at *
    go_enter Tryz.func102, Tryz.ntmps102
    go_wp2_with fail
    refine H1.out.mono ?_
    rintro x w1 hw1
    obtain ⟨rfl, b1⟩ := hw1
    have B1 := hid_of b1
    clear b1
    go_wp2_with fail
    go_ret2
    unfold IncE
    rw [HI.out]
    exact ⟨rfl, HD.out.below B1.out, Mv.of_below B1.out HM.out⟩
end Go.Proofs.YtcgdnpcegcmboaaGreatDoor.DiIncr
end
section
namespace Go.Proofs.YtcgdnpcegcmboaaGreatDoor.HFld
open Go.RowKit Go.Maps
open Go.Proofs.YtcgdnpcegcmboaaGreatDoor.SpaceMath (wout withL lkp keys toD)
open Go.Proofs.YtcgdnpcegcmboaaGreatDoor.ValueMath (Vl chk small)
open Go.Proofs.YtcgdnpcegcmboaaGreatDoor.Base (mk mk_list mk_size Gr hid_of SL)
open Go.Proofs.YtcgdnpcegcmboaaGreatDoor.Turn
open Go.Proofs.YtcgdnpcegcmboaaGreatDoor.Vals
open Go.Proofs.YtcgdnpcegcmboaaGreatDoor.Check0 (Wel)
open Go.Proofs.YtcgdnpcegcmboaaGreatDoor.SBase
open Go.Proofs.YtcgdnpcegcmboaaGreatDoor.SFind
open Go.Proofs.YtcgdnpcegcmboaaGreatDoor.SPut (vO)
open Go.Proofs.YtcgdnpcegcmboaaGreatDoor.QBase
open Go.Proofs.YtcgdnpcegcmboaaGreatDoor.HCmd
open Go.Proofs.YtcgdnpcegcmboaaGreatDoor.DiBase (DK)
open Go.Proofs.YtcgdnpcegcmboaaGreatDoor.Parse (Has)
set_option linter.unusedVariables false
set_option linter.unusedSimpArgs false
abbrev FL := List (Bs × Bs)
abbrev wrongB : ByteArray := ⟨#[87, 82, 79, 78, 71, 84, 89, 80, 69, 32, 116, 104, 101, 32, 107, 101, 121, 32, 104, 111, 108, 100, 115, 32, 97, 110, 111, 116, 104, 101, 114, 32, 107, 105, 110, 100, 32, 111, 102, 32, 118, 97, 108, 117, 101]⟩
theorem fs_of {w : World} {v : Value} {l : FL} (h : FRow.FS w v l) : DiBase.FS w v l := by
  obtain ⟨a, c, rfl, -, h⟩ := h
  exact ⟨a, c, rfl, h⟩
/-- the fields at a key -/
def flds (S : Sp) (now : Int) (k : Bs) (L : FL) : Prop := (gt S now k = none ∧ L = []) ∨ ∃ en, gt S now k = some en ∧ en.val.kind = 3 ∧ en.val.fields = L
section
variable {F X : Nat → Prop} {b : Nat} {w : World} {S : Sp}
set_option maxHeartbeats 4000000 in
set_option maxRecDepth 100000 in
theorem fields_none (h : SP F X b w S) (k : Bs) (hk : k.length ≤ 281474976710656) (now : Int) (a : Option Addr) (n c : Nat) (hg : gt S now k = none) :
    Calls Tryz.prog 130 #[cV b now (mk k) a n c] w fun e w' => e = .returned (.tuple #[.slice none 0 0, .string ⟨#[]⟩]) ∧ Below w.heap.size w w' := by
  obtain ⟨W, hW⟩ : ∃ W, W = w.alloc (cO b now (mk k) a n c) := ⟨_, rfl⟩
  have bW : Below w.heap.size w W := by rw [hW]; exact alb _ _
  have HB := hid_of bW
  have HW := hid_of hW
  have H1 := hid_of (get_no (h.below bW) k hk now hg)
  clear hW bW h hg
  generalize mk k = K at *
  go_enter Tryz.func130, Tryz.ntmps130
  go_wp2_with fail
  rw [← HW.out]
  refine H1.out.mono ?_
  rintro e w1 ⟨rfl, b1⟩
  have B1 := FRow.bel HB.out b1 (Nat.le_refl _)
  have B2 := hid_of (FRow.bel B1 (alb w1 (vO 0 ⟨#[]⟩ (.slice none 0 0) (.slice none 0 0) (.slice none 0 0))) (Nat.le_refl _))
  clear b1 B1 H1
  go_wp2_with fail
  go_ret2
  exact ⟨rfl, B2.out⟩
set_option maxHeartbeats 4000000 in
set_option maxRecDepth 100000 in
theorem fields_wrong (h : SP F X b w S) (k : Bs) (hk : k.length ≤ 281474976710656) (now : Int) (a : Option Addr) (n c : Nat) {en : En} (hg : gt S now k = some en) (hk2 : en.val.kind ≠ 3) :
    Calls Tryz.prog 130 #[cV b now (mk k) a n c] w fun e w' => e = .returned (.tuple #[.slice none 0 0, .string wrongB]) ∧ Below w.heap.size w w' := by
  obtain ⟨W, hW⟩ : ∃ W, W = w.alloc (cO b now (mk k) a n c) := ⟨_, rfl⟩
  have bW : Below w.heap.size w W := by rw [hW]; exact alb _ _
  have HB := hid_of bW
  have HW := hid_of hW
  have H1 := hid_of (get_yes (h.below bW) k hk now hg)
  have e1 : (en.val.kind != 3) = true := by simp [hk2]
  clear hW bW h hg hk2
  generalize mk k = K at *
  go_enter Tryz.func130, Tryz.ntmps130
  go_wp2_with fail
  rw [← HW.out]
  refine H1.out.mono ?_
  rintro e w1 ⟨u, rfl, hu, b1⟩
  obtain ⟨a1, n1, c1, a2, n2, c2, a3, n3, c3, rfl⟩ := vn_form hu
  have B1 := FRow.bel HB.out b1 (Nat.le_refl _)
  have B2 := hid_of (FRow.bel B1 (alb w1 (vO en.val.kind (mk en.val.text) (.slice a1 n1 c1) (.slice a2 n2 c2) (.slice a3 n3 c3))) (Nat.le_refl _))
  clear b1 B1 H1 hu
  go_wp2_with fail
  go_ret2
  exact ⟨rfl, B2.out⟩
set_option maxHeartbeats 4000000 in
set_option maxRecDepth 100000 in
theorem fields_yes (h : SP F X b w S) (k : Bs) (hk : k.length ≤ 281474976710656) (now : Int) (a : Option Addr) (n c : Nat) {en : En} (hg : gt S now k = some en) (hk2 : en.val.kind = 3) :
    Calls Tryz.prog 130 #[cV b now (mk k) a n c] w fun e w' => (∃ a2 c2, e = .returned (.tuple #[.slice a2 en.val.fields.length c2, .string ⟨#[]⟩]) ∧ FRow.FS w' (.slice a2 en.val.fields.length c2) en.val.fields) ∧ Below w.heap.size w w' := by
  obtain ⟨W, hW⟩ : ∃ W, W = w.alloc (cO b now (mk k) a n c) := ⟨_, rfl⟩
  have bW : Below w.heap.size w W := by rw [hW]; exact alb _ _
  have HB := hid_of bW
  have HW := hid_of hW
  have H1 := hid_of (get_yes (h.below bW) k hk now hg)
  have e1 : (en.val.kind != 3) = false := by simp [hk2]
  clear hW bW h hg hk2
  generalize mk k = K at *
  go_enter Tryz.func130, Tryz.ntmps130
  go_wp2_with fail
  rw [← HW.out]
  refine H1.out.mono ?_
  rintro e w1 ⟨u, rfl, hu, b1⟩
  obtain ⟨u1, u2, u3, rfl, hl, h2, h3⟩ := hu
  obtain ⟨a1, c1, rfl, _⟩ := hl.shape
  obtain ⟨a3, c3, rfl⟩ := shapeERow h3
  have hfs := FRow.fs_row h2
  obtain ⟨a2, c2, rfl⟩ := shapeFRow h2
  have B1 := FRow.bel HB.out b1 (Nat.le_refl _)
  have bb := alb w1 (vO en.val.kind (mk en.val.text) (.slice a1 en.val.list.length c1) (.slice a2 en.val.fields.length c2) (.slice a3 en.val.ranked.length c3))
  have B2 := hid_of (FRow.bel B1 bb (Nat.le_refl _))
  have H2 := hid_of (hfs.below bb)
  clear b1 B1 H1 hl h2 h3 hfs bb
  go_wp2_with fail
  go_ret2
  exact ⟨⟨a2, c2, rfl, H2.out⟩, B2.out⟩
theorem fields_call (h : SP F X b w S) (k : Bs) (hk : k.length ≤ 281474976710656) (now : Int) (a : Option Addr) (n c : Nat) {L : FL} (hL : flds S now k L) :
    Calls Tryz.prog 130 #[cV b now (mk k) a n c] w fun e w' => (∃ a2 c2, e = .returned (.tuple #[.slice a2 L.length c2, .string ⟨#[]⟩]) ∧ FRow.FS w' (.slice a2 L.length c2) L) ∧ Below w.heap.size w w' := by
  rcases hL with ⟨h1, rfl⟩ | ⟨en, h1, h2, rfl⟩
  · exact (fields_none h k hk now a n c h1).mono fun e w' ⟨h2, h3⟩ => ⟨⟨none, 0, h2, none, 0, rfl, Nat.le_refl _, .inl rfl⟩, h3⟩
  · exact fields_yes h k hk now a n c h1 h2
end
/-- a dict of fields that rise -/
structure Fit (L : FL) : Prop where
  ris : DiDictMath.Ris L
  n : L.length < 1099511627776
  len : ∀ p ∈ L, p.1.length ≤ 1048576 ∧ p.2.length ≤ 1048576
set_option maxHeartbeats 4000000 in
set_option maxRecDepth 100000 in
theorem dictOf_call (w : World) (a : Option Addr) (c : Nat) {L : FL} (hf : FRow.FS w (.slice a L.length c) L) (fit : Fit L) :
    Calls Tryz.prog 131 #[.slice a L.length c] w fun e w' => (∃ d m, e = .returned (ptr d) ∧ DK d m L w' ∧ w.heap.size ≤ d ∧ w.heap.size ≤ m) ∧ Below w.heap.size w w' := by
  have H1 := hid_of (DiOf.of_yes _ L w (fs_of hf) (by have := fit.n; omega) fit.ris (fun p hp => by have := fit.len p hp; omega))
  clear hf fit
  go_enter Tryz.func131, Tryz.ntmps131
  go_wp2_with fail
  refine H1.out.mono ?_
  rintro e w1 ⟨d, m, rfl, hd, h1, h2, bb⟩
  have HD := hid_of hd
  have B := hid_of bb
  clear hd bb H1
  go_wp2_with fail
  go_ret
  exact ⟨⟨d, m, rfl, HD.out, h1, h2⟩, B.out⟩
end Go.Proofs.YtcgdnpcegcmboaaGreatDoor.HFld
end
