/- What num.Add, num.Sub and num.Mul come to, as plain functions of integers, and what NumRing and NumSums ask of them: no program is met here. -/
import Derived.RowKit
namespace Go.Proofs.YtolihcgpnoacaaaDoor.NumMath
open Go.RowKit (wrap64)

def InI (n : Int) : Prop := -9223372036854775808 ≤ n ∧ n ≤ 9223372036854775807
def fitB (n : Int) : Bool := decide (-9223372036854775808 ≤ n ∧ n ≤ 9223372036854775807)
def outV (n : Int) : Int := if fitB n = true then n else 0
def outE (n : Int) : Int := if fitB n = true then 0 else 11

theorem fitB_iff (n : Int) : fitB n = true ↔ -9223372036854775808 ≤ n ∧ n ≤ 9223372036854775807 := by simp [fitB]
theorem fitB_of {n : Int} (h : InI n) : fitB n = true := (fitB_iff n).2 h
theorem outV_pos {n : Int} (h : fitB n = true) : outV n = n := by simp [outV, h]
theorem outE_pos {n : Int} (h : fitB n = true) : outE n = 0 := by simp [outE, h]
theorem outV_neg {n : Int} (h : fitB n = false) : outV n = 0 := by simp [outV, h]
theorem outE_neg {n : Int} (h : fitB n = false) : outE n = 11 := by simp [outE, h]
theorem outV_in (n : Int) : InI (outV n) := by
  unfold outV InI; split
  · next h => exact (fitB_iff n).1 h
  · omega
theorem outE_bd (n : Int) : 0 ≤ outE n ∧ outE n ≤ 11 := by unfold outE; split <;> omega
theorem fitB_false {n : Int} (h : fitB n = false) : n < -9223372036854775808 ∨ 9223372036854775807 < n := by
  have : ¬ (-9223372036854775808 ≤ n ∧ n ≤ 9223372036854775807) := by rw [← fitB_iff]; simp [h]
  omega

theorem wrap_in {n : Int} (h1 : -9223372036854775808 ≤ n) (h2 : n ≤ 9223372036854775807) : wrap64 n = n := by unfold wrap64; omega
theorem wrap_bd (n : Int) : -9223372036854775808 ≤ wrap64 n ∧ wrap64 n ≤ 9223372036854775807 := by unfold wrap64; omega
theorem wrap_mod (n : Int) : ∃ k : Int, wrap64 n = n + 18446744073709551616 * k := ⟨-((n + 9223372036854775808) / 18446744073709551616), by unfold wrap64; omega⟩

theorem add_wrap_lo {a b : Int} (ha : InI a) (hb : InI b) (hp : 0 < b) (h : 9223372036854775807 < a + b) : wrap64 (a + b) < a := by
  obtain ⟨h1, h2⟩ := ha; obtain ⟨h3, h4⟩ := hb; unfold wrap64; omega
theorem add_wrap_hi {a b : Int} (ha : InI a) (hb : InI b) (hp : b < 0) (h : a + b < -9223372036854775808) : a < wrap64 (a + b) := by
  obtain ⟨h1, h2⟩ := ha; obtain ⟨h3, h4⟩ := hb; unfold wrap64; omega
theorem sub_wrap_hi {a b : Int} (ha : InI a) (hb : InI b) (hp : 0 < b) (h : a - b < -9223372036854775808) : a < wrap64 (a - b) := by
  obtain ⟨h1, h2⟩ := ha; obtain ⟨h3, h4⟩ := hb; unfold wrap64; omega
theorem sub_wrap_lo {a b : Int} (ha : InI a) (hb : InI b) (hp : b < 0) (h : 9223372036854775807 < a - b) : wrap64 (a - b) < a := by
  obtain ⟨h1, h2⟩ := ha; obtain ⟨h3, h4⟩ := hb; unfold wrap64; omega

theorem tdiv_mul_self (a b : Int) (hb : b ≠ 0) : (a * b).tdiv b = a := Int.mul_tdiv_cancel a hb

/-- the quotient of an int by what is neither 0 nor -1 is an int -/
theorem tdiv_bd {p b : Int} (hp : InI p) (h0 : b ≠ 0) (h1 : b ≠ -1) : InI (p.tdiv b) := by
  obtain ⟨hl, hu⟩ := hp
  have hn : (p.tdiv b).natAbs = p.natAbs / b.natAbs := Int.natAbs_tdiv p b
  have hle : p.natAbs / b.natAbs ≤ p.natAbs := Nat.div_le_self _ _
  unfold InI
  by_cases hm : p = -9223372036854775808
  · subst hm
    by_cases hb1 : b = 1
    · subst hb1; simp
    · have h2 : 2 ≤ b.natAbs := by omega
      have : (-9223372036854775808 : Int).natAbs / b.natAbs ≤ 9223372036854775808 / 2 := by
        have e : (-9223372036854775808 : Int).natAbs = 9223372036854775808 := by decide
        rw [e]; exact Nat.div_le_div_left h2 (by omega)
      omega
  · omega

theorem mul_back {a b : Int} (ha : InI a) (h0 : b ≠ 0) (h : fitB (a * b) = true) : (wrap64 ((wrap64 (a * b)).tdiv b) != a) = false := by
  rw [fitB_iff] at h
  rw [wrap_in h.1 h.2, tdiv_mul_self a b h0, wrap_in ha.1 ha.2]; simp

theorem mul_off {a b : Int} (hb : InI b) (h0 : b ≠ 0) (h1 : b ≠ -1) (h : fitB (a * b) = false) : (wrap64 ((wrap64 (a * b)).tdiv b) != a) = true := by
  have h := fitB_false h
  have hp := wrap_bd (a * b)
  have hq := tdiv_bd (b := b) (show InI (wrap64 (a * b)) from hp) h0 h1
  rw [wrap_in hq.1 hq.2, bne_iff_ne]
  intro e
  have hd := Int.mul_tdiv_add_tmod (wrap64 (a * b)) b
  have hr : ((wrap64 (a * b)).tmod b).natAbs < b.natAbs := by
    rw [Int.natAbs_tmod]; exact Nat.mod_lt _ (by omega)
  obtain ⟨k, hk⟩ := wrap_mod (a * b)
  rw [e, Int.mul_comm b a] at hd
  generalize wrap64 (a * b) = p at *
  generalize p.tmod b = r at *
  generalize a * b = m at *
  obtain ⟨b1, b2⟩ := hb
  have hb' : b.natAbs ≤ 9223372036854775808 := by omega
  have hk0 : k = 0 := by omega
  subst hk0
  omega

/-! ### a product's size -/
def sz (a : Int) : Int := if a < 0 then -a else a
theorem sz_neg {a : Int} (h : a < 0) : sz a = -a := by simp [sz, h]
theorem sz_pos {a : Int} (h : 0 ≤ a) : sz a = a := by unfold sz; split <;> omega
theorem sz_eq (a : Int) : sz a = (a.natAbs : Int) := by unfold sz; split <;> omega
theorem sz_mul (a b : Int) : sz a * sz b = sz (a * b) := by rw [sz_eq, sz_eq, sz_eq, Int.natAbs_mul]; simp
theorem div_lt {m a b : Int} (h0 : a ≠ 0) : (m / sz a < sz b) ↔ m < sz (a * b) := by
  have hp : 0 < sz a := by rw [sz_eq]; omega
  rw [Int.ediv_lt_iff_lt_mul hp, Int.mul_comm, sz_mul]
theorem fit_same {a b : Int} (h0 : a ≠ 0) (hs : 0 ≤ a * b) : (9223372036854775807 / sz a < sz b) ↔ fitB (a * b) = false := by
  rw [div_lt h0, sz_pos hs]
  constructor
  · intro h; cases e : fitB (a * b)
    · rfl
    · have := (fitB_iff _).1 e; omega
  · intro h; have := fitB_false h; omega
theorem fit_diff {a b : Int} (h0 : a ≠ 0) (hs : a * b ≤ 0) : (9223372036854775808 / sz a < sz b) ↔ fitB (a * b) = false := by
  have e : sz (a * b) = -(a * b) := by unfold sz; split <;> omega
  rw [div_lt h0, e]
  constructor
  · intro h; cases e : fitB (a * b)
    · rfl
    · have := (fitB_iff _).1 e; omega
  · intro h; have := fitB_false h; omega
theorem diff_sign {a b : Int} (h : (!decide (a < 0) == decide (b < 0)) = true) : a * b ≤ 0 := by
  by_cases ha : a < 0
  · have hb : 0 ≤ b := by simp [ha] at h; omega
    exact Int.mul_nonpos_of_nonpos_of_nonneg (by omega) hb
  · have hb : b < 0 := by simp [ha] at h; omega
    exact Int.mul_nonpos_of_nonneg_of_nonpos (by omega) (by omega)
theorem same_sign {a b : Int} (h : (!decide (a < 0) == decide (b < 0)) = false) : 0 ≤ a * b := by
  by_cases ha : a < 0
  · have hb : b < 0 := by simp [ha] at h; omega
    exact Int.mul_nonneg_of_nonpos_of_nonpos (by omega) (by omega)
  · have hb : 0 ≤ b := by simp [ha] at h; omega
    exact Int.mul_nonneg (by omega) hb
theorem sz_bd {a : Int} (h : InI a) : 0 ≤ sz a ∧ sz a ≤ 9223372036854775808 := by
  obtain ⟨h1, h2⟩ := h; unfold sz; split <;> omega
end Go.Proofs.YtolihcgpnoacaaaDoor.NumMath
