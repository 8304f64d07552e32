/- A number's bytes, the lowest first, as a list and as a row of cells: no program is met here. -/
import Derived.Test.YtdcnkdkhanmklabBytesMath
import Derived.Lib.SlBytesRow
namespace Go.Proofs.Ytdcnkdkhanmklab.FixMath

/-! ### a number's bytes -/
def bt (u : Int) (j : Nat) : Int := (u / 2 ^ (8 * j)) % 256
theorem bt_bd (u : Int) (j : Nat) : 0 ≤ bt u j ∧ bt u j < 256 := by unfold bt; omega
theorem bt_wrap (u : Int) (j : Nat) : IntKind.u8.wrap (u / 2 ^ (8 * j)) = bt u j := by rw [IntKind.wrap_u8]; rfl
/-- the cells behind k rounds: k bytes of u, then noughts -/
def rowK (u : Int) (n k : Nat) : List Value := (List.range n).map fun j => Value.int .u8 (if j < k then bt u j else 0)
theorem rowK_len (u : Int) (n k : Nat) : (rowK u n k).length = n := by simp [rowK]
theorem rowK_get (u : Int) (n k j : Nat) (h : j < n) : (rowK u n k)[j]? = some (Value.int .u8 (if j < k then bt u j else 0)) := by
  simp [rowK, h]
theorem rowK_zero (u : Int) (n : Nat) : rowK u n 0 = List.replicate n (Value.int .u8 0) := by
  apply List.ext_getElem?
  intro j
  by_cases h : j < n
  · rw [rowK_get u n 0 j h]; simp [h]
  · rw [List.getElem?_eq_none (by rw [rowK_len]; omega), List.getElem?_eq_none (by simp; omega)]
theorem rowK_succ (u : Int) (n k : Nat) : (rowK u n k).set k (Value.int .u8 (bt u k)) = rowK u n (k + 1) := by
  apply List.ext_getElem?
  intro j
  by_cases h : j < n
  · rw [rowK_get u n (k + 1) j h, List.getElem?_set]
    by_cases e : k = j
    · subst e; simp [rowK_len, h]
    · rw [if_neg e, rowK_get u n k j h]
      by_cases l : j < k
      · rw [if_pos l, if_pos (by omega)]
      · rw [if_neg l, if_neg (by omega)]
  · rw [List.getElem?_eq_none (by rw [List.length_set, rowK_len]; omega), List.getElem?_eq_none (by rw [rowK_len]; omega)]
/-- so many bytes of a number -/
def leY (u : Int) (n : Nat) : List UInt8 := (List.range n).map fun j => UInt8.ofNat (bt u j).toNat
theorem leY_len (u : Int) (n : Nat) : (leY u n).length = n := by simp [leY]
theorem leY_get (u : Int) (n j : Nat) (h : j < (leY u n).length) : (leY u n)[j] = UInt8.ofNat (bt u j).toNat := by simp [leY]
theorem leY_toNat (u : Int) (n j : Nat) (h : j < (leY u n).length) : (((leY u n)[j]).toNat : Int) = bt u j := by
  rw [leY_get]
  have := bt_bd u j
  simp; omega
theorem leY_succ (u : Int) (n : Nat) : leY u (n + 1) = leY u n ++ [UInt8.ofNat (bt u n).toNat] := by
  simp [leY, List.range_succ]
/-- the cells of k bytes -/
def rowC (u : Int) (k : Nat) : List Value := (List.range k).map fun j => Value.int .u8 (bt u j)
theorem rowC_len (u : Int) (k : Nat) : (rowC u k).length = k := by simp [rowC]
theorem rowC_get (u : Int) (k j : Nat) (h : j < k) : (rowC u k)[j]? = some (Value.int .u8 (bt u j)) := by simp [rowC, h]
theorem rowC_succ (u : Int) (k : Nat) : rowC u k ++ [Value.int .u8 (bt u k)] = rowC u (k + 1) := by simp [rowC, List.range_succ]
theorem rowK_end (u : Int) (n : Nat) : rowK u n n = rowC u n := by
  apply List.ext_getElem?
  intro j
  by_cases h : j < n
  · rw [rowK_get u n n j h, rowC_get u n j h, if_pos h]
  · rw [List.getElem?_eq_none (by rw [rowK_len]; omega), List.getElem?_eq_none (by rw [rowC_len]; omega)]
theorem quo_step (u : Int) (k : Nat) : u / 2 ^ (8 * k) / 256 = u / 2 ^ (8 * (k + 1)) := by
  rw [Int.ediv_ediv_of_nonneg (Int.le_of_lt (Int.pow_pos (by omega)))]
  congr 1
  rw [show 8 * (k + 1) = 8 * k + 8 from by omega, Int.pow_add]
  rfl
theorem quo_bd (u : Int) (k : Nat) (h0 : 0 ≤ u) (h1 : u ≤ 18446744073709551615) : 0 ≤ u / 2 ^ (8 * k) ∧ u / 2 ^ (8 * k) ≤ 18446744073709551615 := by
  have hp : (0 : Int) < 2 ^ (8 * k) := Int.pow_pos (by omega)
  refine ⟨Int.ediv_nonneg h0 (Int.le_of_lt hp), ?_⟩
  exact Int.le_trans (Int.ediv_le_self _ h0) h1
theorem size_of (l : List UInt8) : (⟨l.toArray⟩ : ByteArray).size = l.length := by simp [ByteArray.size]
end Go.Proofs.Ytdcnkdkhanmklab.FixMath
