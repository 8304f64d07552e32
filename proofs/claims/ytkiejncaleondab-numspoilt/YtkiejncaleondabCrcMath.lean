/- The sum of IEEE 802.3 as plain functions of numbers and lists of bytes: by bits, by bytes over a table, one behind the other, and that one spoilt byte always tells: no program is met here. -/
import Derived.RowKit
import Derived.Laws.BitsAllLaws
namespace Go.Proofs.Ytkiejncaleondab.CrcMath

def sh (r : Nat) : Nat := if r % 2 = 1 then (r / 2) ^^^ 3988292384 else r / 2
def shN : Nat → Nat → Nat
  | 0, r => r
  | n + 1, r => sh (shN n r)
def stepN (r c : Nat) : Nat := shN 8 (r ^^^ c)
def foldN (r : Nat) (l : List UInt8) : Nat := l.foldl (fun x c => stepN x c.toNat) r
def moreN (r : Nat) (l : List UInt8) : Nat := foldN (4294967295 ^^^ r) l
def endN (r : Nat) : Nat := 4294967295 ^^^ r

theorem xor_lt {a b : Nat} (ha : a < 4294967296) (hb : b < 4294967296) : a ^^^ b < 4294967296 := Nat.xor_lt_two_pow (n := 32) ha hb
theorem sh_lt {r : Nat} (h : r < 4294967296) : sh r < 4294967296 := by
  unfold sh; split
  · exact xor_lt (by omega) (by omega)
  · omega
theorem shN_lt (n : Nat) {r : Nat} (h : r < 4294967296) : shN n r < 4294967296 := by
  induction n with
  | zero => exact h
  | succ n ih => exact sh_lt ih
theorem stepN_lt {r c : Nat} (h : r < 4294967296) (hc : c < 256) : stepN r c < 4294967296 := shN_lt 8 (xor_lt h (by omega))
theorem foldN_lt (l : List UInt8) : ∀ {r : Nat}, r < 4294967296 → foldN r l < 4294967296 := by
  induction l with
  | nil => intro r h; exact h
  | cons c t ih => intro r h; exact ih (stepN_lt h c.toNat_lt)
theorem foldN_append (r : Nat) (l m : List UInt8) : foldN r (l ++ m) = foldN (foldN r l) m := by simp [foldN]
theorem foldN_snoc (r : Nat) (l : List UInt8) (c : UInt8) : foldN r (l ++ [c]) = stepN (foldN r l) c.toNat := by simp [foldN]

theorem xor_mod2 (a b : Nat) : (a ^^^ b) % 2 = (a % 2 + b % 2) % 2 := by
  have := @Nat.xor_mod_two_pow a b 1
  simp only [Nat.pow_one] at this
  rw [this]
  have ha : a % 2 = 0 ∨ a % 2 = 1 := by omega
  have hb : b % 2 = 0 ∨ b % 2 = 1 := by omega
  rcases ha with ha | ha <;> rcases hb with hb | hb <;> rw [ha, hb] <;> rfl
theorem xor_div2 (a b : Nat) : (a ^^^ b) / 2 = (a / 2) ^^^ (b / 2) := by
  have := @Nat.xor_div_two_pow a b 1
  simpa using this
theorem sh_xor (a b : Nat) : sh (a ^^^ b) = sh a ^^^ sh b := by
  unfold sh
  rw [xor_mod2, xor_div2]
  have ha : a % 2 = 0 ∨ a % 2 = 1 := by omega
  have hb : b % 2 = 0 ∨ b % 2 = 1 := by omega
  rcases ha with ha | ha <;> rcases hb with hb | hb <;> simp only [ha, hb] <;> simp
  · rw [Nat.xor_assoc]
  · rw [Nat.xor_assoc, Nat.xor_comm (b / 2), ← Nat.xor_assoc]
  · rw [Nat.xor_assoc (a / 2), ← Nat.xor_assoc 3988292384, Nat.xor_comm 3988292384 (b / 2), Nat.xor_assoc (b / 2), Nat.xor_self, Nat.xor_zero]
theorem shN_xor (n a b : Nat) : shN n (a ^^^ b) = shN n a ^^^ shN n b := by
  induction n with
  | zero => rfl
  | succ n ih => simp only [shN, ih, sh_xor]
theorem sh_even (y : Nat) : sh (2 * y) = y := by unfold sh; rw [if_neg (by omega)]; omega
theorem shN_pow (n : Nat) : ∀ y, shN n (2 ^ n * y) = y := by
  induction n with
  | zero => intro y; simp [shN]
  | succ n ih => intro y; rw [shN, Nat.pow_succ, Nat.mul_assoc, ih, sh_even]
theorem split8 (r : Nat) : (2 ^ 8 * (r / 256)) ^^^ (r % 256) = r := by
  apply Nat.eq_of_testBit_eq
  intro i
  rw [Nat.testBit_xor, Nat.testBit_two_pow_mul, show r % 256 = r % 2 ^ 8 from rfl, Nat.testBit_mod_two_pow, show r / 256 = r / 2 ^ 8 from rfl, Nat.testBit_div_two_pow]
  by_cases h : 8 ≤ i
  · have h2 : ¬ i < 8 := by omega
    simp [h, h2]
  · have h2 : i < 8 := by omega
    simp [h, h2]
/-- by bytes over a table -/
theorem step_table (r c : Nat) : stepN r c = (r / 256) ^^^ shN 8 ((r % 256) ^^^ c) := by
  unfold stepN
  conv => lhs; rw [← split8 r]
  rw [Nat.xor_assoc, shN_xor, shN_pow]

/-! ### one spoilt byte -/
theorem xor_cancel {a b c : Nat} (h : a ^^^ c = b ^^^ c) : a = b := by
  have := congrArg (· ^^^ c) h
  simpa [Nat.xor_assoc] using this
theorem xor_cancel' {a b c : Nat} (h : c ^^^ a = c ^^^ b) : a = b := xor_cancel (c := c) (by rw [Nat.xor_comm a, Nat.xor_comm b]; exact h)
theorem top_bit {x : Nat} (h : x < 2147483648) : 2147483648 ≤ x ^^^ 3988292384 := by
  have hx : x.testBit 31 = false := Nat.testBit_lt_two_pow h
  have : (x ^^^ 3988292384).testBit 31 = true := by rw [Nat.testBit_xor, hx]; decide
  exact Nat.ge_two_pow_of_testBit this
theorem sh_inj {a b : Nat} (ha : a < 4294967296) (hb : b < 4294967296) (h : sh a = sh b) : a = b := by
  unfold sh at h
  by_cases h1 : a % 2 = 1 <;> by_cases h2 : b % 2 = 1
  · rw [if_pos h1, if_pos h2] at h
    have := xor_cancel h; omega
  · rw [if_pos h1, if_neg h2] at h
    have := top_bit (x := a / 2) (by omega); omega
  · rw [if_neg h1, if_pos h2] at h
    have := top_bit (x := b / 2) (by omega); omega
  · rw [if_neg h1, if_neg h2] at h; omega
theorem shN_inj (n : Nat) {a b : Nat} (ha : a < 4294967296) (hb : b < 4294967296) (h : shN n a = shN n b) : a = b := by
  induction n with
  | zero => exact h
  | succ n ih => exact ih (sh_inj (shN_lt n ha) (shN_lt n hb) h)
theorem foldN_inj (l : List UInt8) : ∀ {a b : Nat}, a < 4294967296 → b < 4294967296 → foldN a l = foldN b l → a = b := by
  induction l with
  | nil => intro a b _ _ h; exact h
  | cons c t ih =>
    intro a b ha hb h
    have hc : c.toNat < 256 := c.toNat_lt
    have := ih (stepN_lt ha hc) (stepN_lt hb hc) h
    exact xor_cancel (shN_inj 8 (xor_lt ha (by omega)) (xor_lt hb (by omega)) this)
theorem spoilt {r : Nat} (hr : r < 4294967296) (l m : List UInt8) {c d : UInt8} (hcd : c ≠ d) : foldN r (l ++ c :: m) ≠ foldN r (l ++ d :: m) := by
  intro h
  rw [foldN_append, foldN_append] at h
  have hx := foldN_lt l hr
  have hc : c.toNat < 256 := c.toNat_lt
  have hd : d.toNat < 256 := d.toNat_lt
  have h1 := foldN_inj m (stepN_lt hx hc) (stepN_lt hx hd) h
  have h2 := xor_cancel' (shN_inj 8 (xor_lt hx (by omega)) (xor_lt hx (by omega)) h1)
  exact hcd (UInt8.toNat_inj.1 h2)
theorem end_end (r : Nat) : 4294967295 ^^^ (4294967295 ^^^ r) = r := by rw [← Nat.xor_assoc, Nat.xor_self, Nat.zero_xor]
/-- what a sum comes to: its bits turned -/
def crcN (r : Nat) (l : List UInt8) : Nat := endN (moreN r l)
theorem crcN_eq (r : Nat) (l : List UInt8) : crcN r l = 4294967295 ^^^ foldN (4294967295 ^^^ r) l := by unfold crcN endN moreN; rfl
theorem crcN_lt {r : Nat} (l : List UInt8) (h : r < 4294967296) : crcN r l < 4294967296 := by
  have h1 : 4294967295 ^^^ r < 4294967296 := xor_lt (by omega) h
  have h2 := foldN_lt l h1
  rw [crcN_eq]
  generalize foldN (4294967295 ^^^ r) l = z at h2
  exact xor_lt (by omega) h2
theorem crcN_more (l m : List UInt8) : crcN (crcN 0 l) m = crcN 0 (l ++ m) := by
  simp only [crcN_eq, foldN_append, end_end]
theorem crcN_spoilt (l m : List UInt8) {c d : UInt8} (hcd : c ≠ d) : crcN 0 (l ++ c :: m) ≠ crcN 0 (l ++ d :: m) := by
  intro h
  rw [crcN_eq, crcN_eq] at h
  have hr : 4294967295 ^^^ 0 < 4294967296 := xor_lt (by omega) (by omega)
  generalize 4294967295 ^^^ 0 = r at h hr
  exact spoilt hr l m hcd (xor_cancel' h)
theorem crc_one : crcN 0 [49] ≠ 0 := by decide +kernel
theorem crc_nil : crcN 0 [] = 0 := by decide +kernel
theorem crc_nine : crcN 0 [49, 50, 51, 52, 53, 54, 55, 56, 57] = 3421780262 := by decide +kernel
end Go.Proofs.Ytkiejncaleondab.CrcMath
