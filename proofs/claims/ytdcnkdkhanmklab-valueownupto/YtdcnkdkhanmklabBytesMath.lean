/- Bytes and the numbers whose bytes they are, the lowest first: plain lists and numbers; no program is met here. -/
import Derived.RowKit
import Derived.Laws.BitsAllLaws
namespace Go.Proofs.Ytdcnkdkhanmklab.BytesMath

def leN : List UInt8 → Nat
  | [] => 0
  | c :: t => c.toNat + 256 * leN t
theorem leN_append (l m : List UInt8) : leN (l ++ m) = leN l + 256 ^ l.length * leN m := by
  induction l with
  | nil => simp [leN]
  | cons c t ih =>
    simp only [List.cons_append, leN, ih, List.length_cons, Nat.pow_succ]
    rw [Nat.mul_add, Nat.add_assoc, Nat.mul_comm (256 ^ t.length) 256, Nat.mul_assoc]
theorem leN_lt (l : List UInt8) : leN l < 256 ^ l.length := by
  induction l with
  | nil => simp [leN]
  | cons c t ih =>
    have := c.toNat_lt
    simp only [leN, List.length_cons, Nat.pow_succ]; omega
theorem len_eq (s : ByteArray) : s.data.toList.length = s.size := Array.length_toList
theorem take_snoc (s : ByteArray) (k : Nat) (h : k < s.size) : s.data.toList.take (k + 1) = s.data.toList.take k ++ [s[k]] := by
  rw [List.take_succ_eq_append_getElem (by simpa using h)]; rfl
theorem drop_cons (s : ByteArray) (k : Nat) (h : k < s.size) : s.data.toList.drop k = s[k] :: s.data.toList.drop (k + 1) := by
  rw [List.drop_eq_getElem_cons (by simpa using h)]; rfl
theorem pow256 (k : Nat) : (256 : Nat) ^ k = 2 ^ (8 * k) := by rw [show (256 : Nat) = 2 ^ 8 from rfl, ← Nat.pow_mul]
theorem or_step (x c k : Nat) (hk : k < 8) (hx : x < 256 ^ k) (hc : c < 256) :
    bits .or .u64 (x : Int) (IntKind.u64.wrap (IntKind.u64.wrap (c : Int) * 2 ^ (8 * k))) = ((x + 256 ^ k * c : Nat) : Int) := by
  have hp : 2 ^ (8 * k) ≤ 2 ^ 56 := Nat.pow_le_pow_right (by omega) (by omega)
  have hb : c * 2 ^ (8 * k) ≤ 255 * 2 ^ 56 := Nat.mul_le_mul (by omega) hp
  rw [pow256] at hx
  have e1 : IntKind.u64.wrap (c : Int) = (c : Int) := by rw [IntKind.wrap_u64]; omega
  have e2 : ((c : Int) * 2 ^ (8 * k)) = ((c * 2 ^ (8 * k) : Nat) : Int) := by simp
  have e3 : IntKind.u64.wrap ((c * 2 ^ (8 * k) : Nat) : Int) = ((c * 2 ^ (8 * k) : Nat) : Int) := by rw [IntKind.wrap_u64]; omega
  rw [e1, e2, e3, u64_or_nat _ _ (by omega) (by omega), pow256, Nat.or_comm, Nat.mul_comm c, ← Nat.two_pow_add_eq_or_of_lt hx, Nat.add_comm]
theorem unfix_step (s : ByteArray) (k : Nat) (hk : k < s.size) (h8 : s.size ≤ 8) :
    bits .or .u64 ((leN (s.data.toList.take k) : Nat) : Int) (IntKind.u64.wrap (IntKind.u64.wrap (s[k].toNat : Int) * 2 ^ (8 * k))) = ((leN (s.data.toList.take (k + 1)) : Nat) : Int) := by
  have hl : (s.data.toList.take k).length = k := by
    have : s.data.toList.length = s.size := len_eq s
    simp; omega
  have hx := leN_lt (s.data.toList.take k)
  rw [hl] at hx
  rw [take_snoc s k hk, leN_append, hl, or_step _ _ _ (by omega) hx (s[k].toNat_lt)]
  simp [leN]
theorem runfix_step (s : ByteArray) (k : Nat) (h1 : 1 ≤ k) (hk : k ≤ s.size) (h8 : s.size ≤ 8) (hi : k - 1 < s.size) :
    IntKind.u64.wrap (IntKind.u64.wrap (256 * ((leN (s.data.toList.drop k) : Nat) : Int)) + IntKind.u64.wrap (s[k - 1].toNat : Int)) = ((leN (s.data.toList.drop (k - 1)) : Nat) : Int) := by
  have hl : (s.data.toList.drop (k - 1)).length ≤ 8 := by
    have : s.data.toList.length = s.size := len_eq s
    simp; omega
  have hx := leN_lt (s.data.toList.drop (k - 1))
  have hp : 256 ^ (s.data.toList.drop (k - 1)).length ≤ 256 ^ 8 := Nat.pow_le_pow_right (by omega) hl
  have e := drop_cons s (k - 1) hi
  rw [show k - 1 + 1 = k from by omega] at e
  rw [e] at hx hp ⊢
  simp only [leN] at hx ⊢
  simp only [IntKind.wrap_u64]
  omega
theorem take_all (s : ByteArray) (k : Nat) (h : s.size ≤ k) : s.data.toList.take k = s.data.toList :=
  List.take_of_length_le (by have : s.data.toList.length = s.size := len_eq s
                             omega)
theorem drop_all (s : ByteArray) : s.data.toList.drop s.size = [] :=
  List.drop_eq_nil_of_le (by have : s.data.toList.length = s.size := len_eq s
                             omega)
def unfB (s : ByteArray) : Bool := decide (1 ≤ s.size ∧ s.size ≤ 8)
def unfV (s : ByteArray) : Int := if unfB s = true then (leN s.data.toList : Int) else 0
def unfE (s : ByteArray) : Int := if unfB s = true then 0 else 12
end Go.Proofs.Ytdcnkdkhanmklab.BytesMath
