/- The contract of the document's own Parse: the number whose one text it is, or none. -/
import Derived.Test.YtdkdjgpeeglbhabDoorPrint
import Derived.WalkSpells
namespace Go.Proofs.YtdkdjgpeeglbhabDoor.RefParse
open Go.RowKit
open Go.Lib (decDigits itoa)
open Go.Proofs.YtdkdjgpeeglbhabDoor.TextMath
open Go.Proofs.YtdkdjgpeeglbhabDoor.Print
set_option linter.unusedVariables false
set_option linter.unusedSimpArgs false

/-! ### which texts are none -/
theorem no_plain {l : List UInt8} (hp : l.length ≤ 1 ∨ l.headD 0 ≠ 45) (h : ¬ (Canon l ∧ valOn 0 l ≤ 9223372036854775807)) : ∀ m, textB m l = false := by
  intro m
  cases e : textB m l
  · rfl
  · exfalso
    rcases text_shape e with ⟨t, rfl, hc, _⟩ | ⟨hc, _, hv⟩
    · rcases hp with hp | hp
      · have := List.length_pos_iff.2 hc.1
        simp at hp
        rw [hp] at this; simp at this
      · exact hp rfl
    · exact h ⟨hc, hv⟩
theorem no_below {t : List UInt8} (h : ¬ (Canon t ∧ t.headD 0 ≠ 48 ∧ valOn 0 t ≤ 9223372036854775808)) : ∀ m, textB m (45 :: t) = false := by
  intro m
  cases e : textB m (45 :: t)
  · rfl
  · exfalso
    rcases text_shape e with ⟨t', e', hc, h0, _, hv⟩ | ⟨hc, _, hv⟩
    · injection e' with _ e'
      subst e'
      exact h ⟨hc, h0, hv⟩
    · have := hc.2.1
      rw [List.all_cons, Bool.and_eq_true] at this
      have := this.1
      revert this; decide
theorem none_of {l : List UInt8} {n e : Int} (h : Parsed l n e) (hn : ∀ m, textB m l = false) : n = 0 ∧ e = 10 := parsed_unique h (.inr ⟨hn, rfl, rfl⟩)
theorem some_of {l : List UInt8} {n e v : Int} (h : Parsed l n e) (hv : textB v l = true) : n = v ∧ e = 0 := parsed_unique h (.inl ⟨hv, rfl⟩)
theorem ret_two {a b c d : Int} (h1 : a = b) (h2 : c = d) : Ending.returned (.tuple #[.int .i64 a, .int .i64 c]) = .returned (.tuple #[.int .i64 b, .int .i64 d]) := by rw [h1, h2]

/-! ### a text's bytes -/
theorem len_eq (s : ByteArray) : s.data.toList.length = s.size := Array.length_toList
theorem get_list (s : ByteArray) (k : Nat) (h : k < s.size) : s.data.toList[k]'(by rw [len_eq]; exact h) = s[k] := rfl
theorem head_get : ∀ (l : List UInt8) (h : 0 < l.length), l.headD 0 = l[0]
  | [], h => by simp at h
  | a :: b, h => rfl
theorem head_list (s : ByteArray) (h : 0 < s.size) : s.data.toList.headD 0 = s[0] := by
  rw [← get_list s 0 h]; exact head_get _ _
theorem take_snoc (s : ByteArray) (k : Nat) (h : k < s.size) : s.data.toList.take (k + 1) = s.data.toList.take k ++ [s[k]] := by
  rw [List.take_succ_eq_append_getElem (by rw [len_eq]; exact h)]; rfl
theorem take_all (s : ByteArray) (k : Nat) (h : s.size ≤ k) : s.data.toList.take k = s.data.toList := List.take_of_length_le (by rw [len_eq]; exact h)
/-- what the loop holds behind k digits -/
def Read (t : ByteArray) (k : Nat) (y : Int) : Prop := (t.data.toList.take k).all digB = true ∧ y = (valOn 0 (t.data.toList.take k) : Nat)
theorem read_next {t : ByteArray} {k : Nat} {y : Int} (h : k < t.size) (hr : Read t k y) (h1 : 48 ≤ (t[k].toNat : Int)) (h2 : (t[k].toNat : Int) ≤ 57) : Read t (k + 1) (10 * y + ((t[k].toNat : Int) - 48)) := by
  obtain ⟨ha, hv⟩ := hr
  unfold Read
  rw [take_snoc t k h, List.all_append, valOn_snoc, ha, hv]
  refine ⟨?_, by omega⟩
  have : digB t[k] = true := (digB_iff _).2 (by omega)
  simp [this]
theorem read_bd {t : ByteArray} {k : Nat} {y : Int} (hr : Read t k y) (hk : k ≤ 18) : 0 ≤ y ∧ y ≤ 999999999999999999 := by
  obtain ⟨ha, hv⟩ := hr
  have h1 := val_lt _ ha 0
  have h2 : (t.data.toList.take k).length ≤ 18 := by rw [List.length_take]; omega
  have h3 : 10 ^ (t.data.toList.take k).length ≤ 10 ^ 18 := Nat.pow_le_pow_right (by omega) h2
  have h4 : (10 : Nat) ^ 18 = 1000000000000000000 := by decide
  omega
theorem read_bd19 {t : ByteArray} {k : Nat} {y : Int} (hr : Read t k y) (hk : k ≤ 19) : 0 ≤ y ∧ y ≤ 9999999999999999999 := by
  obtain ⟨ha, hv⟩ := hr
  have h1 := val_lt _ ha 0
  have h2 : (t.data.toList.take k).length ≤ 19 := by rw [List.length_take]; omega
  have h3 : 10 ^ (t.data.toList.take k).length ≤ 10 ^ 19 := Nat.pow_le_pow_right (by omega) h2
  have h4 : (10 : Nat) ^ 19 = 10000000000000000000 := by decide
  omega
theorem read_end {t : ByteArray} {k : Nat} {y : Int} (hr : Read t k y) (h : t.size ≤ k) : t.data.toList.all digB = true ∧ y = (valOn 0 t.data.toList : Nat) := by
  unfold Read at hr; rwa [take_all t k h] at hr
theorem not_digit {t : ByteArray} {k : Nat} (h : k < t.size) (hd : (t[k].toNat : Int) < 48 ∨ 57 < (t[k].toNat : Int)) : ¬ t.data.toList.all digB = true := by
  intro ha
  have := List.all_eq_true.1 ha t[k] (by rw [← get_list t k h]; exact List.getElem_mem _)
  have := (digB_iff _).1 this
  omega
theorem byte_ne {c : UInt8} {n : Nat} (hn : n < 256) (h : (c.toNat : Int) ≠ n) : c ≠ UInt8.ofNat n := by
  intro e
  apply h
  rw [e, UInt8.toNat_ofNat']; omega

/-! ### the walks -/
/-- the text has no sign to be taken off -/
def Plain (s : ByteArray) : Prop := s.data.toList.length ≤ 1 ∨ s.data.toList.headD 0 ≠ 45
end Go.Proofs.YtdkdjgpeeglbhabDoor.RefParse
