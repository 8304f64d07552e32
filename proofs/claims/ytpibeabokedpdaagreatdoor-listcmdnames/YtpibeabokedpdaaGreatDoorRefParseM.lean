/- The contract of the document's own Parse: the number whose one text it is, or none. The contract of the document's own Parse behind a sign, and the contract whole. The document's Print. -/
import Derived.Test.YtpibeabokedpdaaGreatDoorTextMathM
import Derived.WalkSpells
section
namespace Go.Proofs.YtpibeabokedpdaaGreatDoor.RefParse
open Go.RowKit
open Go.Lib (decDigits itoa)
open Go.Proofs.YtpibeabokedpdaaGreatDoor.TextMath
open Go.Proofs.YtpibeabokedpdaaGreatDoor.Print
set_option linter.unusedVariables false
set_option linter.unusedSimpArgs false

/-! ### which texts are none -/
theorem no_plain {l : List UInt8} (hp : l.length ≤ 1 ∨ l.headD 0 ≠ 45) (h : ¬ (Canon l ∧ valOn 0 l ≤ 9223372036854775807)) : ∀ m, textB m l = false := by
  intro m
  cases e : textB m l
  · rfl
  · exfalso
    rcases text_shape e with ⟨t, rfl, hc, _⟩ | ⟨hc, _, hv⟩
    · rcases hp with hp | hp
      · have := List.length_pos_iff.2 hc.1
        simp at hp
        rw [hp] at this; simp at this
      · exact hp rfl
    · exact h ⟨hc, hv⟩
theorem no_below {t : List UInt8} (h : ¬ (Canon t ∧ t.headD 0 ≠ 48 ∧ valOn 0 t ≤ 9223372036854775808)) : ∀ m, textB m (45 :: t) = false := by
  intro m
  cases e : textB m (45 :: t)
  · rfl
  · exfalso
    rcases text_shape e with ⟨t', e', hc, h0, _, hv⟩ | ⟨hc, _, hv⟩
    · injection e' with _ e'
      subst e'
      exact h ⟨hc, h0, hv⟩
    · have := hc.2.1
      rw [List.all_cons, Bool.and_eq_true] at this
      have := this.1
      revert this; decide
theorem none_of {l : List UInt8} {n e : Int} (h : Parsed l n e) (hn : ∀ m, textB m l = false) : n = 0 ∧ e = 10 := parsed_unique h (.inr ⟨hn, rfl, rfl⟩)
theorem some_of {l : List UInt8} {n e v : Int} (h : Parsed l n e) (hv : textB v l = true) : n = v ∧ e = 0 := parsed_unique h (.inl ⟨hv, rfl⟩)
theorem ret_two {a b c d : Int} (h1 : a = b) (h2 : c = d) : Ending.returned (.tuple #[.int .i64 a, .int .i64 c]) = .returned (.tuple #[.int .i64 b, .int .i64 d]) := by rw [h1, h2]

/-! ### a text's bytes -/
theorem len_eq (s : ByteArray) : s.data.toList.length = s.size := Array.length_toList
theorem get_list (s : ByteArray) (k : Nat) (h : k < s.size) : s.data.toList[k]'(by rw [len_eq]; exact h) = s[k] := rfl
theorem head_get : ∀ (l : List UInt8) (h : 0 < l.length), l.headD 0 = l[0]
  | [], h => by simp at h
  | a :: b, h => rfl
theorem head_list (s : ByteArray) (h : 0 < s.size) : s.data.toList.headD 0 = s[0] := by
  rw [← get_list s 0 h]; exact head_get _ _
theorem take_snoc (s : ByteArray) (k : Nat) (h : k < s.size) : s.data.toList.take (k + 1) = s.data.toList.take k ++ [s[k]] := by
  rw [List.take_succ_eq_append_getElem (by rw [len_eq]; exact h)]; rfl
theorem take_all (s : ByteArray) (k : Nat) (h : s.size ≤ k) : s.data.toList.take k = s.data.toList := List.take_of_length_le (by rw [len_eq]; exact h)
/-- what the loop holds behind k digits -/
def Read (t : ByteArray) (k : Nat) (y : Int) : Prop := (t.data.toList.take k).all digB = true ∧ y = (valOn 0 (t.data.toList.take k) : Nat)
theorem read_next {t : ByteArray} {k : Nat} {y : Int} (h : k < t.size) (hr : Read t k y) (h1 : 48 ≤ (t[k].toNat : Int)) (h2 : (t[k].toNat : Int) ≤ 57) : Read t (k + 1) (10 * y + ((t[k].toNat : Int) - 48)) := by
  obtain ⟨ha, hv⟩ := hr
  unfold Read
  rw [take_snoc t k h, List.all_append, valOn_snoc, ha, hv]
  refine ⟨?_, by omega⟩
  have : digB t[k] = true := (digB_iff _).2 (by omega)
  simp [this]
theorem read_bd {t : ByteArray} {k : Nat} {y : Int} (hr : Read t k y) (hk : k ≤ 18) : 0 ≤ y ∧ y ≤ 999999999999999999 := by
  obtain ⟨ha, hv⟩ := hr
  have h1 := val_lt _ ha 0
  have h2 : (t.data.toList.take k).length ≤ 18 := by rw [List.length_take]; omega
  have h3 : 10 ^ (t.data.toList.take k).length ≤ 10 ^ 18 := Nat.pow_le_pow_right (by omega) h2
  have h4 : (10 : Nat) ^ 18 = 1000000000000000000 := by decide
  omega
theorem read_bd19 {t : ByteArray} {k : Nat} {y : Int} (hr : Read t k y) (hk : k ≤ 19) : 0 ≤ y ∧ y ≤ 9999999999999999999 := by
  obtain ⟨ha, hv⟩ := hr
  have h1 := val_lt _ ha 0
  have h2 : (t.data.toList.take k).length ≤ 19 := by rw [List.length_take]; omega
  have h3 : 10 ^ (t.data.toList.take k).length ≤ 10 ^ 19 := Nat.pow_le_pow_right (by omega) h2
  have h4 : (10 : Nat) ^ 19 = 10000000000000000000 := by decide
  omega
theorem read_end {t : ByteArray} {k : Nat} {y : Int} (hr : Read t k y) (h : t.size ≤ k) : t.data.toList.all digB = true ∧ y = (valOn 0 t.data.toList : Nat) := by
  unfold Read at hr; rwa [take_all t k h] at hr
theorem not_digit {t : ByteArray} {k : Nat} (h : k < t.size) (hd : (t[k].toNat : Int) < 48 ∨ 57 < (t[k].toNat : Int)) : ¬ t.data.toList.all digB = true := by
  intro ha
  have := List.all_eq_true.1 ha t[k] (by rw [← get_list t k h]; exact List.getElem_mem _)
  have := (digB_iff _).1 this
  omega
theorem byte_ne {c : UInt8} {n : Nat} (hn : n < 256) (h : (c.toNat : Int) ≠ n) : c ≠ UInt8.ofNat n := by
  intro e
  apply h
  rw [e, UInt8.toNat_ofNat']; omega

/-! ### the walks -/
/-- the text has no sign to be taken off -/
def Plain (s : ByteArray) : Prop := s.data.toList.length ≤ 1 ∨ s.data.toList.headD 0 ≠ 45
end Go.Proofs.YtpibeabokedpdaaGreatDoor.RefParse
end
section
namespace Go.Proofs.YtpibeabokedpdaaGreatDoor.RefParse
open Go.RowKit
open Go.Lib (decDigits itoa)
open Go.Proofs.YtpibeabokedpdaaGreatDoor.TextMath
open Go.Proofs.YtpibeabokedpdaaGreatDoor.Print
set_option linter.unusedVariables false
set_option linter.unusedSimpArgs false

theorem wrapn {y : Int} (h0 : 0 ≤ y) (h1 : y ≤ 9223372036854775808) : wrap64 (IntKind.u64.wrap (-y)) = -y := by
  simp [IntKind.wrap, IntKind.signed, IntKind.bits, wrap64]; omega
theorem no_below' {l t : List UInt8} (hl : l = 45 :: t) (h : ¬ (Canon t ∧ t.headD 0 ≠ 48 ∧ valOn 0 t ≤ 9223372036854775808)) : ∀ m, textB m l = false := by rw [hl]; exact no_below h
theorem text_neg' {l t : List UInt8} (hl : l = 45 :: t) (hc : Canon t) (h0 : t.headD 0 ≠ 48) (h : valOn 0 t ≤ 9223372036854775808) : textB (-((valOn 0 t : Nat) : Int)) l = true := by rw [hl]; exact text_neg hc h0 h

theorem tail_list (s : ByteArray) (h : 0 < s.size) (h45 : (s[0].toNat : Int) = 45) : s.data.toList = 45 :: (s.extract 1 s.size).data.toList := by
  have h' : 0 < s.data.toList.length := by rw [len_eq]; exact h
  rw [Lib.extract_data, List.take_of_length_le (by rw [List.length_drop, len_eq]; omega)]
  conv => lhs; rw [← List.drop_zero (l := s.data.toList), List.drop_eq_getElem_cons h']
  congr 1
  rw [get_list s 0 h]
  exact UInt8.toNat_inj.1 (show _ = 45 by omega)
theorem tail_size (s : ByteArray) (h : 0 < s.size) (h45 : (s[0].toNat : Int) = 45) : (s.extract 1 s.size).size + 1 = s.size := by
  have := congrArg List.length (tail_list s h h45)
  rw [List.length_cons, len_eq, len_eq] at this
  exact this.symm
theorem slice_run (s : ByteArray) (h : 1 < s.size) : ∀ w, (Instr.slice 9 (.string s) (some (.int .i64 1)) none none).run Tryz.prog w = .ok (.string (s.extract 1 s.size)) w := by
  intro w
  rw [run_slice_string_from_if (P := Tryz.prog) (w := w) 9 s .i64 1 Tryz.underlying9, if_pos ⟨by omega, by omega⟩]
  rfl
end Go.Proofs.YtpibeabokedpdaaGreatDoor.RefParse
end
section
namespace Go.Proofs.YtpibeabokedpdaaGreatDoor.RPrint
open Go.RowKit
open Go.Lib (decDigits itoa)
open Go.Proofs.YtpibeabokedpdaaGreatDoor.TextMath
open Go.Proofs.YtpibeabokedpdaaGreatDoor.Print
set_option linter.unusedVariables false
set_option linter.unusedSimpArgs false
/-! ### the document's own -/
theorem conv_one (W : World) (d : Int) (h0 : 0 ≤ d) (h1 : d ≤ 255) :
    (convert 84 9 (.slice (some ⟨W.heap.size, 0, none⟩) 1 1)).run Tryz.prog (W.alloc (.cells #[.int .u8 d] 5)) = .ok (.string ⟨#[UInt8.ofNat d.toNat]⟩) (W.alloc (.cells #[.int .u8 d] 5)) := by
  refine Lib.run_convert_whole (P := Tryz.prog) (W.alloc (.cells #[.int .u8 d] 5)) 84 5 9 Tryz.underlying84 Tryz.underlying5 Tryz.underlying9 W.heap.size 0 ⟨#[UInt8.ofNat d.toNat]⟩ ?_ 1
  intro i hi
  have hi0 : i = 0 := by
    have : (⟨#[UInt8.ofNat d.toNat]⟩ : ByteArray).size = 1 := rfl
    omega
  subst hi0
  rw [Nat.zero_add, World.cell?_alloc_new]
  have e : ((⟨#[UInt8.ofNat d.toNat]⟩ : ByteArray)[0]) = UInt8.ofNat d.toNat := rfl
  rw [e, UInt8.toNat_ofNat']
  simp
  omega
def rest (v : Nat) : List UInt8 := if v = 0 then [] else decDigits v
theorem rest_step {v : Nat} (h : 0 < v) (l : List UInt8) : rest (v / 10) ++ (UInt8.ofNat (48 + v % 10) :: l) = rest v ++ l := by
  unfold rest
  rw [if_neg (show ¬ v = 0 from by omega)]
  by_cases h1 : v < 10
  · rw [if_pos (by omega), dec_small h1, show v % 10 = v from by omega]; rfl
  · rw [if_neg (by omega), dec_big h1]; simp
theorem app_one (c : UInt8) (l : List UInt8) : ((⟨#[c]⟩ : ByteArray) ++ (⟨l.toArray⟩ : ByteArray)) = ⟨(c :: l).toArray⟩ := by
  apply ByteArray.ext
  simp
theorem wrapu {a : Int} (h1 : -9223372036854775808 ≤ a) (h2 : a < 0) : IntKind.u64.wrap (-IntKind.u64.wrap a) = -a := by
  simp [IntKind.wrap, IntKind.signed, IntKind.bits]; omega

theorem val_u {a b : Int} (h : a = b) : Value.int .u64 a = .int .u64 b := by rw [h]
theorem step_any {y : Int} {l m : List UInt8} (h : 0 < y) (HL : Hid (rest y.toNat ++ l = m)) : Hid (rest (y / 10).toNat ++ (UInt8.ofNat (48 + y % 10).toNat :: l) = m) := by
  show _ = _
  rw [← HL.out, ← rest_step (show 0 < y.toNat from by omega) l, show (y / 10).toNat = y.toNat / 10 from by omega, show (48 + y % 10).toNat = 48 + y.toNat % 10 from by omega]
theorem end_list {y : Int} {l m : List UInt8} (h : y ≤ 0) (HL : Hid (rest y.toNat ++ l = m)) : l = m := by
  rw [← HL.out, show y.toNat = 0 from by omega]; rfl
theorem dec_len {u : Nat} (h : u ≤ 9223372036854775808) : (decDigits u).length ≤ 20 := by
  have := canon_len (canon_dec u) (by rw [val_dec]; exact h)
  omega
theorem len_of {y : Int} {l m : List UInt8} (HL : Hid (rest y.toNat ++ l = m)) (hm : m.length ≤ 20) : l.length ≤ 20 := by
  rw [← HL.out, List.length_append] at hm
  omega
theorem val_s {a b : ByteArray} (h : a = b) : Value.string a = .string b := by rw [h]

end Go.Proofs.YtpibeabokedpdaaGreatDoor.RPrint
end
