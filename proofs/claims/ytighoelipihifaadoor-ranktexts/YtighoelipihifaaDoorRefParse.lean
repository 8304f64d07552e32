/- The contract of the document's own Parse: the number whose one text it is, or none. -/
import Derived.Test.YtighoelipihifaaDoorPrint
import Derived.WalkSpells
namespace Go.Proofs.YtighoelipihifaaDoor.RefParse
open Go.RowKit
open Go.Lib (decDigits itoa)
open Go.Proofs.YtighoelipihifaaDoor.TextMath
open Go.Proofs.YtighoelipihifaaDoor.Print
set_option linter.unusedVariables false

/-! ### which texts are none -/
theorem no_plain {l : List UInt8} (hp : l.length ≤ 1 ∨ l.headD 0 ≠ 45) (h : ¬ (Canon l ∧ valOn 0 l ≤ 9223372036854775807)) : ∀ m, textB m l = false := by
  intro m
  cases e : textB m l
  · rfl
  · exfalso
    rcases text_shape e with ⟨t, rfl, hc, _⟩ | ⟨hc, _, hv⟩
    · rcases hp with hp | hp
      · have := List.length_pos_iff.2 hc.1
        simp at hp
        rw [hp] at this; simp at this
      · exact hp rfl
    · exact h ⟨hc, hv⟩
theorem no_below {t : List UInt8} (h : ¬ (Canon t ∧ t.headD 0 ≠ 48 ∧ valOn 0 t ≤ 9223372036854775808)) : ∀ m, textB m (45 :: t) = false := by
  intro m
  cases e : textB m (45 :: t)
  · rfl
  · exfalso
    rcases text_shape e with ⟨t', e', hc, h0, _, hv⟩ | ⟨hc, _, hv⟩
    · injection e' with _ e'
      subst e'
      exact h ⟨hc, h0, hv⟩
    · have := hc.2.1
      rw [List.all_cons, Bool.and_eq_true] at this
      have := this.1
      revert this; decide
theorem none_of {l : List UInt8} {n e : Int} (h : Parsed l n e) (hn : ∀ m, textB m l = false) : n = 0 ∧ e = 10 := parsed_unique h (.inr ⟨hn, rfl, rfl⟩)
theorem some_of {l : List UInt8} {n e v : Int} (h : Parsed l n e) (hv : textB v l = true) : n = v ∧ e = 0 := parsed_unique h (.inl ⟨hv, rfl⟩)
theorem ret_two {a b c d : Int} (h1 : a = b) (h2 : c = d) : Ending.returned (.tuple #[.int .i64 a, .int .i64 c]) = .returned (.tuple #[.int .i64 b, .int .i64 d]) := by rw [h1, h2]

/-! ### a text's bytes -/
theorem len_eq (s : ByteArray) : s.data.toList.length = s.size := Array.length_toList
theorem get_list (s : ByteArray) (k : Nat) (h : k < s.size) : s.data.toList[k]'(by rw [len_eq]; exact h) = s[k] := rfl
theorem head_get : ∀ (l : List UInt8) (h : 0 < l.length), l.headD 0 = l[0]
  | [], h => by simp at h
  | a :: b, h => rfl
theorem head_list (s : ByteArray) (h : 0 < s.size) : s.data.toList.headD 0 = s[0] := by
  rw [← get_list s 0 h]; exact head_get _ _
theorem take_snoc (s : ByteArray) (k : Nat) (h : k < s.size) : s.data.toList.take (k + 1) = s.data.toList.take k ++ [s[k]] := by
  rw [List.take_succ_eq_append_getElem (by rw [len_eq]; exact h)]; rfl
theorem take_all (s : ByteArray) (k : Nat) (h : s.size ≤ k) : s.data.toList.take k = s.data.toList := List.take_of_length_le (by rw [len_eq]; exact h)
/-- what the loop holds behind k digits -/
def Read (t : ByteArray) (k : Nat) (y : Int) : Prop := (t.data.toList.take k).all digB = true ∧ y = (valOn 0 (t.data.toList.take k) : Nat)
theorem read_next {t : ByteArray} {k : Nat} {y : Int} (h : k < t.size) (hr : Read t k y) (h1 : 48 ≤ (t[k].toNat : Int)) (h2 : (t[k].toNat : Int) ≤ 57) : Read t (k + 1) (10 * y + ((t[k].toNat : Int) - 48)) := by
  obtain ⟨ha, hv⟩ := hr
  unfold Read
  rw [take_snoc t k h, List.all_append, valOn_snoc, ha, hv]
  refine ⟨?_, by omega⟩
  have : digB t[k] = true := (digB_iff _).2 (by omega)
  simp [this]
theorem read_bd {t : ByteArray} {k : Nat} {y : Int} (hr : Read t k y) (hk : k ≤ 18) : 0 ≤ y ∧ y ≤ 999999999999999999 := by
  obtain ⟨ha, hv⟩ := hr
  have h1 := val_lt _ ha 0
  have h2 : (t.data.toList.take k).length ≤ 18 := by rw [List.length_take]; omega
  have h3 : 10 ^ (t.data.toList.take k).length ≤ 10 ^ 18 := Nat.pow_le_pow_right (by omega) h2
  have h4 : (10 : Nat) ^ 18 = 1000000000000000000 := by decide
  omega
theorem read_bd19 {t : ByteArray} {k : Nat} {y : Int} (hr : Read t k y) (hk : k ≤ 19) : 0 ≤ y ∧ y ≤ 9999999999999999999 := by
  obtain ⟨ha, hv⟩ := hr
  have h1 := val_lt _ ha 0
  have h2 : (t.data.toList.take k).length ≤ 19 := by rw [List.length_take]; omega
  have h3 : 10 ^ (t.data.toList.take k).length ≤ 10 ^ 19 := Nat.pow_le_pow_right (by omega) h2
  have h4 : (10 : Nat) ^ 19 = 10000000000000000000 := by decide
  omega
theorem read_end {t : ByteArray} {k : Nat} {y : Int} (hr : Read t k y) (h : t.size ≤ k) : t.data.toList.all digB = true ∧ y = (valOn 0 t.data.toList : Nat) := by
  unfold Read at hr; rwa [take_all t k h] at hr
theorem not_digit {t : ByteArray} {k : Nat} (h : k < t.size) (hd : (t[k].toNat : Int) < 48 ∨ 57 < (t[k].toNat : Int)) : ¬ t.data.toList.all digB = true := by
  intro ha
  have := List.all_eq_true.1 ha t[k] (by rw [← get_list t k h]; exact List.getElem_mem _)
  have := (digB_iff _).1 this
  omega
theorem byte_ne {c : UInt8} {n : Nat} (hn : n < 256) (h : (c.toNat : Int) ≠ n) : c ≠ UInt8.ofNat n := by
  intro e
  apply h
  rw [e, UInt8.toNat_ofNat']; omega

/-! ### the walks -/
/-- the text has no sign to be taken off -/
def Plain (s : ByteArray) : Prop := s.data.toList.length ≤ 1 ∨ s.data.toList.headD 0 ≠ 45
set_option maxHeartbeats 1000000 in
theorem plain_long (s : ByteArray) (w : World) (h : 19 < s.size) (hs : s.size ≤ 140737488351232) (hm : ((s[0].toNat : Int) == 45) = false) :
    Calls Tryd.prog 22 #[.string s] w fun e w' => e = .returned (.tuple #[.int .i64 0, .int .i64 10]) ∧ w' = w := by
  have e0 : ((s.size : Int) == 0) = false := by rw [beq_eq_false_iff_ne]; omega
  go_enter Tryd.func22, Tryd.ntmps22
  go_wp2
  go_ret2
  exact ⟨rfl, rfl⟩
set_option maxHeartbeats 1000000 in
theorem plain_zero (s : ByteArray) (w : World) (h : 1 < s.size) (h19 : s.size ≤ 19) (hm : ((s[0].toNat : Int) == 48) = true) :
    Calls Tryd.prog 22 #[.string s] w fun e w' => e = .returned (.tuple #[.int .i64 0, .int .i64 10]) ∧ w' = w := by
  have e0 : ((s.size : Int) == 0) = false := by rw [beq_eq_false_iff_ne]; omega
  have e1 : ((s[0].toNat : Int) == 45) = false := by rw [beq_eq_false_iff_ne]; rw [beq_iff_eq] at hm; omega
  have ne : ¬ s = ByteArray.empty := by intro q; subst q; simp at h
  go_enter Tryd.func22, Tryd.ntmps22
  go_wp2
  go_ret2
  exact ⟨rfl, rfl⟩
set_option maxHeartbeats 1000000 in
theorem plain_nil (w : World) :
    Calls Tryd.prog 22 #[.string ⟨#[]⟩] w fun e w' => e = .returned (.tuple #[.int .i64 0, .int .i64 10]) ∧ w' = w := by
  go_enter Tryd.func22, Tryd.ntmps22
  go_wp2
  go_ret2
  exact ⟨rfl, rfl⟩
set_option maxHeartbeats 2000000 in
theorem plain_one (s : ByteArray) (w : World) (n e : Int) (h : 1 ≤ s.size) (h1 : s.size ≤ 1) (b48 : Bool) (h48 : ((s[0].toNat : Int) == 48) = b48) (HP : Hid (Parsed s.data.toList n e)) :
    Calls Tryd.prog 22 #[.string s] w fun x w' => x = .returned (.tuple #[.int .i64 n, .int .i64 e]) ∧ w' = w := by
  have e0 : ((s.size : Int) == 0) = false := by rw [beq_eq_false_iff_ne]; omega
  have ne : ¬ s = ByteArray.empty := by intro q; subst q; simp at h
  have hp := hid_of (show s.data.toList.length ≤ 1 ∨ s.data.toList.headD 0 ≠ 45 from .inl (by rw [len_eq]; exact h1))
  have HC := hid_of (show s.data.toList ≠ [] ∧ (s.data.toList.headD 0 = 48 → s.data.toList.length = 1) from ⟨List.ne_nil_of_length_pos (by rw [len_eq]; exact h), fun _ => by rw [len_eq]; omega⟩)
  cases b48
  all_goals
    go_enter Tryd.func22, Tryd.ntmps22
    go_wp2
    go_loop [6, 7] (fun x i => ∃ (k : Nat) (y : Int), k ≤ s.size ∧ i = .int .i64 k ∧ x = .int .u64 y ∧ Hid (Read s k y)) (fun _ i => s.size - (intOf i).toNat)
    case atStart => exact ⟨0, 0, Nat.zero_le _, rfl, rfl, hid_of ⟨rfl, rfl⟩⟩
    case round =>
      obtain ⟨k, y, hk, rfl, rfl, HR⟩ := hrel
      by_cases hlt : k < s.size
      · obtain ⟨y0, y1⟩ := read_bd HR.out (by omega)
        by_cases hd : 48 ≤ (s[k].toNat : Int) ∧ (s[k].toNat : Int) ≤ 57
        · obtain ⟨d1, d2⟩ := hd
          have HN := hid_of (read_next hlt HR.out d1 d2)
          go_wp2
          exact ⟨⟨k + 1, _, hlt, by go_num, rfl, HN⟩, by simp [intOf]; omega⟩
        · have HZ := hid_of (none_of HP.out (no_plain hp.out (fun q => not_digit hlt (by omega) q.1.2.1)))
          rcases (show (s[k].toNat : Int) < 48 ∨ 57 < (s[k].toNat : Int) from by omega) with hd' | hd'
          all_goals
            clear hd
            go_wp2
            go_ret2
            exact ⟨ret_two HZ.out.1.symm HZ.out.2.symm, rfl⟩
      · obtain ⟨y0, y1⟩ := read_bd19 HR.out (by omega)
        have HE := hid_of (read_end HR.out (by omega))
        by_cases hb : 9223372036854775807 < y
        · have HZ := hid_of (none_of HP.out (no_plain hp.out (fun q => by have := q.2; have := HE.out.2; omega)))
          go_wp2
          go_ret2
          exact ⟨ret_two HZ.out.1.symm HZ.out.2.symm, rfl⟩
        · have HS := hid_of (some_of HP.out (text_pos ⟨HC.out.1, HE.out.1, HC.out.2⟩ (by have := HE.out.2; omega)))
          have HY := hid_of HE.out.2
          go_wp2
          go_ret2
          exact ⟨ret_two (by rw [HS.out.1, HY.out]) HS.out.2.symm, rfl⟩
set_option maxHeartbeats 2000000 in
theorem plain_loop (s : ByteArray) (w : World) (n e : Int) (h : 1 < s.size) (h19 : s.size ≤ 19) (h48 : ((s[0].toNat : Int) == 48) = false) (h45 : ((s[0].toNat : Int) == 45) = false) (HP : Hid (Parsed s.data.toList n e)) :
    Calls Tryd.prog 22 #[.string s] w fun x w' => x = .returned (.tuple #[.int .i64 n, .int .i64 e]) ∧ w' = w := by
  have e0 : ((s.size : Int) == 0) = false := by rw [beq_eq_false_iff_ne]; omega
  have ne : ¬ s = ByteArray.empty := by intro q; subst q; simp at h
  have hp := hid_of (show s.data.toList.length ≤ 1 ∨ s.data.toList.headD 0 ≠ 45 from .inr (by rw [head_list s (by omega)]; exact byte_ne (n := 45) (by omega) (by simpa using h45)))
  have HC := hid_of (show s.data.toList ≠ [] ∧ (s.data.toList.headD 0 = 48 → s.data.toList.length = 1) from ⟨List.ne_nil_of_length_pos (by rw [len_eq]; omega), fun q => absurd q (by rw [head_list s (by omega)]; exact byte_ne (n := 48) (by omega) (by simpa using h48))⟩)
  go_enter Tryd.func22, Tryd.ntmps22
  go_wp2
  go_loop [6, 7] (fun x i => ∃ (k : Nat) (y : Int), k ≤ s.size ∧ i = .int .i64 k ∧ x = .int .u64 y ∧ Hid (Read s k y)) (fun _ i => s.size - (intOf i).toNat)
  case atStart => exact ⟨0, 0, Nat.zero_le _, rfl, rfl, hid_of ⟨rfl, rfl⟩⟩
  case round =>
    obtain ⟨k, y, hk, rfl, rfl, HR⟩ := hrel
    by_cases hlt : k < s.size
    · obtain ⟨y0, y1⟩ := read_bd HR.out (by omega)
      by_cases hd : 48 ≤ (s[k].toNat : Int) ∧ (s[k].toNat : Int) ≤ 57
      · obtain ⟨d1, d2⟩ := hd
        have HN := hid_of (read_next hlt HR.out d1 d2)
        go_wp2
        exact ⟨⟨k + 1, _, hlt, by go_num, rfl, HN⟩, by simp [intOf]; omega⟩
      · have HZ := hid_of (none_of HP.out (no_plain hp.out (fun q => not_digit hlt (by omega) q.1.2.1)))
        rcases (show (s[k].toNat : Int) < 48 ∨ 57 < (s[k].toNat : Int) from by omega) with hd' | hd'
        all_goals
          clear hd
          go_wp2
          go_ret2
          exact ⟨ret_two HZ.out.1.symm HZ.out.2.symm, rfl⟩
    · obtain ⟨y0, y1⟩ := read_bd19 HR.out (by omega)
      have HE := hid_of (read_end HR.out (by omega))
      by_cases hb : 9223372036854775807 < y
      · have HZ := hid_of (none_of HP.out (no_plain hp.out (fun q => by have := q.2; have := HE.out.2; omega)))
        go_wp2
        go_ret2
        exact ⟨ret_two HZ.out.1.symm HZ.out.2.symm, rfl⟩
      · have HS := hid_of (some_of HP.out (text_pos ⟨HC.out.1, HE.out.1, HC.out.2⟩ (by have := HE.out.2; omega)))
        have HY := hid_of HE.out.2
        go_wp2
        go_ret2
        exact ⟨ret_two (by rw [HS.out.1, HY.out]) HS.out.2.symm, rfl⟩
end Go.Proofs.YtighoelipihifaaDoor.RefParse
