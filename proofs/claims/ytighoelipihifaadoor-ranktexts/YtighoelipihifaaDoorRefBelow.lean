/- The contract of the document's own Parse behind a sign, and the contract whole. -/
import Derived.Test.YtighoelipihifaaDoorRefParse
namespace Go.Proofs.YtighoelipihifaaDoor.RefParse
open Go.RowKit
open Go.Lib (decDigits itoa)
open Go.Proofs.YtighoelipihifaaDoor.TextMath
open Go.Proofs.YtighoelipihifaaDoor.Print
set_option linter.unusedVariables false

theorem wrapn {y : Int} (h0 : 0 ≤ y) (h1 : y ≤ 9223372036854775808) : wrap64 (IntKind.u64.wrap (-y)) = -y := by
  simp [IntKind.wrap, IntKind.signed, IntKind.bits, wrap64]; omega
theorem no_below' {l t : List UInt8} (hl : l = 45 :: t) (h : ¬ (Canon t ∧ t.headD 0 ≠ 48 ∧ valOn 0 t ≤ 9223372036854775808)) : ∀ m, textB m l = false := by rw [hl]; exact no_below h
theorem text_neg' {l t : List UInt8} (hl : l = 45 :: t) (hc : Canon t) (h0 : t.headD 0 ≠ 48) (h : valOn 0 t ≤ 9223372036854775808) : textB (-((valOn 0 t : Nat) : Int)) l = true := by rw [hl]; exact text_neg hc h0 h

set_option maxHeartbeats 1000000 in
theorem below_long (s t : ByteArray) (w : World) (h1 : 1 < s.size) (h45 : ((s[0].toNat : Int) == 45) = true) (hsl : ∀ w, (Instr.slice 9 (.string s) (some (.int .i64 1)) none none).run Tryd.prog w = .ok (.string t) w)
    (h : 19 < t.size) (ht : t.size ≤ 140737488351232) :
    Calls Tryd.prog 22 #[.string s] w fun e w' => e = .returned (.tuple #[.int .i64 0, .int .i64 10]) ∧ w' = w := by
  have e0 : ((t.size : Int) == 0) = false := by rw [beq_eq_false_iff_ne]; omega
  have ne : ¬ t = ByteArray.empty := by intro q; subst q; simp at h
  go_enter Tryd.func22, Tryd.ntmps22
  go_wp2
  go_ret2
  exact ⟨rfl, rfl⟩
set_option maxHeartbeats 1000000 in
theorem below_zero (s t : ByteArray) (w : World) (h1 : 1 < s.size) (h45 : ((s[0].toNat : Int) == 45) = true) (hsl : ∀ w, (Instr.slice 9 (.string s) (some (.int .i64 1)) none none).run Tryd.prog w = .ok (.string t) w)
    (h : 1 ≤ t.size) (ht : t.size ≤ 19) (h48 : ((t[0].toNat : Int) == 48) = true) (b : Bool) (hb : decide (1 < (t.size : Int)) = b) :
    Calls Tryd.prog 22 #[.string s] w fun e w' => e = .returned (.tuple #[.int .i64 0, .int .i64 10]) ∧ w' = w := by
  have e0 : ((t.size : Int) == 0) = false := by rw [beq_eq_false_iff_ne]; omega
  have ne : ¬ t = ByteArray.empty := by intro q; subst q; simp at h
  cases b
  all_goals
    go_enter Tryd.func22, Tryd.ntmps22
    go_wp2
    go_ret2
    exact ⟨rfl, rfl⟩
set_option maxHeartbeats 2000000 in
theorem below_loop (s t : ByteArray) (w : World) (n e : Int) (h1 : 1 < s.size) (h45 : ((s[0].toNat : Int) == 45) = true) (hsl : ∀ w, (Instr.slice 9 (.string s) (some (.int .i64 1)) none none).run Tryd.prog w = .ok (.string t) w)
    (h : 1 ≤ t.size) (h19 : t.size ≤ 19) (h48 : ((t[0].toNat : Int) == 48) = false) (HL : Hid (s.data.toList = 45 :: t.data.toList)) (HP : Hid (Parsed s.data.toList n e)) :
    Calls Tryd.prog 22 #[.string s] w fun x w' => x = .returned (.tuple #[.int .i64 n, .int .i64 e]) ∧ w' = w := by
  have e0 : ((t.size : Int) == 0) = false := by rw [beq_eq_false_iff_ne]; omega
  have ne : ¬ t = ByteArray.empty := by intro q; subst q; simp at h
  have HC := hid_of (show t.data.toList ≠ [] ∧ t.data.toList.headD 0 ≠ 48 from ⟨List.ne_nil_of_length_pos (by rw [len_eq]; omega), by rw [head_list t (by omega)]; exact byte_ne (n := 48) (by omega) (by simpa using h48)⟩)
  go_enter Tryd.func22, Tryd.ntmps22
  go_wp2
  go_loop [6, 7] (fun x i => ∃ (k : Nat) (y : Int), k ≤ t.size ∧ i = .int .i64 k ∧ x = .int .u64 y ∧ Hid (Read t k y)) (fun _ i => t.size - (intOf i).toNat)
  case atStart => exact ⟨0, 0, Nat.zero_le _, rfl, rfl, hid_of ⟨rfl, rfl⟩⟩
  case round =>
    obtain ⟨k, y, hk, rfl, rfl, HR⟩ := hrel
    by_cases hlt : k < t.size
    · obtain ⟨y0, y1⟩ := read_bd HR.out (by omega)
      by_cases hd : 48 ≤ (t[k].toNat : Int) ∧ (t[k].toNat : Int) ≤ 57
      · obtain ⟨d1, d2⟩ := hd
        have HN := hid_of (read_next hlt HR.out d1 d2)
        go_wp2
        exact ⟨⟨k + 1, _, hlt, by go_num, rfl, HN⟩, by simp [intOf]; omega⟩
      · have HZ := hid_of (none_of HP.out (no_below' HL.out (fun q => not_digit hlt (by omega) q.1.2.1)))
        rcases (show (t[k].toNat : Int) < 48 ∨ 57 < (t[k].toNat : Int) from by omega) with hd' | hd'
        all_goals
          clear hd
          go_wp2
          go_ret2
          exact ⟨ret_two HZ.out.1.symm HZ.out.2.symm, rfl⟩
    · obtain ⟨y0, y1⟩ := read_bd19 HR.out (by omega)
      have HE := hid_of (read_end HR.out (by omega))
      by_cases hb : 9223372036854775808 < y
      · have HZ := hid_of (none_of HP.out (no_below' HL.out (fun q => by have := q.2.2; have := HE.out.2; omega)))
        go_wp2
        go_ret2
        exact ⟨ret_two HZ.out.1.symm HZ.out.2.symm, rfl⟩
      · have HS := hid_of (some_of HP.out (text_neg' HL.out ⟨HC.out.1, HE.out.1, fun q => absurd q HC.out.2⟩ HC.out.2 (by have := HE.out.2; omega)))
        have HY := hid_of HE.out.2
        go_wp2
        go_ret2
        exact ⟨ret_two (by rw [wrapn y0 (by omega), HS.out.1, HY.out]) HS.out.2.symm, rfl⟩

/-! ### the contract whole -/
theorem tail_list (s : ByteArray) (h : 0 < s.size) (h45 : (s[0].toNat : Int) = 45) : s.data.toList = 45 :: (s.extract 1 s.size).data.toList := by
  have h' : 0 < s.data.toList.length := by rw [len_eq]; exact h
  rw [Lib.extract_data, List.take_of_length_le (by rw [List.length_drop, len_eq]; omega)]
  conv => lhs; rw [← List.drop_zero (l := s.data.toList), List.drop_eq_getElem_cons h']
  congr 1
  rw [get_list s 0 h]
  exact UInt8.toNat_inj.1 (show _ = 45 by omega)
theorem tail_size (s : ByteArray) (h : 0 < s.size) (h45 : (s[0].toNat : Int) = 45) : (s.extract 1 s.size).size + 1 = s.size := by
  have := congrArg List.length (tail_list s h h45)
  rw [List.length_cons, len_eq, len_eq] at this
  exact this.symm
theorem slice_run (s : ByteArray) (h : 1 < s.size) : ∀ w, (Instr.slice 9 (.string s) (some (.int .i64 1)) none none).run Tryd.prog w = .ok (.string (s.extract 1 s.size)) w := by
  intro w
  rw [run_slice_string_from_if (P := Tryd.prog) (w := w) 9 s .i64 1 Tryd.underlying9, if_pos ⟨by omega, by omega⟩]
  rfl
theorem rparse_any (s : ByteArray) (w : World) (n e : Int) (hs : s.size ≤ 140737488351232) (HP : Parsed s.data.toList n e) :
    Calls Tryd.prog 22 #[.string s] w fun x w' => x = .returned (.tuple #[.int .i64 n, .int .i64 e]) ∧ w' = w := by
  by_cases h0 : s.size = 0
  · have hl : s.data.toList = [] := List.eq_nil_of_length_eq_zero (by rw [len_eq]; exact h0)
    have hz : n = 0 ∧ e = 10 := none_of HP (no_plain (.inl (by rw [hl]; simp)) (fun q => q.1.1 hl))
    obtain rfl : s = ⟨#[]⟩ := by
      apply ByteArray.ext
      exact Array.toList_inj.1 hl
    rw [hz.1, hz.2]
    exact plain_nil w
  · by_cases h1 : s.size ≤ 1
    · exact plain_one s w n e (by omega) h1 _ rfl HP
    · have hp : 0 < s.size := by omega
      by_cases h45 : (s[0].toNat : Int) = 45
      · have hl := tail_list s hp h45
        have hz := tail_size s hp h45
        have hsl := slice_run s (by omega)
        have b45 : ((s[0].toNat : Int) == 45) = true := by rw [beq_iff_eq]; exact h45
        generalize s.extract 1 s.size = t at *
        by_cases h19 : t.size ≤ 19
        · have ht0 : 0 < t.size := by omega
          cases h48 : ((t[0].toNat : Int) == 48)
          · exact below_loop s t w n e (by omega) b45 hsl (by omega) h19 h48 hl HP
          · have : t.data.toList.headD 0 = 48 := by
              rw [head_list t ht0]
              have q : (t[0].toNat : Int) = 48 := by simpa using h48
              exact UInt8.toNat_inj.1 (show _ = 48 by omega)
            have hn : n = 0 ∧ e = 10 := none_of HP (no_below' hl (fun q => q.2.1 this))
            rw [hn.1, hn.2]
            exact below_zero s t w (by omega) b45 hsl (by omega) h19 h48 _ rfl
        · have hn : n = 0 ∧ e = 10 := none_of HP (no_below' hl (fun q => h19 (by have := canon_len q.1 q.2.2; rwa [len_eq] at this)))
          rw [hn.1, hn.2]
          exact below_long s t w (by omega) b45 hsl (by omega) (by omega)
      · have b45 : ((s[0].toNat : Int) == 45) = false := by rw [beq_eq_false_iff_ne]; exact h45
        have hpl : s.data.toList.length ≤ 1 ∨ s.data.toList.headD 0 ≠ 45 := .inr (by rw [head_list s hp]; exact byte_ne (n := 45) (by omega) h45)
        by_cases h19 : s.size ≤ 19
        · cases h48 : ((s[0].toNat : Int) == 48)
          · exact plain_loop s w n e (by omega) h19 h48 b45 HP
          · have hh : s.data.toList.headD 0 = 48 := by
              rw [head_list s hp]
              have q : (s[0].toNat : Int) = 48 := by simpa using h48
              exact UInt8.toNat_inj.1 (show _ = 48 by omega)
            have hn : n = 0 ∧ e = 10 := none_of HP (no_plain hpl (fun q => by have := q.1.2.2 hh; rw [len_eq] at this; omega))
            rw [hn.1, hn.2]
            exact plain_zero s w (by omega) h19 h48
        · have hn : n = 0 ∧ e = 10 := none_of HP (no_plain hpl (fun q => h19 (by have := canon_len q.1 (by omega); rwa [len_eq] at this)))
          rw [hn.1, hn.2]
          exact plain_long s w (by omega) hs b45
end Go.Proofs.YtighoelipihifaaDoor.RefParse
