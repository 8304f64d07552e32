/- The contracts of glob's isOpen, Quote and Plain. -/
import Derived.Test.YtaglcpjjekaohaaClass
import Derived.Test.YtaglcpjjekaohaaBuilder
import Derived.Test.YtaglcpjjekaohaaQuoteMath
namespace Go.Proofs.Ytaglcpjjekaohaa.Quote
open Go.RowKit
open Go.Proofs.Ytaglcpjjekaohaa.Math
open Go.Proofs.Ytaglcpjjekaohaa.Class
open Go.Proofs.Ytaglcpjjekaohaa.Builder
open Go.Proofs.Ytaglcpjjekaohaa.QuoteMath
set_option linter.unusedVariables false

theorem ret_b {a b : Bool} (h : a = b) : Ending.returned (.bool a) = .returned (.bool b) := by rw [h]
theorem ret_s {a b : ByteArray} (h : a = b) : Ending.returned (.string a) = .returned (.string b) := by rw [h]
theorem ret_sb {a b : ByteArray} {c d : Bool} (h1 : a = b) (h2 : c = d) : Ending.returned (.tuple #[.string a, .bool c]) = .returned (.tuple #[.string b, .bool d]) := by rw [h1, h2]
theorem beq_lit (c : Nat) (k : Nat) : ((c : Int) == (k : Int)) = (c == k) := by
  by_cases h : c = k
  · subst h; simp
  · rw [beq_false_of_ne h, beq_false_of_ne (by omega)]
set_option maxHeartbeats 400000 in
theorem open_any (c : Nat) (w : World) : Calls Try.prog 23 #[.int .u8 c] w fun e w' => e = .returned (.bool (isO c)) ∧ w' = w := by
  by_cases h1 : c = 42
  · subst h1
    go_enter Try.func23, Try.ntmps23
    go_wp2
    go_ret
    exact ⟨rfl, rfl⟩
  · have t1 : ((c : Int) == 42) = false := by simp; omega
    by_cases h2 : c = 63
    · subst h2
      go_enter Try.func23, Try.ntmps23
      go_wp2
      go_ret
      exact ⟨rfl, rfl⟩
    · have t2 : ((c : Int) == 63) = false := by simp; omega
      have HO : Hid (isO c = (c == 91)) := by show _ = _; unfold isO; rw [beq_false_of_ne h1, beq_false_of_ne h2]; rfl
      have HB := hid_of (beq_lit c 91)
      clear h1 h2
      go_enter Try.func23, Try.ntmps23
      go_wp2
      go_ret
      exact ⟨ret_b (by rw [HO.out, ← HB.out]; rfl), rfl⟩

theorem cells_put (l : List UInt8) (c : UInt8) : Lib.byteCells l ++ [Value.int .u8 c.toNat] = Lib.byteCells (l ++ [c]) := by rw [Lib.byteCells_append]; rfl

set_option maxRecDepth 100000 in
set_option maxHeartbeats 1000000 in
theorem quote_any (s : ByteArray) (w : World) (hs : s.size ≤ 1000000000) :
    Calls Try.prog 16 #[.string s] w fun e w' => e = .returned (.string ⟨(quote (bs s)).toArray⟩) ∧ Below w.heap.size w w' := by
  go_enter Try.func16, Try.ntmps16
  go_wp2
  go_loopg [7] s.size (fun g s7 wx => ∃ k : Nat, k ≤ s.size ∧ s.size ≤ k + g ∧ s7 = .int .i64 k ∧ Hid (Lib.IsBuilder 39 5 w.heap.size w.heap.size (Lib.byteCells (quote ((bs s).take k))) wx) ∧ Hid (Below w.heap.size w wx))
  case atStart => exact ⟨0, by omega, by omega, rfl, Lib.fresh_isBuilder 39 5 w, (Below.refl _ w).alloc (Nat.le_refl _) _⟩
  case round =>
    obtain ⟨k, hk, hg, rfl, HB, HW⟩ := hrel
    have hsz := HW.out.size
    by_cases hlt : k < s.size
    · obtain ⟨g', rfl⟩ : ∃ g', gk = g' + 1 := ⟨gk - 1, by omega⟩
      have HL : Hid ((Lib.byteCells (quote ((bs s).take k))).length ≤ 2000000000) := by
        show _ ≤ _
        rw [Lib.byteCells_length]
        have := quote_len ((bs s).take k)
        rw [List.length_take] at this
        omega
      have HS := hid_of (take_snoc s k hlt)
      have HO := hid_of (open_any s[k].toNat)
      cases hq : isQ s[k].toNat with
      | true =>
        have H1 : Hid (quote ((bs s).take (k + 1)) = quote ((bs s).take k) ++ [92] ++ [s[k]]) := by show _ = _; rw [HS.out, quote_snoc, q1, if_pos hq]; simp
        have hcase : (isO s[k].toNat = true) ∨ (isO s[k].toNat = false ∧ ((s[k].toNat : Int) == 92) = true) := by
          unfold isQ at hq
          cases ho : isO s[k].toNat with
          | true => exact Or.inl rfl
          | false => rw [ho, Bool.false_or, beq_iff_eq] at hq; exact Or.inr ⟨rfl, by rw [hq]; rfl⟩
        clear hq
        rcases hcase with ho | ⟨ho, t92⟩
        all_goals
          rw [ho] at HO
          go_wp2_with (first
            | (go_at_call 23; refine (HO.out _).mono ?_; rintro e w1 ⟨rfl, rfl⟩)
            | (go_at_call 25; refine (put_byte _ _ _ _ _ HB.out (by have := HL.out; omega) hsz).mono ?_; rintro e w1 ⟨rfl, h1, b1⟩))
          have HB1 := hid_of h1
          have HW1 := hid_of (HW.out.trans b1)
          have hsz1 := HW1.out.size
          clear h1 b1 HB HW hsz
          go_wp2_with (go_at_call 25; refine (put_byte _ _ _ _ _ (Or.inr HB1.out) (by have := HL.out; simp; omega) hsz1).mono ?_; rintro e w2 ⟨rfl, h2, b2⟩)
          go_roundg g'
          case measure => omega
          case rel =>
            refine ⟨k + 1, hlt, by omega, rfl, ?_, HW1.out.trans b2⟩
            show Lib.IsBuilder 39 5 w.heap.size w.heap.size (Lib.byteCells (quote ((bs s).take (k + 1)))) _
            rw [H1.out, ← cells_put, ← cells_put]
            exact Or.inr h2
      | false =>
        have H1 : Hid (quote ((bs s).take (k + 1)) = quote ((bs s).take k) ++ [s[k]]) := by show _ = _; rw [HS.out, quote_snoc, q1, if_neg (by rw [hq]; decide)]
        have ho : isO s[k].toNat = false := by unfold isQ at hq; exact (Bool.or_eq_false_iff.1 hq).1
        have t92 : ((s[k].toNat : Int) == 92) = false := by
          unfold isQ at hq
          have := (Bool.or_eq_false_iff.1 hq).2
          simp at this ⊢; omega
        clear hq
        rw [ho] at HO
        go_wp2_with (first
          | (go_at_call 23; refine (HO.out _).mono ?_; rintro e w1 ⟨rfl, rfl⟩)
          | (go_at_call 25; refine (put_byte _ _ _ _ _ HB.out (by have := HL.out; omega) hsz).mono ?_; rintro e w1 ⟨rfl, h1, b1⟩))
        go_roundg g'
        case measure => omega
        case rel =>
          refine ⟨k + 1, hlt, by omega, rfl, ?_, HW.out.trans b1⟩
          show Lib.IsBuilder 39 5 w.heap.size w.heap.size (Lib.byteCells (quote ((bs s).take (k + 1)))) _
          rw [H1.out, ← cells_put]
          exact Or.inr h1
    · have HT := hid_of (take_all s k (by omega))
      go_wp2_with (go_at_call 26; refine (Try.builder_string _ _ _ _ HB.out hsz).mono ?_; rintro e w1 ⟨rfl, b1⟩)
      go_ret
      exact ⟨ret_s (by rw [HT.out]), HW.out.trans b1⟩

set_option maxRecDepth 100000 in
set_option maxHeartbeats 1000000 in
theorem plain_any (p : ByteArray) (w : World) (hp : p.size ≤ 1000000000) :
    Calls Try.prog 14 #[.string p] w fun e w' => e = .returned (.tuple #[.string (pS (bs p)), .bool (pB (bs p))]) ∧ Below w.heap.size w w' := by
  go_enter Try.func14, Try.ntmps14
  go_wp2
  go_loopg [5] p.size (fun g s5 wx => ∃ (k : Nat) (acc : List UInt8), k ≤ p.size ∧ p.size ≤ k + g ∧ s5 = .int .i64 k ∧ Hid (ReadTo p acc k) ∧ Hid (Lib.IsBuilder 39 5 w.heap.size w.heap.size (Lib.byteCells acc) wx) ∧ Hid (Below w.heap.size w wx))
  case atStart => exact ⟨0, [], by omega, by omega, rfl, read_start p, Lib.fresh_isBuilder 39 5 w, (Below.refl _ w).alloc (Nat.le_refl _) _⟩
  case round =>
    obtain ⟨k, acc, hk, hg, rfl, HR, HB, HW⟩ := hrel
    have hsz := HW.out.size
    by_cases hlt : k < p.size
    · have HO := hid_of (open_any p[k].toNat)
      cases ho : isO p[k].toNat with
      | true =>
        have HN := hid_of (read_open HR.out hlt ho)
        rw [ho] at HO
        clear ho
        go_wp2_with (go_at_call 23; refine (HO.out _).mono ?_; rintro e w1 ⟨rfl, rfl⟩)
        go_ret2
        exact ⟨ret_sb (by unfold pS; rw [HN.out]; rfl) (by unfold pB; rw [HN.out]; rfl), HW.out⟩
      | false =>
        obtain ⟨g', rfl⟩ : ∃ g', gk = g' + 1 := ⟨gk - 1, by omega⟩
        have HL : Hid ((Lib.byteCells acc).length ≤ 1000000000) := by
          show _ ≤ _
          rw [Lib.byteCells_length]
          have := HR.out.2
          omega
        by_cases e92 : p[k].toNat = 92 ∧ k + 1 < p.size
        · obtain ⟨e92, hk1⟩ := e92
          have HN := hid_of (read_esc HR.out hk1 e92)
          have HC := hid_of (fun w => literal_esc p k w hp hk1 e92)
          rw [ho] at HO
          clear ho e92
          go_wp2_with (first
            | (go_at_call 23; refine (HO.out _).mono ?_; rintro e w1 ⟨rfl, rfl⟩)
            | (go_at_call 24; refine (HC.out _).mono ?_; rintro e w1 ⟨rfl, rfl⟩)
            | (go_at_call 25; refine (put_byte _ _ _ _ _ HB.out (by have := HL.out; omega) hsz).mono ?_; rintro e w1 ⟨rfl, h1, b1⟩))
          rw [cells_put] at h1
          go_roundg g'
          case measure => omega
          case rel => exact ⟨k + 2, _, by omega, by omega, rfl, HN, Or.inr h1, HW.out.trans b1⟩
        · have HN := hid_of (read_one HR.out hlt ho e92)
          have HC := hid_of (fun w => literal_one p k w hp hlt e92)
          rw [ho] at HO
          clear ho e92
          go_wp2_with (first
            | (go_at_call 23; refine (HO.out _).mono ?_; rintro e w1 ⟨rfl, rfl⟩)
            | (go_at_call 24; refine (HC.out _).mono ?_; rintro e w1 ⟨rfl, rfl⟩)
            | (go_at_call 25; refine (put_byte _ _ _ _ _ HB.out (by have := HL.out; omega) hsz).mono ?_; rintro e w1 ⟨rfl, h1, b1⟩))
          rw [cells_put] at h1
          go_roundg g'
          case measure => omega
          case rel => exact ⟨k + 1, _, by omega, by omega, rfl, HN, Or.inr h1, HW.out.trans b1⟩
    · have HN := hid_of (read_end HR.out (by omega))
      go_wp2_with (go_at_call 26; refine (Try.builder_string _ _ _ _ HB.out hsz).mono ?_; rintro e w1 ⟨rfl, b1⟩)
      go_ret2
      exact ⟨ret_sb (by unfold pS; rw [HN.out]; rfl) (by unfold pB; rw [HN.out]; rfl), HW.out.trans b1⟩
end Go.Proofs.Ytaglcpjjekaohaa.Quote
