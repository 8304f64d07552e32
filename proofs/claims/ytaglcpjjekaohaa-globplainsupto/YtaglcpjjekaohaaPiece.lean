/- The contract of glob's takesByte. -/
import Derived.Test.YtaglcpjjekaohaaClass
namespace Go.Proofs.Ytaglcpjjekaohaa.Piece
open Go.RowKit
open Go.Proofs.Ytaglcpjjekaohaa.Math
open Go.Proofs.Ytaglcpjjekaohaa.Class
set_option linter.unusedVariables false

theorem int_beq (a b : Nat) : ((a : Int) == (b : Int)) = (a == b) := by
  by_cases h : a = b
  · subst h; simp
  · rw [beq_false_of_ne h, beq_false_of_ne (by omega)]

set_option maxHeartbeats 1000000 in
theorem piece_any (p : ByteArray) (i c : Nat) (w : World) (hp : p.size ≤ 1000000000) (hi : i < p.size) (hc : c < 256) :
    Calls Try.prog 18 #[.string p, .int .i64 i, .int .u8 c] w fun e w' => e = .returned (.tuple #[.int .i64 (PN p i), .bool (PT p c i)]) ∧ ∃ m, w' = w.drewN m := by
  by_cases e1 : p[i].toNat = 63
  · have ht : ((p[i].toNat : Int) == 63) = true := by rw [e1]; rfl
    have HN := hid_of (PN_mark hi e1)
    have HT := hid_of (PT_mark c hi e1)
    clear e1
    go_enter Try.func18, Try.ntmps18
    go_wp2
    go_ret2
    exact ⟨ret_ib (by rw [HN.out]; rfl) (by rw [HT.out]), drew_zero _⟩
  · have t1 : ((p[i].toNat : Int) == 63) = false := by simp; omega
    by_cases e2 : p[i].toNat = 91
    · have t2 : ((p[i].toNat : Int) == 91) = true := by rw [e2]; rfl
      have HN := hid_of (PN_class hi e2)
      have HT := hid_of (PT_class c hi e2)
      have HC := hid_of (fun w => takes_any p (i + 1) c w hp hi hc)
      clear e1 e2
      go_enter Try.func18, Try.ntmps18
      go_wp2_with (go_at_call 27; refine (HC.out _).mono ?_; rintro e w1 ⟨rfl, m1, rfl⟩)
      go_ret2
      exact ⟨ret_ib (by rw [HN.out]) (by rw [HT.out]), m1, rfl⟩
    · have t2 : ((p[i].toNat : Int) == 91) = false := by simp; omega
      by_cases e3 : p[i].toNat = 92 ∧ i + 1 < p.size
      · obtain ⟨e4, hi1⟩ := e3
        have HN := hid_of (PN_esc hi1 e4)
        have HT := hid_of (PT_esc c hi1 e4)
        have HC := hid_of (fun w => literal_esc p i w hp hi1 e4)
        clear e1 e2 e4
        go_enter Try.func18, Try.ntmps18
        go_wp2_with (go_at_call 24; refine (HC.out _).mono ?_; rintro e w1 ⟨rfl, rfl⟩)
        go_ret2
        exact ⟨ret_ib (by rw [HN.out]; rfl) (by rw [HT.out, ← int_beq]), drew_zero _⟩
      · have HN := hid_of (PN_else hi e1 e2 e3)
        have HT := hid_of (PT_else c hi e1 e2 e3)
        have HC := hid_of (fun w => literal_one p i w hp hi e3)
        clear e1 e2 e3
        go_enter Try.func18, Try.ntmps18
        go_wp2_with (go_at_call 24; refine (HC.out _).mono ?_; rintro e w1 ⟨rfl, rfl⟩)
        go_ret2
        exact ⟨ret_ib (by rw [HN.out]; rfl) (by rw [HT.out, ← int_beq]), drew_zero _⟩
end Go.Proofs.Ytaglcpjjekaohaa.Piece
